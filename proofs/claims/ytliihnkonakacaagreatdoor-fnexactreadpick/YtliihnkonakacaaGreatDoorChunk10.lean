/- Chapter 10: slices.Chunk at tokens, two by two. -/
import Derived.Test.YtliihnkonakacaaGreatDoorSeq10
import Derived.Test.YtliihnkonakacaaGreatDoorRead9
import Derived.Shelf.RegionOpen
namespace Go.Proofs.YtliihnkonakacaaGreatDoor.B10
open Go.Proofs.YtliihnkonakacaaGreatDoor.P1 Go.Proofs.YtliihnkonakacaaGreatDoor.B1 Go.Proofs.YtliihnkonakacaaGreatDoor.B2 Go.Proofs.YtliihnkonakacaaGreatDoor.T1 Go.Proofs.YtliihnkonakacaaGreatDoor.BT Go.Proofs.YtliihnkonakacaaGreatDoor.P5 Go.Proofs.YtliihnkonakacaaGreatDoor.P6 Go.Proofs.YtliihnkonakacaaGreatDoor.P9 Go.Proofs.YtliihnkonakacaaGreatDoor.B5 Go.Proofs.YtliihnkonakacaaGreatDoor.B9 Go.Proofs.YtliihnkonakacaaGreatDoor.D1 Go.Proofs.YtliihnkonakacaaGreatDoor.W8 Go.Proofs.YtliihnkonakacaaGreatDoor.RC Go.Proofs.YtliihnkonakacaaGreatDoor.P10
open Go.ChangeShapes Go.WideShapes Go.ChangeAt Go.RowKit Go.Shelf
set_option linter.unusedVariables false

attribute [local go_sem] Oper.semAt_some

/-- Two by two. -/
def chunks : List Tok → List (List Tok)
  | a :: b :: r => [a, b] :: chunks r
  | [a] => [[a]]
  | [] => []

theorem chunks_at : ∀ (k : Nat) (ts : List Tok), 2 * k < ts.length → (chunks ts)[k]? = some ((ts.drop (2 * k)).take 2)
  | _, [], h => absurd h (Nat.not_lt_zero _)
  | 0, [a], _ => rfl
  | 0, a :: b :: r, _ => rfl
  | k + 1, [a], h => by simp at h
  | k + 1, a :: b :: r, h => by
    show (chunks r)[k]? = _
    rw [chunks_at k r (by simp at h; omega), show 2 * (k + 1) = 2 * k + 1 + 1 by omega]
    rfl

theorem chunks_len : ∀ (ts : List Tok), 2 * (chunks ts).length ≤ ts.length + 1 ∧ ts.length ≤ 2 * (chunks ts).length
  | [] => by simp [chunks]
  | [a] => by simp [chunks]
  | a :: b :: r => by
    have := chunks_len r
    simp only [chunks, List.length_cons]
    omega

/-- A piece of one or two tokens out of a slice of tokens. -/
abbrev Ck (v : Value) (ts : List Tok) := { q : Value × List Tok // (∀ W, TokSlc W v ts → TokSlc W q.1 q.2) ∧ 1 ≤ q.2.length ∧ q.2.length ≤ 2 ∧ ∀ x ∈ q.2, x ∈ ts }

theorem piece_slc {W : World} {g off i e : Nat} {ts : List Tok} (h : RC.At 3 W g off (tokRs ts)) (he : ((ts.drop i).take 2).length = e) (h9 : e ≤ 9) : TokSlc W (.slice (some ⟨g, off + i * 3, none⟩) e e) ((ts.drop i).take 2) := by
  have hl : (tokRs ((ts.drop i).take 2)).length = e := by rw [tokRs_len, he]
  refine ⟨_, e, by rw [hl], by rw [hl]; exact Nat.le_refl _, by omega, fun _ => ⟨g, off + i * 3, rfl, fun j r hr k v hv => ?_, h.lt⟩⟩
  have := h.cells (i + j) r (by
    unfold tokRs at hr ⊢
    rw [List.map_take, List.map_drop, List.getElem?_take] at hr
    split at hr
    · rw [List.getElem?_drop] at hr; exact hr
    · cases hr) k v hv
  rw [show off + i * 3 + j * 3 + k = off + (i + j) * 3 + k by rw [Nat.add_mul]; omega]
  exact this

theorem piece_len {ts : List Tok} {i e len : Nat} (hl : ts.length = len) (h : (e = 2 ∧ i + 2 ≤ len) ∨ (e = 1 ∧ i + 1 = len)) : ((ts.drop i).take 2).length = e := by
  rw [List.length_take, List.length_drop, hl]
  omega

def ckOf {g off len cap : Nat} {ts : List Tok} (hl : ts.length = len) (hne : ts ≠ []) (i e : Nat) (h : (e = 2 ∧ i + 2 ≤ len) ∨ (e = 1 ∧ i + 1 = len)) : Ck (.slice (some ⟨g, off, none⟩) len cap) ts :=
  ⟨(.slice (some ⟨g, off + i * 3, none⟩) e e, (ts.drop i).take 2), fun W hW => piece_slc (at_of_slc hW hne) (piece_len hl h) (by omega), by show 1 ≤ ((ts.drop i).take 2).length; rw [piece_len hl h]; omega, by show ((ts.drop i).take 2).length ≤ 2; rw [piece_len hl h]; omega, fun x hx => List.mem_of_mem_drop (List.mem_of_mem_take hx)⟩

theorem tok_mid (g off L C i j e : Nat) (he : 1 ≤ e) (hj : i + e = j) (h1 : j ≤ L) (hLC : L ≤ C) (w : World) : (Instr.slice 27 (.slice (some ⟨g, off, none⟩) L C) (some (.int .i64 (i : Int))) (some (.int .i64 (j : Int))) (some (.int .i64 (j : Int)))).run Tryz.prog w = .ok (.slice (some ⟨g, off + i * 3, none⟩) e e) w := by
  have z3 := Tryz.sizeOf73
  have h' : (j : Int) ≤ (C : Int) := by omega
  have h2 : (i : Int) ≤ (j : Int) := by omega
  obtain rfl : e = j - i := by omega
  have hne : j ≠ i := by omega
  go_simp

/-- What a round keeps for slices.Chunk: its two boxes. -/
def TwoKept (Bs Bn : Nat) (A B : World) : Prop := B.heap[Bs]? = A.heap[Bs]? ∧ B.heap[Bn]? = A.heap[Bn]?

theorem TwoKept.trans {Bs Bn : Nat} {A B C : World} (h : TwoKept Bs Bn A B) (k : TwoKept Bs Bn B C) : TwoKept Bs Bn A C := ⟨k.1.trans h.1, k.2.trans h.2⟩

theorem TwoKept.put {Bs Bn : Nat} {w : World} (h1 : Bs < w.heap.size) (h2 : Bn < w.heap.size) (W : World) (l : Nat) (o o' : Obj) (hl : w.heap.size ≤ l) (h : W.heap[l]? = some o) (_ : o.isCells = false) (_ : o.isWalk = false) : TwoKept Bs Bn W (W.putObj l o') :=
  ⟨World.putObj_heap_other (by omega), World.putObj_heap_other (by omega)⟩

theorem TwoKept.cell1 {Bs Bn : Nat} {A B : World} (h : TwoKept Bs Bn A B) {v : Value} (hc : A.cell? ⟨Bs, 0, none⟩ = some v) : B.cell? ⟨Bs, 0, none⟩ = some v := (World.cell?_of_block (a := ⟨Bs, 0, none⟩) h.1).trans hc
theorem TwoKept.cell2 {Bs Bn : Nat} {A B : World} (h : TwoKept Bs Bn A B) {v : Value} (hc : A.cell? ⟨Bn, 0, none⟩ = some v) : B.cell? ⟨Bn, 0, none⟩ = some v := (World.cell?_of_block (a := ⟨Bn, 0, none⟩) h.2).trans hc

set_option maxRecDepth 100000 in
set_option maxHeartbeats 4000000 in
/-- slices.Chunk's closure, for whatever body that keeps its two boxes. -/
theorem chunk1_in (F : Fence) (n : Nat) (h7 : F.fn 181) (hro : F.round = none) (hn : 1 ≤ n) (l Bs Bn g off len cap : Nat) (ts : List Tok) (hl : ts.length = len) (hne : ts ≠ []) (hlc : len ≤ cap) (hreach : len ≤ 2000000)
    (J Jx : List (Ck (.slice (some ⟨g, off, none⟩) len cap) ts) → World → Prop) (hJd : ∀ pre W, J pre W → J pre W.drew)
    (hY : ∀ pre x W, J pre W → pre.length < len + 1 → YieldAt F (n - 1) Tryz.prog l #[x.1.1] W fun e W' =>
      (e = .returned (.bool true) ∧ J (pre ++ [x]) W' ∧ TwoKept Bs Bn W W') ∨ (e = .returned (.bool false) ∧ Jx (pre ++ [x]) W'))
    (W : World) (hBs : W.cell? ⟨Bs, 0, none⟩ = some (.slice (some ⟨g, off, none⟩) len cap)) (hBn : W.cell? ⟨Bn, 0, none⟩ = some (.int .i64 2)) (h0 : J [] W) :
    CallsIn F n Tryz.prog 181 #[.func (.yield l) #[] #[], .pointer (some ⟨Bs, 0, none⟩), .pointer (some ⟨Bn, 0, none⟩)] W fun e W' => (∃ v, e = .returned v) ∧
      ((∃ ys : List (Ck (.slice (some ⟨g, off, none⟩) len cap) ts), ys.map (fun x => x.1.2) = chunks ts ∧ J ys W') ∨ (∃ pre : List (Ck (.slice (some ⟨g, off, none⟩) len cap) ts), (∃ k, pre.map (fun x => x.1.2) = (chunks ts).take k) ∧ Jx pre W')) := by
  refine callsIn_of_wp Tryz.func181 rfl h7 ?_ hro
  have hmx : Tryz.prog.follows .mixedOrders = true := by kernel_rfl
  have HK := Lib.hid (fun k (hk : 2 * k < len) => chunks_at k ts (by rw [hl]; exact hk))
  have HLN := Lib.hid (chunks_len ts)
  rw [hl] at HLN
  have hlc' : (len : Int) ≤ (cap : Int) := by omega
  have hr' : (len : Int) ≤ 2000000 := by omega
  simp only [Tryz.ntmps181, List.size_toArray, List.length_cons, List.length_nil, Nat.reduceAdd, Nat.reduceSub, Array.replicate_succ, Array.replicate_zero, List.push_toArray, List.append_toArray, List.nil_append, List.cons_append]
  gi_wp2
  gi_loopw [4] (fun s4 wr => ∃ (k : Nat) (pre : List (Ck (.slice (some ⟨g, off, none⟩) len cap) ts)), s4 = .int .i64 ((2 * k : Nat) : Int) ∧ pre.length = k ∧ 2 * k ≤ len + 1 ∧ Hid (pre.map (fun x => x.1.2) = (chunks ts).take k) ∧ J pre wr ∧ wr.cell? ⟨Bs, 0, none⟩ = some (.slice (some ⟨g, off, none⟩) len cap) ∧ wr.cell? ⟨Bn, 0, none⟩ = some (.int .i64 2))
    (fun s4 _ => len + 2 - (intOf s4).toNat)
  case atStart => exact ⟨0, [], rfl, rfl, Nat.zero_le _, Lib.hid rfl, h0, hBs, hBn⟩
  case round =>
    obtain ⟨k, pre, rfl, hpk, hk, HP, hJs, hs1, hs2⟩ := hrel
    obtain ⟨i, ei⟩ : ∃ i, 2 * k = i := ⟨_, rfl⟩
    rw [ei] at hk ⊢
    by_cases hlt : i < len
    · have hlt' : (i : Int) < (len : Int) := by omega
      have i0' : (0 : Int) ≤ (i : Int) := by omega
      rcases (show i + 2 ≤ len ∨ i + 1 = len by omega) with h2 | h2
      · obtain ⟨j, ej⟩ : ∃ j, i + 2 = j := ⟨_, rfl⟩
        have hw1 : IntKind.i64.wrap ((i : Int) + 2) = (j : Int) := by rw [IntKind.wrap_i64]; omega
        have hw2 : IntKind.i64.wrap ((i : Int) + 2) = ((2 * (k + 1) : Nat) : Int) := by rw [IntKind.wrap_i64]; omega
        have HS := fun w' => tok_from g off len cap i (by omega) hlc w'
        obtain ⟨D0, eD⟩ : ∃ D0 : Addr, (if cap = i then (⟨g, off, none⟩ : Addr) else ⟨g, off + i * 3, none⟩) = D0 := ⟨_, rfl⟩
        rw [eD] at HS
        have HM := fun w' => tok_mid g off len cap i j 2 (by decide) ej (by omega) hlc w'
        have hmin : min (2 : Int) ((len - i : Nat) : Int) = 2 := by omega
        obtain ⟨fn, tmps, assign, body, hy, hR⟩ := hY pre (ckOf hl hne i 2 (Or.inl ⟨rfl, h2⟩)) wr.drew (hJd pre wr hJs) (by omega)
        have HC := Lib.hid (show (pre ++ [ckOf (g := g) (off := off) (cap := cap) hl hne i 2 (Or.inl ⟨rfl, h2⟩)]).map (fun x => x.1.2) = (chunks ts).take (k + 1) by
          rw [List.map_append, HP.out, List.take_add_one, HK.out k (by omega), ei]; rfl)
        dsimp only [ckOf] at hy
        have hs1d : wr.drew.cell? ⟨Bs, 0, none⟩ = some (.slice (some ⟨g, off, none⟩) len cap) := hs1
        have hs2d : wr.drew.cell? ⟨Bn, 0, none⟩ = some (.int .i64 2) := hs2
        clear eD
        gi_wp2
        gi_region_with_o (fail)
        all_goals gi_wp2
        all_goals (refine hR.mono ?_)
        all_goals
          rintro e W3 (⟨rfl, hJ3, hk3⟩ | ⟨rfl, hJx3⟩)
          · have hs23 := hk3.cell2 hs2d
            have hs13 := hk3.cell1 hs1d
            gi_wp2
            go_roundw
            case rel => exact ⟨k + 1, _, (by first | rfl | (congr 1; omega)), by simp; omega, by omega, HC, hJ3, hs13, hs23⟩
            case measure => simp [intOf]; omega
          · gi_wp2
            refine bodyPost_ret (results_none rfl _ _ _) rfl ?_
            exact ⟨⟨_, rfl⟩, .inr ⟨_, ⟨k + 1, HC.out⟩, hJx3⟩⟩
      · obtain ⟨j, ej⟩ : ∃ j, i + 1 = j := ⟨_, rfl⟩
        have hw1 : IntKind.i64.wrap ((i : Int) + 1) = (j : Int) := by rw [IntKind.wrap_i64]; omega
        have hw2 : IntKind.i64.wrap ((i : Int) + 2) = ((2 * (k + 1) : Nat) : Int) := by rw [IntKind.wrap_i64]; omega
        have HS := fun w' => tok_from g off len cap i (by omega) hlc w'
        obtain ⟨D0, eD⟩ : ∃ D0 : Addr, (if cap = i then (⟨g, off, none⟩ : Addr) else ⟨g, off + i * 3, none⟩) = D0 := ⟨_, rfl⟩
        rw [eD] at HS
        have HM := fun w' => tok_mid g off len cap i j 1 (by decide) ej (by omega) hlc w'
        have hmin : min (2 : Int) ((len - i : Nat) : Int) = 1 := by omega
        obtain ⟨fn, tmps, assign, body, hy, hR⟩ := hY pre (ckOf hl hne i 1 (Or.inr ⟨rfl, h2⟩)) wr.drew (hJd pre wr hJs) (by omega)
        have HC := Lib.hid (show (pre ++ [ckOf (g := g) (off := off) (cap := cap) hl hne i 1 (Or.inr ⟨rfl, h2⟩)]).map (fun x => x.1.2) = (chunks ts).take (k + 1) by
          rw [List.map_append, HP.out, List.take_add_one, HK.out k (by omega), ei]; rfl)
        dsimp only [ckOf] at hy
        have hs1d : wr.drew.cell? ⟨Bs, 0, none⟩ = some (.slice (some ⟨g, off, none⟩) len cap) := hs1
        have hs2d : wr.drew.cell? ⟨Bn, 0, none⟩ = some (.int .i64 2) := hs2
        clear eD
        gi_wp2
        gi_region_with_o (fail)
        all_goals gi_wp2
        all_goals (refine hR.mono ?_)
        all_goals
          rintro e W3 (⟨rfl, hJ3, hk3⟩ | ⟨rfl, hJx3⟩)
          · have hs23 := hk3.cell2 hs2d
            have hs13 := hk3.cell1 hs1d
            gi_wp2
            go_roundw
            case rel => exact ⟨k + 1, _, (by first | rfl | (congr 1; omega)), by simp; omega, by omega, HC, hJ3, hs13, hs23⟩
            case measure => simp [intOf]; omega
          · gi_wp2
            refine bodyPost_ret (results_none rfl _ _ _) rfl ?_
            exact ⟨⟨_, rfl⟩, .inr ⟨_, ⟨k + 1, HC.out⟩, hJx3⟩⟩
    · have hlt' : ¬ (i : Int) < (len : Int) := by omega
      have HD := Lib.hid (show pre.map (fun x => x.1.2) = chunks ts by rw [HP.out, List.take_of_length_le (by have := HLN.out; omega)])
      gi_wp2
      go_end0
      exact ⟨⟨_, rfl⟩, .inl ⟨pre, HD.out, hJs⟩⟩

set_option maxRecDepth 100000 in
set_option maxHeartbeats 1000000 in
/-- .. where there is none: no round. -/
theorem chunk1_nil_in (F : Fence) (n : Nat) (h7 : F.fn 181) (hro : F.round = none) (l Bs Bn cap : Nat) (a : Option Addr) (W : World) (hBs : W.cell? ⟨Bs, 0, none⟩ = some (.slice a 0 cap)) (J : World → Prop) (h0 : J W) :
    CallsIn F n Tryz.prog 181 #[.func (.yield l) #[] #[], .pointer (some ⟨Bs, 0, none⟩), .pointer (some ⟨Bn, 0, none⟩)] W fun e W' => (∃ v, e = .returned v) ∧ J W' := by
  refine callsIn_of_wp Tryz.func181 rfl h7 ?_ hro
  simp only [Tryz.ntmps181, List.size_toArray, List.length_cons, List.length_nil, Nat.reduceAdd, Nat.reduceSub, Array.replicate_succ, Array.replicate_zero, List.push_toArray, List.append_toArray, List.nil_append, List.cons_append]
  gi_wp2
  gi_loopw [4] (fun i wr => i = .int .i64 0 ∧ wr = W) (fun _ _ => 0)
  case atStart => exact ⟨rfl, rfl⟩
  case round =>
    obtain ⟨rfl, rfl⟩ := hrel
    gi_wp2
    go_end0
    exact ⟨⟨_, rfl⟩, h0⟩

set_option maxHeartbeats 1000000 in
theorem chunk_in (F : Fence) (n : Nat) (h5 : F.fn 143) (hro : F.round = none) (a : Option Addr) (len cap : Nat) (w : World) :
    CallsIn F n Tryz.prog 143 #[.slice a len cap, .int .i64 2] w fun e w' => e = .returned (.func (.func 181) #[] #[.pointer (some ⟨w.heap.size, 0, none⟩), .pointer (some ⟨w.heap.size + 1, 0, none⟩)]) ∧ w' = (w.alloc (.cells #[.slice a len cap] 27)).alloc (.cells #[.int .i64 2] 3) := by
  refine callsIn_of_wp Tryz.func143 rfl h5 ?_ hro
  simp only [Tryz.ntmps143, List.size_toArray, List.length_cons, List.length_nil, Nat.reduceAdd, Nat.reduceSub, Array.replicate_succ, Array.replicate_zero, List.push_toArray, List.append_toArray, List.nil_append, List.cons_append]
  gi_wp2
  go_ret
  exact ⟨rfl, rfl⟩

theorem drewG (W : World) : W.grownBy W.drew none := ⟨rfl, rfl, rfl, Nat.le_refl _, fun _ _ _ => rfl⟩

theorem chunk_stops (F : Fence) (n : Nat) (h7 : F.fn 181) (hro : F.round = none) (hn : 1 ≤ n) (Bs Bn : Nat) (v : Value) (ts : List Tok) (hreach : ts.length ≤ 2000000) (w : World) (hBs : Bs < w.heap.size) (hBn : Bn < w.heap.size)
    (hc1 : w.cell? ⟨Bs, 0, none⟩ = some v) (hc2 : w.cell? ⟨Bn, 0, none⟩ = some (.int .i64 2)) (hI : TokSlc w v ts) :
    SeqStopsK F n Tryz.prog 181 #[.pointer (some ⟨Bs, 0, none⟩), .pointer (some ⟨Bn, 0, none⟩)] (fun x : Ck v ts => #[x.1.1]) (TwoKept Bs Bn) (fun ys => ys.map (fun x => x.1.2) = chunks ts) (fun pre => ∃ k, pre.map (fun x => x.1.2) = (chunks ts).take k) (ts.length + 1) w := fun l J Jx W hW hJ _ hY h0 => by
  have hc1' := (hW.cell (p := ⟨Bs, 0, none⟩) hBs).trans hc1
  have hc2' := (hW.cell (p := ⟨Bn, 0, none⟩) hBn).trans hc2
  obtain ⟨a, cap, rfl, hlc, hcap, hA⟩ := hI.form
  by_cases hz : ts = []
  · subst hz
    exact (chunk1_nil_in F n h7 hro l Bs Bn cap a W hc1' (J []) h0).mono fun e W' ⟨he, hj⟩ => ⟨he, .inl ⟨[], rfl, hj⟩⟩
  · obtain ⟨b, off, rfl, hat⟩ := hA hz
    exact chunk1_in F n h7 hro hn l Bs Bn b off ts.length cap ts rfl hz hlc hreach J Jx (fun pre W1 h => hJ pre W1 W1.drew none h (drewG W1) (fun r e => by cases e)) hY W hc1' hc2' h0

theorem Chunk_impl (a : Option Addr) (len cap : Nat) (w : World) :
    Calls Tryz.prog 143 #[.slice a len cap, .int .i64 2] w fun e w' => e = .returned (.func (.func 181) #[] #[.pointer (some ⟨w.heap.size, 0, none⟩), .pointer (some ⟨w.heap.size + 1, 0, none⟩)]) ∧ w' = (w.alloc (.cells #[.slice a len cap] 27)).alloc (.cells #[.int .i64 2] 3) :=
  callsIn_wide.1 (chunk_in Fence.wide 1 trivial rfl a len cap w)

end Go.Proofs.YtliihnkonakacaaGreatDoor.B10
