/- Chapter 9: how the program cuts tokens: slices.Index, cutAt; what gives up. -/
import Derived.Test.YtliihnkonakacaaGreatDoorImp5i
import Derived.Test.YtliihnkonakacaaGreatDoorPlain9p
import Derived.Test.YtliihnkonakacaaGreatDoorBase5n
import Derived.Test.YtliihnkonakacaaGreatDoorPlain10
namespace Go.Proofs.YtliihnkonakacaaGreatDoor.B9
open Go.Proofs.YtliihnkonakacaaGreatDoor.P1 Go.Proofs.YtliihnkonakacaaGreatDoor.B1 Go.Proofs.YtliihnkonakacaaGreatDoor.B2 Go.Proofs.YtliihnkonakacaaGreatDoor.T1 Go.Proofs.YtliihnkonakacaaGreatDoor.BT Go.Proofs.YtliihnkonakacaaGreatDoor.P5 Go.Proofs.YtliihnkonakacaaGreatDoor.P6 Go.Proofs.YtliihnkonakacaaGreatDoor.P8 Go.Proofs.YtliihnkonakacaaGreatDoor.P9 Go.Proofs.YtliihnkonakacaaGreatDoor.P10 Go.Proofs.YtliihnkonakacaaGreatDoor.B5 Go.Proofs.YtliihnkonakacaaGreatDoor.D1 Go.Proofs.YtliihnkonakacaaGreatDoor.W8 Go.Proofs.YtliihnkonakacaaGreatDoor.RI
open Go.ChangeShapes Go.WideShapes Go.ChangeAt Go.RowKit
set_option linter.unusedVariables false

/-- A place as slices.Index tells it. -/
def placeZ (q : Option Nat) : Int := match q with
  | none => -1
  | some i => (i : Int)

theorem place_some {t : Tok} {ts : List Tok} {i : Nat} {x : Tok} (hx : ts[i]? = some x) (hs : x.same t = true) (h : ∀ j y, j < i → ts[j]? = some y → y.same t = false) : placeT t ts = some i := by
  unfold placeT
  rw [List.findIdx?_eq_some_iff_getElem]
  obtain ⟨hi, e⟩ := List.getElem?_eq_some_iff.1 hx
  refine ⟨hi, by rw [e]; exact hs, fun j hj => ?_⟩
  have := h j (ts[j]'(by omega)) hj (List.getElem?_eq_getElem (by omega))
  simp [this]

theorem place_none {t : Tok} {ts : List Tok} (h : ∀ j y, j < ts.length → ts[j]? = some y → y.same t = false) : placeT t ts = none := by
  unfold placeT
  rw [List.findIdx?_eq_none_iff]
  intro x hx
  obtain ⟨j, hj, e⟩ := List.getElem_of_mem hx
  exact h j x hj (by rw [List.getElem?_eq_getElem hj, e])

theorem same_comm (x y : Tok) : x.same y = y.same x := by
  rw [Bool.eq_iff_iff, Tok.same_iff, Tok.same_iff]
  exact eq_comm

set_option maxRecDepth 20000 in
set_option maxHeartbeats 2000000 in
theorem Index_impl (t : Tok) (ts : List Tok) (v : Value) (w : World) (h : TokSlc w v ts) (hs : ts.length ≤ 2000000) :
    Calls Tryz.prog 127 #[v, tokV t] w (Ans (.int .i64 (placeZ (placeT t ts))) w) := by
  obtain ⟨a, cap, rfl, hnc, hcap, HA0⟩ := h.form
  obtain ⟨n, hn⟩ : ∃ n, ts.length = n := ⟨_, rfl⟩
  rw [hn] at hnc hs ⊢
  have HN := Lib.hid hn
  have HR := Lib.hid HA0
  have hnc' : (n : Int) ≤ (cap : Int) := by omega
  have hs' : (n : Int) ≤ 2000000 := by omega
  have HPL := Lib.hid (show placeT t ts = placeT t ts from rfl)
  have hl0 : LBlk (w.alloc (.cells #[.int .i64 t.k, .string ⟨t.t.toArray⟩, .int .i64 t.n] 73)) w.heap.size [.int .i64 t.k, .string ⟨t.t.toArray⟩, .int .i64 t.n] := LBlk.new w _ _
  have hB0 : Below w.heap.size w (w.alloc (.cells #[.int .i64 t.k, .string ⟨t.t.toArray⟩, .int .i64 t.n] 73)) := (Below.refl _ _).alloc (Nat.le_refl _) _
  clear hn h HA0 hcap HPL
  unfold tokV
  go_enter Tryz.func127, Tryz.ntmps127
  go_wp2_with fail
  go_loopg [8] n (fun kx s8 wr => ∃ i : Nat, s8 = .int .i64 (i : Int) ∧ kx + i = n ∧ Hid (∀ j y, j < i → ts[j]? = some y → y.same t = false) ∧ LBlk wr w.heap.size [.int .i64 t.k, .string ⟨t.t.toArray⟩, .int .i64 t.n] ∧ Below w.heap.size w wr)
  case atStart => exact ⟨0, rfl, by omega, Lib.hid fun j x hj => absurd hj (Nat.not_lt_zero _), hl0, hB0⟩
  case round =>
    obtain ⟨i, rfl, hk, I, hl, hB⟩ := hrel
    clear hl0 hB0
    by_cases hlt : i < n
    · have hlt' : (i : Int) < (n : Int) := by omega
      have i0' : (0 : Int) ≤ (i : Int) := by omega
      obtain ⟨x, hx⟩ : ∃ x, ts[i]? = some x := ⟨_, List.getElem?_eq_getElem (by rw [HN.out]; exact hlt)⟩
      obtain ⟨g, off, rfl, hat⟩ := HR.out (by intro e0; rw [e0] at hx; cases hx)
      obtain ⟨c0, c1, c2⟩ := three_at (hat.on hB) hx
      have d0 := (hl.2 0 _ rfl).1
      have d1 := (hl.2 1 _ rfl).1
      have d2 := (hl.2 2 _ rfl).1
      have heq := fun w' => eq_token t.k t.n x.k x.n t.t x.t w'
      rw [Tok_eta, Tok_eta, same_comm] at heq
      have HX := Lib.hid hx
      clear hx hat
      cases hsm : x.same t
      · have HI := Lib.hid (show ∀ j y, j < i + 1 → ts[j]? = some y → y.same t = false from fun j y hj hy => by
          rcases Nat.lt_or_eq_of_le (Nat.le_of_lt_succ hj) with h | h
          · exact I.out j y h hy
          · rw [h, HX.out] at hy; cases hy; exact hsm)
        rw [hsm] at heq
        clear hsm
        go_wp2_with fail
        go_quiet (fail)
        go_wp2_with fail
        go_roundg (n - (i + 1))
        case measure => omega
        case rel => exact ⟨i + 1, by go_num, by omega, HI, hl.drew, ⟨hB.os, hB.tape, hB.output, hB.size, hB.block⟩⟩
      · have HF := Lib.hid (place_some HX.out hsm I.out)
        rw [hsm] at heq
        clear hsm
        go_wp2_with fail
        go_quiet (fail)
        go_wp2_with fail
        go_ret
        exact ⟨by rw [HF.out]; rfl, ⟨hB.os, hB.tape, hB.output, hB.size, hB.block⟩⟩
    · have hlt' : ¬ (i : Int) < (n : Int) := by omega
      have HF := Lib.hid (place_none (t := t) (ts := ts) (fun j y hj hy => I.out j y (by rw [HN.out] at hj; omega) hy))
      go_wp2_with fail
      go_ret
      exact ⟨by rw [HF.out]; rfl, hB⟩

/-- What stands ahead and what behind. -/
def Cuts (c : UInt8) (ts : List Tok) (w : World) (e : Ending) (w' : World) : Prop :=
  ∃ p b is, e = .returned (.tuple #[p, b, .bool is]) ∧ Below w.heap.size w w' ∧ match cutT c ts with
    | none => is = false ∧ TokSlc w' p ts ∧ TokSlc w' b []
    | some (x, y) => is = true ∧ TokSlc w' p x ∧ TokSlc w' b y

theorem nil_slc (w : World) : TokSlc w (.slice none 0 0) [] := ⟨none, 0, rfl, Nat.le_refl _, by decide, fun h => absurd rfl h⟩

theorem tok_to (g off L C K : Nat) (h : K ≤ C) (w : World) : (Instr.slice 27 (.slice (some ⟨g, off, none⟩) L C) none (some (.int .i64 (K : Int))) none).run Tryz.prog w = .ok (.slice (some ⟨g, off, none⟩) K C) w := by
  have z3 := Tryz.sizeOf73
  have h' : (K : Int) ≤ (C : Int) := by omega
  by_cases hC : C = 0
  · subst hC
    obtain rfl : K = 0 := by omega
    go_simp
  · go_simp

theorem tok_from (g off L C K : Nat) (h : K ≤ L) (hC : L ≤ C) (w : World) : (Instr.slice 27 (.slice (some ⟨g, off, none⟩) L C) (some (.int .i64 (K : Int))) none none).run Tryz.prog w = .ok (.slice (some (if C = K then ⟨g, off, none⟩ else ⟨g, off + K * 3, none⟩)) (L - K) (C - K)) w := by
  have z3 := Tryz.sizeOf73
  have h' : (K : Int) ≤ (L : Int) := by omega
  by_cases hne : C = K
  · subst hne
    obtain rfl : L = C := by omega
    go_simp
  · go_simp

theorem tokRs_nine (ts : List Tok) : ∀ r ∈ tokRs ts, r.length = 3 := fun r hr => by
  obtain ⟨n, _, rfl⟩ := List.mem_map.1 hr
  rfl

theorem slc_take {w : World} {g off cap i : Nat} {ts : List Tok} (h : RC.At 3 w g off (tokRs ts)) (hi : i < ts.length) (hc : ts.length ≤ cap) (ht : cap ≤ 9223372036854775807) : TokSlc w (.slice (some ⟨g, off, none⟩) i cap) (ts.take i) := by
  have hl : (tokRs (ts.take i)).length = i := by rw [tokRs_len, List.length_take]; omega
  refine ⟨_, cap, by rw [hl], by rw [hl]; omega, ht, fun _ => ⟨g, off, rfl, fun j r hr k v hv => ?_, h.lt⟩⟩
  refine h.cells j r ?_ k v hv
  unfold tokRs at hr ⊢
  rw [List.map_take, List.getElem?_take] at hr
  split at hr
  · exact hr
  · cases hr

theorem slc_drop {w : World} {g off cap K n : Nat} {ts : List Tok} (h : RC.At 3 w g off (tokRs ts)) (hn : ts.length = n) (hK : K ≤ n) (hc : n ≤ cap) (ht : cap ≤ 9223372036854775807) : TokSlc w (.slice (some (if cap = K then ⟨g, off, none⟩ else ⟨g, off + K * 3, none⟩)) (n - K) (cap - K)) (ts.drop K) := by
  have hl : (tokRs (ts.drop K)).length = n - K := by rw [tokRs_len, List.length_drop, hn]
  refine ⟨_, cap - K, by rw [hl], by rw [hl]; omega, by omega, fun hne => ?_⟩
  have hlt : K < n := by
    by_cases h0 : K < n
    · exact h0
    · exact absurd (List.length_eq_zero_iff.1 (by rw [hl]; omega)) hne
  rw [if_neg (by omega)]
  refine ⟨g, off + K * 3, rfl, fun j r hr k v hv => ?_, h.lt⟩
  have := h.cells (K + j) r (by
    unfold tokRs at hr ⊢
    rw [List.map_drop, List.getElem?_drop] at hr
    exact hr) k v hv
  rw [show off + K * 3 + j * 3 + k = off + (K + j) * 3 + k by rw [Nat.add_mul]; omega]
  exact this

/-- The same, for whatever world the slice is one of these tokens in, and whatever token. -/
def CutsK (t : Tok) (ts : List Tok) (v : Value) (w : World) (e : Ending) (w' : World) : Prop :=
  ∃ p b is, e = .returned (.tuple #[p, b, .bool is]) ∧ Below w.heap.size w w' ∧ match cutK t ts with
    | none => is = false ∧ p = v ∧ b = .slice none 0 0
    | some (x, y) => is = true ∧ ∀ W, TokSlc W v ts → TokSlc W p x ∧ TokSlc W b y

def Cuts2 (c : UInt8) (ts : List Tok) (v : Value) (w : World) (e : Ending) (w' : World) : Prop :=
  ∃ p b is, e = .returned (.tuple #[p, b, .bool is]) ∧ Below w.heap.size w w' ∧ match cutT c ts with
    | none => is = false ∧ p = v ∧ b = .slice none 0 0
    | some (x, y) => is = true ∧ ∀ W, TokSlc W v ts → TokSlc W p x ∧ TokSlc W b y

theorem at_of_slc {W : World} {g off n cap : Nat} {ts : List Tok} (h : TokSlc W (.slice (some ⟨g, off, none⟩) n cap) ts) (hne : ts ≠ []) : RC.At 3 W g off (tokRs ts) := by
  obtain ⟨a, c, e, _, _, h3⟩ := h.form
  obtain ⟨g', off', ea, hat⟩ := h3 hne
  injection e with e1 e2 e3
  rw [ea] at e1
  injection e1 with e1
  injection e1 with e1 e2 e3
  subst e1 e2
  exact hat

set_option maxRecDepth 20000 in
set_option maxHeartbeats 2000000 in
theorem cutAt_tok (t : Tok) (ts : List Tok) (v : Value) (w : World) (h : TokSlc w v ts) (hs : ts.length ≤ 2000000) :
    Calls Tryz.prog 80 #[v, .agg #[.int .i64 t.k, .string ⟨t.t.toArray⟩, .int .i64 t.n]] w (CutsK t ts v w) := by
  have hB0 : Below w.heap.size w (w.alloc (.cells #[.int .i64 t.k, .string ⟨t.t.toArray⟩, .int .i64 t.n] 73)) := (Below.refl _ _).alloc (Nat.le_refl _) _
  have HI := Lib.hid (Index_impl t ts v _ (h.on hB0) hs)
  unfold tokV at HI
  obtain ⟨a, cap, rfl, hnc, hcap, HA0⟩ := h.form
  obtain ⟨n, hn⟩ : ∃ n, ts.length = n := ⟨_, rfl⟩
  rw [hn] at hnc hs HI ⊢
  cases hp : placeT t ts with
  | none =>
    have HC := Lib.hid (show cutK t ts = none by unfold cutK; rw [hp])
    rw [hp] at HI
    unfold placeZ at HI
    dsimp only at HI
    clear hn h HA0 hcap hp
    go_enter Tryz.func80, Tryz.ntmps80
    go_wp2_with (go_at_call 127; refine HI.out.mono ?_; rintro e w1 ⟨rfl, g1⟩)
    refine bodyPost_ret (v := .tuple #[.slice a n cap, .slice none 0 0, .bool false]) (by simp [results, Tryz.results80, go_sem]) rfl ⟨_, _, _, rfl, Below.box g1, ?_⟩
    rw [HC.out]
    exact ⟨rfl, rfl, rfl⟩
  | some i =>
    have hi : i < n := by
      unfold placeT at hp
      rw [List.findIdx?_eq_some_iff_getElem] at hp
      obtain ⟨h1, _⟩ := hp
      omega
    obtain ⟨g, off, rfl, hat⟩ := HA0 (by intro e0; rw [e0] at hn; simp at hn; omega)
    have HC := Lib.hid (show cutK t ts = some (ts.take i, ts.drop (i + 1)) by unfold cutK; rw [hp])
    rw [hp] at HI
    unfold placeZ at HI
    dsimp only at HI
    have hneg : ¬ (i : Int) < 0 := by omega
    have H1 := Lib.hid (fun w' => tok_to g off n cap i (by omega) w')
    have H2 := Lib.hid (fun w' => tok_from g off n cap (i + 1) (by omega) hnc w')
    have HT := Lib.hid (fun W (hW : TokSlc W (.slice (some ⟨g, off, none⟩) n cap) ts) => slc_take (at_of_slc hW (by intro e0; rw [e0] at hn; simp at hn; omega)) (by omega : i < ts.length) (by omega) hcap)
    have HD := Lib.hid (fun W (hW : TokSlc W (.slice (some ⟨g, off, none⟩) n cap) ts) => slc_drop (K := i + 1) (at_of_slc hW (by intro e0; rw [e0] at hn; simp at hn; omega)) hn (by omega) hnc hcap)
    have hi1 : IntKind.i64.wrap ((i : Int) + 1) = ((i + 1 : Nat) : Int) := by rw [IntKind.wrap_i64]; omega
    obtain ⟨D0, eD⟩ : ∃ D0 : Addr, (if cap = i + 1 then (⟨g, off, none⟩ : Addr) else ⟨g, off + (i + 1) * 3, none⟩) = D0 := ⟨_, rfl⟩
    rw [eD] at H2 HD
    obtain ⟨j, ej⟩ : ∃ j, i + 1 = j := ⟨_, rfl⟩
    rw [ej] at H2 HD hi1 HC
    clear hn h HA0 hcap hp hat eD
    go_enter Tryz.func80, Tryz.ntmps80
    go_upto_region 4 with (go_at_call 127; refine HI.out.mono ?_; rintro e w1 ⟨rfl, g1⟩)
    have g0 := Below.box g1
    refine RI.region_det (by kernel_rfl) [.slice (some ⟨g, off, none⟩) n cap, .int .i64 (i : Int), .slice (some ⟨g, off, none⟩) i cap, .slice (some ⟨g, off, none⟩) n cap, .int .i64 (i : Int), .int .i64 (j : Int), .slice (some D0) (n - j) (cap - j), .slice (some ⟨g, off, none⟩) i cap, .slice (some D0) (n - j) (cap - j), .bool true] (fun W => Below w.heap.size w W) (none :: none :: none :: none :: some 7 :: some 8 :: some 9 :: none :: none :: none :: none :: none :: none :: none :: some 0 :: some 1 :: some 2 :: some 3 :: some 4 :: some 5 :: some 6 :: []) (by kernel_rfl) (by kernel_rfl) (⟨g0.os, g0.tape, g0.output, g0.size, g0.block⟩) ?_ ?_
    · intro i hi A W hB hA
      have hi2 : i < 10 := hi
      have hcase : i = 0 ∨ i = 1 ∨ i = 2 ∨ i = 3 ∨ i = 4 ∨ i = 5 ∨ i = 6 ∨ i = 7 ∨ i = 8 ∨ i = 9 := by omega
      clear hi hi2
      rcases hcase with rfl | rfl | rfl | rfl | rfl | rfl | rfl | rfl | rfl | rfl
      · have s0 : A.tmps[0]?.getD undef = .slice (some ⟨g, off, none⟩) n cap := (hA.st 0 (by kernel_rfl)).trans rfl
        exact wpOp_of rfl rfl (wp_value (v := .slice (some ⟨g, off, none⟩) n cap) (W' := W) (by simp [execOp, Act.eval, s0, go_sem]) ⟨rfl, hB⟩)
      · have s7 : A.tmps[7]?.getD undef = .int .i64 (i : Int) := (hA.st 7 (by kernel_rfl)).trans rfl
        exact wpOp_of rfl rfl (wp_value (v := .int .i64 (i : Int)) (W' := W) (by simp [execOp, Act.eval, s7, go_sem]) ⟨rfl, hB⟩)
      · have s14 : A.tmps[14]?.getD undef = .slice (some ⟨g, off, none⟩) n cap := hA.on 0 14 (by kernel_rfl) (by kernel_rfl)
        have s15 : A.tmps[15]?.getD undef = .int .i64 (i : Int) := hA.on 1 15 (by kernel_rfl) (by kernel_rfl)
        exact wpOp_of rfl rfl (wp_value (v := .slice (some ⟨g, off, none⟩) i cap) (W' := W) (by simp [execOp, Act.eval, s14, s15, go_sem, H1.out]) ⟨rfl, hB⟩)
      · have s0 : A.tmps[0]?.getD undef = .slice (some ⟨g, off, none⟩) n cap := (hA.st 0 (by kernel_rfl)).trans rfl
        exact wpOp_of rfl rfl (wp_value (v := .slice (some ⟨g, off, none⟩) n cap) (W' := W) (by simp [execOp, Act.eval, s0, go_sem]) ⟨rfl, hB⟩)
      · have s7 : A.tmps[7]?.getD undef = .int .i64 (i : Int) := (hA.st 7 (by kernel_rfl)).trans rfl
        exact wpOp_of rfl rfl (wp_value (v := .int .i64 (i : Int)) (W' := W) (by simp [execOp, Act.eval, s7, go_sem]) ⟨rfl, hB⟩)
      · have s18 : A.tmps[18]?.getD undef = .int .i64 (i : Int) := hA.on 4 18 (by kernel_rfl) (by kernel_rfl)
        exact wpOp_of rfl rfl (wp_value (v := .int .i64 (j : Int)) (W' := W) (by simp [execOp, Act.eval, s18, go_sem, hi1]) ⟨rfl, hB⟩)
      · have s17 : A.tmps[17]?.getD undef = .slice (some ⟨g, off, none⟩) n cap := hA.on 3 17 (by kernel_rfl) (by kernel_rfl)
        have s19 : A.tmps[19]?.getD undef = .int .i64 (j : Int) := hA.on 5 19 (by kernel_rfl) (by kernel_rfl)
        exact wpOp_of rfl rfl (wp_value (v := .slice (some D0) (n - j) (cap - j)) (W' := W) (by simp [execOp, Act.eval, s17, s19, go_sem, H2.out]) ⟨rfl, hB⟩)
      · have s16 : A.tmps[16]?.getD undef = .slice (some ⟨g, off, none⟩) i cap := hA.on 2 16 (by kernel_rfl) (by kernel_rfl)
        exact wpOp_of rfl rfl (wp_value (v := .slice (some ⟨g, off, none⟩) i cap) (W' := W) (by simp [execOp, Act.eval, s16, go_sem]) ⟨rfl, hB⟩)
      · have s20 : A.tmps[20]?.getD undef = .slice (some D0) (n - j) (cap - j) := hA.on 6 20 (by kernel_rfl) (by kernel_rfl)
        exact wpOp_of rfl rfl (wp_value (v := .slice (some D0) (n - j) (cap - j)) (W' := W) (by simp [execOp, Act.eval, s20, go_sem]) ⟨rfl, hB⟩)
      · exact wpOp_of rfl rfl (wp_value (v := .bool true) (W' := W) (by simp [execOp, Act.eval, go_sem]) ⟨rfl, hB⟩)
    intro wR hR
    simp only [RI.mergeL, List.getElem?_cons_zero, List.getElem?_cons_succ, Option.getD_some]
    go_wp2_with fail
    refine bodyPost_ret (v := .tuple #[.slice (some ⟨g, off, none⟩) i cap, .slice (some D0) (n - j) (cap - j), .bool true]) (by simp [results, Tryz.results80, go_sem]) rfl ⟨_, _, _, rfl, hR, ?_⟩
    rw [HC.out]
    exact ⟨rfl, fun W hW => ⟨HT.out W hW, HD.out W hW⟩⟩

theorem cutAt_all (c : UInt8) (ts : List Tok) (v : Value) (w : World) (h : TokSlc w v ts) (hs : ts.length ≤ 2000000) :
    Calls Tryz.prog 80 #[v, .agg #[.int .i64 6, .string ⟨#[c]⟩, .int .i64 0]] w (Cuts2 c ts v w) := cutAt_tok ⟨6, [c], 0⟩ ts v w h hs

theorem cutAt_impl (c : UInt8) (ts : List Tok) (v : Value) (w : World) (h : TokSlc w v ts) (hs : ts.length ≤ 2000000) :
    Calls Tryz.prog 80 #[v, .agg #[.int .i64 6, .string ⟨#[c]⟩, .int .i64 0]] w (Cuts c ts w) := by
  refine (cutAt_all c ts v w h hs).mono ?_
  rintro e w' ⟨p, b, is, rfl, g, hq⟩
  refine ⟨p, b, is, rfl, g, ?_⟩
  cases hc : cutT c ts with
  | none =>
    rw [hc] at hq
    obtain ⟨h1, rfl, rfl⟩ := hq
    exact ⟨h1, h.on g, nil_slc _⟩
  | some xy =>
    obtain ⟨x, y⟩ := xy
    rw [hc] at hq
    obtain ⟨h1, hW⟩ := hq
    exact ⟨h1, (hW w' (h.on g)).1, (hW w' (h.on g)).2⟩

theorem tk_wide : wideT Tryz.prog 73 3 = true := by kernel_rfl

set_option maxHeartbeats 1000000 in
/-- A sign as a token. -/
theorem sign_impl (c : UInt8) (w : World) : Calls Tryz.prog 81 #[.string ⟨#[c]⟩] w fun e w' => e = .returned (.agg #[.int .i64 6, .string ⟨#[c]⟩, .int .i64 0]) ∧ Below w.heap.size w w' := by
  have hl := LBlk.new w [.int .i64 6, .string ⟨#[c]⟩, .int .i64 0] 73
  have hB : Below w.heap.size w (w.alloc (.cells #[.int .i64 6, .string ⟨#[c]⟩, .int .i64 0] 73)) := (Below.refl _ _).alloc (Nat.le_refl _) _
  go_enter Tryz.func81, Tryz.ntmps81
  go_wp2_with fail
  exact bodyPost_ret (results_wide (load_blk hl tk_wide) rfl rfl) rfl ⟨rfl, hB⟩

theorem giveUp_ok (w : World) : Calls Tryz.prog 163 #[.bool true] w fun e w' => e = .returned (.tuple #[]) ∧ w = w' := by
  go_enter Tryz.func163, Tryz.ntmps163
  go_wp2_with fail
  first | go_end0 | refine bodyPost_ret (results_none rfl _ _ _) rfl ?_
  exact ⟨rfl, rfl⟩

/-- What gives up. -/
def gaveUp : PanicEntry := { v := .iface 9 (.string ⟨#[110, 111, 32, 110, 111, 116, 101]⟩), recovered := false }

theorem giveUp_no (w : World) : Calls Tryz.prog 163 #[.bool false] w fun e w' => e = .panicked [gaveUp] ∧ w = w' := by
  go_enter Tryz.func163, Tryz.ntmps163
  go_wp2_with fail
  exact ⟨rfl, rfl, rfl⟩

end Go.Proofs.YtliihnkonakacaaGreatDoor.B9
