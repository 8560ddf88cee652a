/- Draws of chapter 6: DrawReadValue. -/
import Derived.Test.YtnnpnimlnaflnaaGreatDoorDraw6b
import Derived.Test.YtnnpnimlnaflnaaGreatDoorDraw6s
import Derived.Test.YtnnpnimlnaflnaaGreatDoorInv
namespace Go.Proofs.YtnnpnimlnaflnaaGreatDoor.D6
open Go.Proofs.YtnnpnimlnaflnaaGreatDoor.P1 Go.Proofs.YtnnpnimlnaflnaaGreatDoor.B1 Go.Proofs.YtnnpnimlnaflnaaGreatDoor.B2 Go.Proofs.YtnnpnimlnaflnaaGreatDoor.T1 Go.Proofs.YtnnpnimlnaflnaaGreatDoor.BT Go.Proofs.YtnnpnimlnaflnaaGreatDoor.P5 Go.Proofs.YtnnpnimlnaflnaaGreatDoor.P6 Go.Proofs.YtnnpnimlnaflnaaGreatDoor.B5 Go.Proofs.YtnnpnimlnaflnaaGreatDoor.B6 Go.Proofs.YtnnpnimlnaflnaaGreatDoor.S7 Go.Proofs.YtnnpnimlnaflnaaGreatDoor.D1 Go.Proofs.YtnnpnimlnaflnaaGreatDoor.D2 Go.Proofs.YtnnpnimlnaflnaaGreatDoor.DB Go.Proofs.YtnnpnimlnaflnaaGreatDoor.D5 Go.Proofs.YtnnpnimlnaflnaaGreatDoor.RI
open Go.ChangeShapes Go.WideShapes Go.ChangeAt Go.RowKit
set_option linter.unusedVariables false

/-- What a slot may hold: the cursor, a pair of texts, an index, a place in a pair, a text, a value, tokens. -/
def Ptr (c : Nat) (v : Value) : Prop := v = .pointer (some ⟨c, 0, none⟩)
def Two (s : List UInt8) (w : World) (g : Nat) : Prop := LBlk w g [.string ⟨#[]⟩, .string ⟨s.toArray⟩]
def Sl (s : List UInt8) (c : Nat) (v : Value) (w : World) : Prop := ∃ g, v = .slice (some ⟨g, 0, none⟩) 2 2 ∧ g ≠ c ∧ Two s w g
def Ix (v : Value) : Prop := ∃ K : Nat, K < 2 ∧ v = .int .i64 (K : Int)
def Pt (s : List UInt8) (c : Nat) (v : Value) (w : World) : Prop := ∃ g K, K < 2 ∧ v = .pointer (some ⟨g, K, none⟩) ∧ g ≠ c ∧ Two s w g
def St (n : Nat) (v : Value) : Prop := ∃ p : List UInt8, p.length ≤ n ∧ v = .string ⟨p.toArray⟩
def Vl (v : Value) : Prop := ∃ y : Va, y.w.length ≤ 100 ∧ v = valV y
def Tk (c : Nat) (v : Value) (w : World) : Prop := ∃ ts, ((v = .slice none 0 0 ∧ ts = []) ∨ ∃ g cap, v = .slice (some ⟨g, 0, none⟩) ts.length cap ∧ g ≠ c ∧ TokRow w g cap ts) ∧ (∀ x ∈ ts, TokD x) ∧ ts.length ≤ 100

theorem row_only {c g cap : Nat} {w w' : World} {ts : List Tok} (h : TokRow w g cap ts) (ho : Only c w w') (hg : g ≠ c) : TokRow w' g cap ts :=
  ⟨fun i x hx => by
    obtain ⟨c0, c1, c2⟩ := h.cells i x hx
    exact ⟨(ho.cell (p := ⟨g, i * 3, none⟩) hg h.lt).trans c0, (ho.cell (p := ⟨g, i * 3 + 1, none⟩) hg h.lt).trans c1, (ho.cell (p := ⟨g, i * 3 + 2, none⟩) hg h.lt).trans c2⟩, h.room, h.top, Nat.lt_of_lt_of_le h.lt ho.size⟩

def fact (c : Nat) (i : Nat) (v : Value) (w : World) : Prop := match i with
  | 0 => Sl [32] c v w
  | 1 => Ptr c v
  | 2 => Ix v
  | 3 => Pt [32] c v w
  | 4 => St 1 v
  | 5 => Ptr c v
  | 6 => Vl v
  | 7 => St 30 v
  | 8 => St 31 v
  | 9 => Sl [10] c v w
  | 10 => Ptr c v
  | 11 => Ix v
  | 12 => Pt [10] c v w
  | 13 => St 1 v
  | 14 => St 32 v
  | 15 => Tk c v w
  | 16 => Tk c v w
  | _ => True

def dst (i : Nat) : Nat := match i with
  | 0 => 8
  | 1 => 9
  | 2 => 10
  | 3 => 11
  | 4 => 12
  | 5 => 13
  | 6 => 14
  | 7 => 15
  | 8 => 16
  | 9 => 17
  | 10 => 18
  | 11 => 19
  | 12 => 20
  | 13 => 21
  | 14 => 22
  | 15 => 23
  | 16 => 2
  | _ => 0

/-- What holds whatever of the operations have been done. -/
structure InJ (c : Nat) (a0 : Option Addr) (len cap : Nat) (w0 : World) (L : Array Bool) (a : Act) (w : World) : Prop where
  sz : a.tmps.size = 26
  df : a.defers = []
  s3 : a.tmps[3]?.getD undef = .pointer (some ⟨c, 0, none⟩)
  fr : Fr c a0 len cap w0 w
  fs : ∀ i, i < 17 → L[i]?.getD false = true → fact c i (a.tmps[dst i]?.getD undef) w

theorem dst_lt : ∀ i, i < 17 → dst i < 26 := by decide
theorem dst_ne : ∀ i, i < 17 → dst i ≠ 3 := by decide
theorem dst_inj : ∀ i, i < 17 → ∀ j, j < 17 → i ≠ j → dst i ≠ dst j := by decide

theorem InJ.step {c : Nat} {a0 : Option Addr} {len cap : Nat} {w0 : World} {L : Array Bool} {a : Act} {w w' : World} (h : InJ c a0 len cap w0 L a w) (hL : L.size = 17) {i : Nat} (hi : i < 17) {v : Value}
    (hfr : Fr c a0 len cap w0 w') (hk : ∀ j v, j < 17 → L[j]?.getD false = true → fact c j v w → fact c j v w') (hn : fact c i v w') : InJ c a0 len cap w0 (L.setIfInBounds i true) (a.put (some (dst i)) v) w' := by
  have hd := dst_lt i hi
  have hsz := h.sz
  have hput : ∀ k, (a.put (some (dst i)) v).tmps[k]?.getD undef = if k = dst i then v else a.tmps[k]?.getD undef := fun k => by
    show (a.tmps.setIfInBounds (dst i) v)[k]?.getD undef = _
    by_cases e : k = dst i
    · subst e
      rw [if_pos rfl, Array.getElem?_setIfInBounds_self_of_lt (by omega)]; rfl
    · rw [if_neg e, Array.getElem?_setIfInBounds_ne (Ne.symm e)]
  have hset : ∀ k, (L.setIfInBounds i true)[k]?.getD false = true ↔ (k = i ∨ L[k]?.getD false = true) := fun k => by
    by_cases e : k = i
    · subst e
      rw [Array.getElem?_setIfInBounds_self_of_lt (by omega)]; simp
    · rw [Array.getElem?_setIfInBounds_ne (Ne.symm e)]; simp [e]
  refine ⟨?_, h.df, ?_, hfr, fun j hj hl => ?_⟩
  · show (a.tmps.setIfInBounds (dst i) v).size = 26
    rw [Array.size_setIfInBounds]; exact hsz
  · rw [hput, if_neg (Ne.symm (dst_ne i hi))]; exact h.s3
  · rw [hput]
    by_cases e : j = i
    · subst e
      rw [if_pos rfl]; exact hn
    · rw [if_neg (dst_inj j hj i hi e)]
      have hl' : L[j]?.getD false = true := by
        rcases (hset j).1 hl with h | h
        · exact absurd h e
        · exact h
      exact hk j _ hj hl' (h.fs j hj hl')

/-- What is kept where nothing but the cursor turns, and where memory is made. -/
theorem fact_only {c j : Nat} {v : Value} {w w' : World} (hj : j < 17) (h : fact c j v w) (ho : Only c w w') : fact c j v w' := by
  have hT : ∀ {s g}, g ≠ c → Two s w g → Two s w' g := fun hg ht => LBlk.only ht ho hg
  have : j = 0 ∨ j = 1 ∨ j = 2 ∨ j = 3 ∨ j = 4 ∨ j = 5 ∨ j = 6 ∨ j = 7 ∨ j = 8 ∨ j = 9 ∨ j = 10 ∨ j = 11 ∨ j = 12 ∨ j = 13 ∨ j = 14 ∨ j = 15 ∨ j = 16 := by omega
  have hK : ∀ {v}, Tk c v w → Tk c v w' := fun ⟨ts, hv, hf, hn⟩ => by
    rcases hv with hv | ⟨g, cap, e, hg, hr⟩
    · exact ⟨ts, Or.inl hv, hf, hn⟩
    · exact ⟨ts, Or.inr ⟨g, cap, e, hg, row_only hr ho hg⟩, hf, hn⟩
  rcases this with rfl | rfl | rfl | rfl | rfl | rfl | rfl | rfl | rfl | rfl | rfl | rfl | rfl | rfl | rfl | rfl | rfl
  · obtain ⟨g, e, hg, ht⟩ := h; exact ⟨g, e, hg, hT hg ht⟩
  · exact h
  · exact h
  · obtain ⟨g, K, hK, e, hg, ht⟩ := h; exact ⟨g, K, hK, e, hg, hT hg ht⟩
  · exact h
  · exact h
  · exact h
  · exact h
  · exact h
  · obtain ⟨g, e, hg, ht⟩ := h; exact ⟨g, e, hg, hT hg ht⟩
  · exact h
  · exact h
  · obtain ⟨g, K, hK, e, hg, ht⟩ := h; exact ⟨g, K, hK, e, hg, hT hg ht⟩
  · exact h
  · exact h
  · exact hK h
  · exact hK h

theorem below_only {c : Nat} {w w' : World} (h : Below w.heap.size w w') : Only c w w' := only_below h

/-- What an operation that is ready leans on. -/
theorem ready_of {ops : Array Oper} {L : Array Bool} {i : Nat} {o : Oper} (hL : L.size = ops.size) (ho : ops[i]? = some o) (h : i ∈ Region.ready .any ops L) : L[i]?.getD false = false ∧ ∀ e ∈ o.after, Region.binds .any e = true → L[e.on]?.getD false = true := by
  unfold Region.ready at h
  rw [List.mem_filter, ho] at h
  obtain ⟨hi, h2⟩ := h
  simp only [Bool.and_eq_true, Bool.not_eq_true', Option.map_some, Option.getD_some, Array.all_eq_true_iff_forall_mem, Bool.or_eq_true, Bool.not_eq_true'] at h2
  have hlt : i < L.size := by rw [hL]; simpa using hi
  refine ⟨?_, fun e he hb => ?_⟩
  · have := h2.1
    rw [Array.getD_eq_getD_getElem?, Array.getElem?_eq_getElem hlt] at this
    rw [Array.getElem?_eq_getElem hlt]
    exact this
  · rcases h2.2 e he with h | h
    · rw [hb] at h; cases h
    · rw [Array.getD_eq_getD_getElem?] at h; exact h

theorem wpOp_of {P : Program} {ops : Array Oper} {Q : Exit → Act → World → Prop} {i : Nat} {o : Oper} {K : Act → World → Prop} {A : Act} {W : World} (ho : ops[i]? = some o) (hg : o.guard = none) (h : o.wp P A W K Q) : wpOp P ops Q i K A W := by
  unfold wpOp
  rw [ho]
  simp only
  rw [if_pos (by simp [Region.wanted, hg])]
  exact Or.inl h

theorem wp_value {P : Program} {Q : Exit → Act → World → Prop} {o : Oper} {K : Act → World → Prop} {A : Act} {W W' : World} {v : Value} (hr : (execOp A.eval o).run P W = .ok (.value v) W') (h : K (A.put o.dst v) W') : o.wp P A W K Q := by
  unfold Oper.wp
  rw [hr]
  exact h

theorem wp_enter {P : Program} {Q : Exit → Act → World → Prop} {o : Oper} {K : Act → World → Prop} {A : Act} {W : World} {f : FuncId} {args : Array Value} (hr : (execOp A.eval o).run P W = .ok (.enter f args) W) (h : Calls P f args W fun e w' => ∃ v, e = .returned v ∧ K (A.put o.dst v) w') : o.wp P A W K Q := by
  unfold Oper.wp
  rw [hr, Oper.upon_enter]
  refine h.mono ?_
  rintro e w' ⟨v, rfl, hk⟩
  exact hk

theorem ready_all {ops : Array Oper} {L : Array Bool} (hd : ((List.range ops.size).all fun i => ((ops[i]?).map (·.after.all fun e => decide (e.on < i))).getD false) = true) (hL : L.size = ops.size) (hr : Region.ready .any ops L = []) : ∀ i, i < ops.size → L[i]?.getD false = true := by
  intro i
  induction i using Nat.strongRecOn with
  | _ i ih =>
    intro hi
    cases hc : L[i]?.getD false
    · exfalso
      have hm : i ∈ Region.ready .any ops L := by
        unfold Region.ready
        rw [List.mem_filter]
        have hlt : i < L.size := by omega
        rw [Array.getElem?_eq_getElem hlt] at hc
        refine ⟨by simpa using hi, ?_⟩
        rw [Array.getD_eq_getD_getElem?, Array.getElem?_eq_getElem hlt, Array.getElem?_eq_getElem hi]
        have hd' := List.all_eq_true.1 hd i (by simpa using hi)
        rw [Array.getElem?_eq_getElem hi] at hd'
        simp only [Option.map_some, Option.getD_some, Array.all_eq_true_iff_forall_mem, decide_eq_true_eq] at hd' ⊢
        simp only [Option.getD_some] at hc
        simp only [hc, Bool.not_false, Bool.true_and, Array.all_eq_true_iff_forall_mem, Bool.or_eq_true, Bool.not_eq_true']
        intro e he
        right
        have := ih e.on (hd' e he) (by have := hd' e he; omega)
        rw [Array.getD_eq_getD_getElem?]; exact this
      rw [hr] at hm; cases hm
    · rfl

set_option maxRecDepth 20000 in
set_option maxHeartbeats 4000000 in
theorem ReadValue_draw (w : World) (a : Option Addr) (len cap : Nat) (h : Bytes w w.heap.size a len) :
    Calls Tryz.prog 7 #[.slice a len cap] w (GivenToks w) := by
  go_enter Tryz.func7, Tryz.ntmps7
  go_wp2_with fail
  refine (New_draw _ a len cap h).mono ?_
  rintro e w1 ⟨rfl, hc1, ho1⟩
  have hF1 : Fr w.heap.size a len cap w w1 := ⟨hc1, ho1, h⟩
  generalize hcz : w.heap.size = c at hF1 ⊢
  have HC := Lib.hid hcz
  clear hcz hc1 ho1 h
  go_wp2_with fail
  refine (Once_draw _ c a len cap 2 hF1.cur).mono ?_
  rintro e w2 ⟨qq, rfl, hc2, ho2⟩
  have hF2 := hF1.call hc2 ho2
  clear hF1 hc2 ho2
  cases qq
  · go_wp2_with fail
    refine (l5DrawTokens_draw _ c a len cap hF2.cur).mono ?_
    rintro e w3 ⟨v, ts, rfl, hv, hf, hn, hgs, hc3, ho3⟩
    have hF3 := hF2.call hc3 ho3
    obtain ⟨ad, cp, rfl, _⟩ := TokVal.form hv
    go_wp2_with fail
    go_ret
    exact ⟨_, ts, rfl, hv, hf, hn, hF3.only.below (Nat.le_of_eq HC.out) (Nat.le_refl _)⟩
  · go_wp2_with fail
    refine region_inv (by kernel_rfl) (InJ c a len cap w) ?_ ?_ ?_
    · refine ⟨rfl, rfl, rfl, hF2.drew, fun i hi hl => ?_⟩
      rw [Array.getElem?_replicate] at hl
      split at hl <;> simp at hl
    · clear hF2
      intro L A W hL hJ i hi
      have hi17 : i < 17 := by
        unfold Region.ready at hi
        rw [List.mem_filter] at hi
        simpa using hi.1
      have hcase : i = 0 ∨ i = 1 ∨ i = 2 ∨ i = 3 ∨ i = 4 ∨ i = 5 ∨ i = 6 ∨ i = 7 ∨ i = 8 ∨ i = 9 ∨ i = 10 ∨ i = 11 ∨ i = 12 ∨ i = 13 ∨ i = 14 ∨ i = 15 ∨ i = 16 := by omega
      rcases hcase with rfl | rfl | rfl | rfl | rfl | rfl | rfl | rfl | rfl | rfl | rfl | rfl | rfl | rfl | rfl | rfl | rfl
      · obtain ⟨hnot, hdep⟩ := ready_of hL rfl hi
        refine wpOp_of rfl rfl (wp_value (v := .slice (some ⟨W.heap.size, 0, none⟩) 2 2) (W' := W.alloc (.cells #[.string ⟨#[]⟩, .string ⟨#[32]⟩] 9)) ?_ (hJ.step hL (i := 0) (by decide) (hJ.fr.alloc _) (fun j v hj hl hf => fact_only hj hf (only_new W _ c)) ⟨W.heap.size, rfl, Nat.ne_of_gt hJ.fr.cur.lt, LBlk.new W _ _⟩))
        go_simp
      · obtain ⟨hnot, hdep⟩ := ready_of hL rfl hi
        refine wpOp_of rfl rfl (wp_value (v := .pointer (some ⟨c, 0, none⟩)) (W' := W) ?_ (hJ.step hL (i := 1) (by decide) hJ.fr (fun j v _ _ hf => hf) rfl))
        have s3 := hJ.s3
        simp [execOp, Act.eval, s3, go_sem]
      · obtain ⟨hnot, hdep⟩ := ready_of hL rfl hi
        have l1 : L[1]?.getD false = true := hdep ⟨1, .data⟩ (by simp) rfl
        have hs : A.tmps[9]?.getD undef = .pointer (some ⟨c, 0, none⟩) := hJ.fs 1 (by decide) l1
        refine wpOp_of rfl rfl (wp_enter (f := 24) (args := #[.pointer (some ⟨c, 0, none⟩), .int .i64 2]) ?_ ?_)
        · simp [execOp, Act.eval, hs, go_sem]
        · refine (Below_draw _ c a len cap 2 hJ.fr.cur).mono ?_
          rintro e w3 ⟨n3, hn3, rfl, hc3, ho3⟩
          obtain ⟨K3, rfl, hK3⟩ := below_nat (m := 2) hn3 (by omega)
          exact ⟨_, rfl, hJ.step hL (i := 2) (by decide) (hJ.fr.call hc3 ho3) (fun j v hj hl hf => fact_only hj hf ho3) ⟨K3, hK3, rfl⟩⟩
      · obtain ⟨hnot, hdep⟩ := ready_of hL rfl hi
        have l0 : L[0]?.getD false = true := hdep ⟨0, .data⟩ (by simp) rfl
        have l2 : L[2]?.getD false = true := hdep ⟨2, .data⟩ (by simp) rfl
        obtain ⟨g, es, hg, ht⟩ := hJ.fs 0 (by decide) l0
        obtain ⟨K, hK, ek⟩ := hJ.fs 2 (by decide) l2
        simp only [dst] at es ek
        have hK0 : (0 : Int) ≤ (K : Int) := by omega
        have hK2 : (K : Int) < 2 := by omega
        refine wpOp_of rfl rfl (wp_value (v := .pointer (some ⟨g, K, none⟩)) (W' := W) ?_ (hJ.step hL (i := 3) (by decide) hJ.fr (fun j v _ _ hf => hf) ⟨g, K, hK, rfl, hg, ht⟩))
        simp [execOp, Act.eval, es, ek]
        go_simp
      · obtain ⟨hnot, hdep⟩ := ready_of hL rfl hi
        have l3 : L[3]?.getD false = true := hdep ⟨3, .data⟩ (by simp) rfl
        obtain ⟨g, K, hK, ep, hg, ht⟩ := hJ.fs 3 (by decide) l3
        simp only [dst] at ep
        obtain ⟨p, hp, hcell⟩ : ∃ p : List UInt8, p.length ≤ 1 ∧ W.cell? ⟨g, K, none⟩ = some (.string ⟨p.toArray⟩) := by
          have : K = 0 ∨ K = 1 := by omega
          rcases this with rfl | rfl
          · exact ⟨[], by simp, (ht.2 0 _ rfl).1⟩
          · exact ⟨[32], by simp, (ht.2 1 _ rfl).1⟩
        refine wpOp_of rfl rfl (wp_value (v := .string ⟨p.toArray⟩) (W' := W) ?_ (hJ.step hL (i := 4) (by decide) hJ.fr (fun j v _ _ hf => hf) ⟨p, hp, rfl⟩))
        simp [execOp, Act.eval, ep]
        go_simp
      · obtain ⟨hnot, hdep⟩ := ready_of hL rfl hi
        refine wpOp_of rfl rfl (wp_value (v := .pointer (some ⟨c, 0, none⟩)) (W' := W) ?_ (hJ.step hL (i := 5) (by decide) hJ.fr (fun j v _ _ hf => hf) rfl))
        have s3 := hJ.s3
        simp [execOp, Act.eval, s3, go_sem]
      · obtain ⟨hnot, hdep⟩ := ready_of hL rfl hi
        have l5 : L[5]?.getD false = true := hdep ⟨5, .data⟩ (by simp) rfl
        have hs : A.tmps[13]?.getD undef = .pointer (some ⟨c, 0, none⟩) := hJ.fs 5 (by decide) l5
        refine wpOp_of rfl rfl (wp_enter (f := 25) (args := #[.pointer (some ⟨c, 0, none⟩)]) ?_ ?_)
        · simp [execOp, Act.eval, hs, go_sem]
        · refine (l6DrawAny_draw _ c a len cap hJ.fr.cur).mono ?_
          rintro e w3 ⟨y, rfl, hyt, hc3, ho3⟩
          exact ⟨_, rfl, hJ.step hL (i := 6) (by decide) (hJ.fr.call hc3 ho3) (fun j v hj hl hf => fact_only hj hf ho3) ⟨y, hyt, rfl⟩⟩
      · obtain ⟨hnot, hdep⟩ := ready_of hL rfl hi
        have l6 : L[6]?.getD false = true := hdep ⟨6, .data⟩ (by simp) rfl
        obtain ⟨y, hyt, ey⟩ := hJ.fs 6 (by decide) l6
        simp only [dst] at ey
        refine wpOp_of rfl rfl (wp_enter (f := 11) (args := #[valV y]) ?_ ?_)
        · simp [execOp, Act.eval, ey, go_sem]
        · refine (ShowValue_spec y (by omega) _).mono ?_
          rintro e w3 ⟨rfl, g3⟩
          exact ⟨_, rfl, hJ.step hL (i := 7) (by decide) (fr_below hJ.fr g3) (fun j v hj hl hf => fact_only hj hf (only_below g3)) ⟨showValue y, show_len y, rfl⟩⟩
      · obtain ⟨hnot, hdep⟩ := ready_of hL rfl hi
        have l4 : L[4]?.getD false = true := hdep ⟨4, .data⟩ (by simp) rfl
        have l7 : L[7]?.getD false = true := hdep ⟨7, .data⟩ (by simp) rfl
        obtain ⟨p1, hp1, e1⟩ := hJ.fs 4 (by decide) l4
        obtain ⟨p2, hp2, e2⟩ := hJ.fs 7 (by decide) l7
        simp only [dst] at e1 e2
        have hadd := str_addT p1 p2 (p1 ++ p2) rfl (by rw [List.length_append]; omega) W
        refine wpOp_of rfl rfl (wp_value (v := .string ⟨(p1 ++ p2).toArray⟩) (W' := W) ?_ (hJ.step hL (i := 8) (by decide) hJ.fr (fun j v _ _ hf => hf) ⟨p1 ++ p2, by rw [List.length_append]; omega, rfl⟩))
        simp [execOp, Act.eval, e1, e2]
        go_simp
        rw [if_neg (by omega), ByteArray.mk_append_mk]
      · obtain ⟨hnot, hdep⟩ := ready_of hL rfl hi
        refine wpOp_of rfl rfl (wp_value (v := .slice (some ⟨W.heap.size, 0, none⟩) 2 2) (W' := W.alloc (.cells #[.string ⟨#[]⟩, .string ⟨#[10]⟩] 9)) ?_ (hJ.step hL (i := 9) (by decide) (hJ.fr.alloc _) (fun j v hj hl hf => fact_only hj hf (only_new W _ c)) ⟨W.heap.size, rfl, Nat.ne_of_gt hJ.fr.cur.lt, LBlk.new W _ _⟩))
        go_simp
      · obtain ⟨hnot, hdep⟩ := ready_of hL rfl hi
        refine wpOp_of rfl rfl (wp_value (v := .pointer (some ⟨c, 0, none⟩)) (W' := W) ?_ (hJ.step hL (i := 10) (by decide) hJ.fr (fun j v _ _ hf => hf) rfl))
        have s3 := hJ.s3
        simp [execOp, Act.eval, s3, go_sem]
      · obtain ⟨hnot, hdep⟩ := ready_of hL rfl hi
        have l10 : L[10]?.getD false = true := hdep ⟨10, .data⟩ (by simp) rfl
        have hs : A.tmps[18]?.getD undef = .pointer (some ⟨c, 0, none⟩) := hJ.fs 10 (by decide) l10
        refine wpOp_of rfl rfl (wp_enter (f := 24) (args := #[.pointer (some ⟨c, 0, none⟩), .int .i64 2]) ?_ ?_)
        · simp [execOp, Act.eval, hs, go_sem]
        · refine (Below_draw _ c a len cap 2 hJ.fr.cur).mono ?_
          rintro e w3 ⟨n3, hn3, rfl, hc3, ho3⟩
          obtain ⟨K3, rfl, hK3⟩ := below_nat (m := 2) hn3 (by omega)
          exact ⟨_, rfl, hJ.step hL (i := 11) (by decide) (hJ.fr.call hc3 ho3) (fun j v hj hl hf => fact_only hj hf ho3) ⟨K3, hK3, rfl⟩⟩
      · obtain ⟨hnot, hdep⟩ := ready_of hL rfl hi
        have l9 : L[9]?.getD false = true := hdep ⟨9, .data⟩ (by simp) rfl
        have l11 : L[11]?.getD false = true := hdep ⟨11, .data⟩ (by simp) rfl
        obtain ⟨g, es, hg, ht⟩ := hJ.fs 9 (by decide) l9
        obtain ⟨K, hK, ek⟩ := hJ.fs 11 (by decide) l11
        simp only [dst] at es ek
        have hK0 : (0 : Int) ≤ (K : Int) := by omega
        have hK2 : (K : Int) < 2 := by omega
        refine wpOp_of rfl rfl (wp_value (v := .pointer (some ⟨g, K, none⟩)) (W' := W) ?_ (hJ.step hL (i := 12) (by decide) hJ.fr (fun j v _ _ hf => hf) ⟨g, K, hK, rfl, hg, ht⟩))
        simp [execOp, Act.eval, es, ek]
        go_simp
      · obtain ⟨hnot, hdep⟩ := ready_of hL rfl hi
        have l12 : L[12]?.getD false = true := hdep ⟨12, .data⟩ (by simp) rfl
        obtain ⟨g, K, hK, ep, hg, ht⟩ := hJ.fs 12 (by decide) l12
        simp only [dst] at ep
        obtain ⟨p, hp, hcell⟩ : ∃ p : List UInt8, p.length ≤ 1 ∧ W.cell? ⟨g, K, none⟩ = some (.string ⟨p.toArray⟩) := by
          have : K = 0 ∨ K = 1 := by omega
          rcases this with rfl | rfl
          · exact ⟨[], by simp, (ht.2 0 _ rfl).1⟩
          · exact ⟨[10], by simp, (ht.2 1 _ rfl).1⟩
        refine wpOp_of rfl rfl (wp_value (v := .string ⟨p.toArray⟩) (W' := W) ?_ (hJ.step hL (i := 13) (by decide) hJ.fr (fun j v _ _ hf => hf) ⟨p, hp, rfl⟩))
        simp [execOp, Act.eval, ep]
        go_simp
      · obtain ⟨hnot, hdep⟩ := ready_of hL rfl hi
        have l8 : L[8]?.getD false = true := hdep ⟨8, .data⟩ (by simp) rfl
        have l13 : L[13]?.getD false = true := hdep ⟨13, .data⟩ (by simp) rfl
        obtain ⟨p1, hp1, e1⟩ := hJ.fs 8 (by decide) l8
        obtain ⟨p2, hp2, e2⟩ := hJ.fs 13 (by decide) l13
        simp only [dst] at e1 e2
        have hadd := str_addT p1 p2 (p1 ++ p2) rfl (by rw [List.length_append]; omega) W
        refine wpOp_of rfl rfl (wp_value (v := .string ⟨(p1 ++ p2).toArray⟩) (W' := W) ?_ (hJ.step hL (i := 14) (by decide) hJ.fr (fun j v _ _ hf => hf) ⟨p1 ++ p2, by rw [List.length_append]; omega, rfl⟩))
        simp [execOp, Act.eval, e1, e2]
        go_simp
        rw [if_neg (by omega), ByteArray.mk_append_mk]
      · obtain ⟨hnot, hdep⟩ := ready_of hL rfl hi
        have l14 : L[14]?.getD false = true := hdep ⟨14, .data⟩ (by simp) rfl
        obtain ⟨s, hsl, es⟩ := hJ.fs 14 (by decide) l14
        simp only [dst] at es
        refine wpOp_of rfl rfl (wp_enter (f := 16) (args := #[.string ⟨s.toArray⟩]) ?_ ?_)
        · simp [execOp, Act.eval, es, go_sem]
        · refine (TokensOf_spec s _ (by omega)).mono ?_
          rintro e w3 ⟨v, rfl, hv, g3⟩
          refine ⟨_, rfl, hJ.step hL (i := 15) (by decide) (fr_below hJ.fr g3) (fun j v hj hl hf => fact_only hj hf (only_below g3)) ⟨tokensOf s, ?_, fun x hx => ?_, ?_⟩⟩
          · rcases Toks.row hv with h | ⟨g, cp, e, hb, hr⟩
            · exact Or.inl h
            · exact Or.inr ⟨g, cp, e, by have := hJ.fr.cur.lt; omega, hr⟩
          · obtain ⟨q1, q2, q3⟩ := tokens_fit (s := s) x hx
            exact ⟨by omega, by omega, by omega⟩
          · have := tokens_few s
            omega
      · obtain ⟨hnot, hdep⟩ := ready_of hL rfl hi
        have l15 : L[15]?.getD false = true := hdep ⟨15, .data⟩ (by simp) rfl
        have hv := hJ.fs 15 (by decide) l15
        simp only [dst] at hv
        refine wpOp_of rfl rfl (wp_value (v := A.tmps[23]?.getD undef) (W' := W) ?_ (hJ.step hL (i := 16) (by decide) hJ.fr (fun j v _ _ hf => hf) hv))
        simp [execOp, Act.eval, go_sem]
    · intro L A W hL hJ hr
      have h16 := ready_all (by kernel_rfl) hL hr 16 (by decide)
      obtain ⟨ts, hv, hf, hn⟩ := hJ.fs 16 (by decide) h16
      simp only [dst] at hv
      have hval : TokVal W (A.tmps[2]?.getD undef) ts := by
        rcases hv with h | ⟨g, cp, e, _, hr⟩
        · exact Or.inl h
        · exact Or.inr ⟨g, cp, e, hr⟩
      have hdf := hJ.df
      go_wp2_with fail
      exact bodyPost_ret (v := A.tmps[2]?.getD undef) (by simp [results, Tryz.results7, go_sem]) hdf ⟨_, ts, rfl, hval, hf, hn, hJ.fr.only.below (Nat.le_of_eq HC.out) (Nat.le_refl _)⟩

end Go.Proofs.YtnnpnimlnaflnaaGreatDoor.D6
