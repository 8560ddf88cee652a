/- Draws of chapter 10: l10DrawAny, DrawPickOk, DrawShowPick, DrawWeightOf. -/
import Derived.Test.YtliihnkonakacaaGreatDoorDraw10b
import Derived.Laws.OwnMore
namespace Go.Proofs.YtliihnkonakacaaGreatDoor.B10
open Go.Proofs.YtliihnkonakacaaGreatDoor.P1 Go.Proofs.YtliihnkonakacaaGreatDoor.B1 Go.Proofs.YtliihnkonakacaaGreatDoor.B2 Go.Proofs.YtliihnkonakacaaGreatDoor.T1 Go.Proofs.YtliihnkonakacaaGreatDoor.BT Go.Proofs.YtliihnkonakacaaGreatDoor.P5 Go.Proofs.YtliihnkonakacaaGreatDoor.B5 Go.Proofs.YtliihnkonakacaaGreatDoor.P6 Go.Proofs.YtliihnkonakacaaGreatDoor.B6 Go.Proofs.YtliihnkonakacaaGreatDoor.D1 Go.Proofs.YtliihnkonakacaaGreatDoor.D2 Go.Proofs.YtliihnkonakacaaGreatDoor.D5 Go.Proofs.YtliihnkonakacaaGreatDoor.DB Go.Proofs.YtliihnkonakacaaGreatDoor.W8 Go.Proofs.YtliihnkonakacaaGreatDoor.RC Go.Proofs.YtliihnkonakacaaGreatDoor.RI Go.Proofs.YtliihnkonakacaaGreatDoor.P10
open Go.ChangeShapes Go.WideShapes Go.ChangeAt Go.RowKit
set_option linter.unusedVariables false

theorem ownP_form {B : Nat} {v : Value} {xs : List Pv} {W : World} (h : OwnP B v xs W) (h1 : 1 ≤ xs.length) : ∃ g c x rest, xs = x :: rest ∧ v = .slice (some ⟨g, 0, none⟩) xs.length c ∧ B ≤ g ∧ g < W.heap.size ∧ xs.length ≤ c := by
  rcases h.own.2 with ⟨_, h0⟩ | ⟨g, cap, cur, rfl, hb, hg, hc, _⟩
  · omega
  · cases xs with
    | nil => simp at h1
    | cons x rest => exact ⟨g, cap, x, rest, rfl, rfl, hb, (Array.getElem?_eq_some_iff.1 hg).1, hc⟩

theorem ownP_cell {B g d cap : Nat} {x : Pv} {rest : List Pv} {W : World} (h : OwnP B (.slice (some ⟨g, 0, none⟩) d cap) (x :: rest) W) (hd : (x :: rest).length = d) {j : Nat} {u : Value} (hu : (ptL x)[j]? = some u) : W.cell? ⟨g, j, none⟩ = some u ∧ W.frozen? ⟨g, j, none⟩ = false := by
  have ho := h.own
  rw [hd] at ho
  have hj : j < 4 := (List.getElem?_eq_some_iff.1 hu).1
  refine ⟨?_, ho.frozenAt j⟩
  rw [ho.cellAt j (by rw [List.length_cons] at hd; omega)]
  show (ptL x ++ (ptRs rest).flatten)[j]? = some u
  rw [List.getElem?_append_left hj]
  exact hu

theorem OwnP.put {B g d cap j : Nat} {u : Value} {x y : Pv} {rest : List Pv} {W : World} (h : OwnP B (.slice (some ⟨g, 0, none⟩) d cap) (x :: rest) W) (hd : (x :: rest).length = d) (hj : j < 4) (e : (ptL x).set j u = ptL y) (hy : Words (W.setCell ⟨g, j, none⟩ u) y.u B y.p.bs) (hok : PtD y.p) :
    OwnP B (.slice (some ⟨g, 0, none⟩) d cap) (y :: rest) (W.setCell ⟨g, j, none⟩ u) := by
  have ho := h.own
  rw [hd] at ho
  obtain ⟨h1, hg⟩ := ho.stored j u
  have ef : (ptRs (x :: rest)).flatten.set j u = (ptRs (y :: rest)).flatten := by
    show (ptL x ++ (ptRs rest).flatten).set j u = ptL y ++ (ptRs rest).flatten
    rw [List.set_append_left _ _ (by exact hj), e]
  rw [ef] at h1
  refine ⟨?_, fun z hz => ?_, fun z hz => ?_⟩
  · rw [show (y :: rest).length = d by rw [List.length_cons] at hd ⊢; exact hd]
    exact h1
  · rcases List.mem_cons.1 hz with rfl | hz
    · exact hy
    · exact words_grown (h.hs z (by simp [hz])) h.own hg
  · rcases List.mem_cons.1 hz with rfl | hz
    · exact hok
    · exact h.ok z (by simp [hz])

/-- The part's own badges lie where its row is written. -/
theorem OwnP.badges {B g d cap j : Nat} {u : Value} {x : Pv} {rest : List Pv} {W : World} (h : OwnP B (.slice (some ⟨g, 0, none⟩) d cap) (x :: rest) W) (hd : (x :: rest).length = d) : Words (W.setCell ⟨g, j, none⟩ u) x.u B x.p.bs := by
  have ho := h.own
  rw [hd] at ho
  exact words_grown (h.hs x (by simp)) h.own (ho.stored j u).2

/-- Twice the parts. -/
theorem ownP_twice {B d : Nat} {v v7 : Value} {xs : List Pv} {W W7 : World} (h : OwnP B v xs W) (hd : xs.length = d) (hown : W7.ownsRow B 37 4 v7 (d + d) ((ptRs xs).flatten ++ (ptRs xs).flatten)) (hg : W.grownBy W7 v.ownBlock) : OwnP B v7 (xs ++ xs) W7 := by
  refine ⟨?_, fun x hx => ?_, fun x hx => ?_⟩
  · have e : (ptRs (xs ++ xs)).flatten = (ptRs xs).flatten ++ (ptRs xs).flatten := by unfold ptRs; simp
    rw [e, List.length_append, hd]
    exact hown
  · have hx : x ∈ xs := by simpa using hx
    exact words_grown (h.hs x hx) h.own hg
  · exact h.ok x (by simpa using hx)

theorem ownP_base {w : World} {B B' e size n : Nat} {v : Value} {xs : List Value} (h : w.ownsRow B e size v n xs) (hb : B' ≤ B) : w.ownsRow B' e size v n xs :=
  ⟨h.1, h.2.imp id fun ⟨g, cap, cur, e1, h2, h3⟩ => ⟨g, cap, cur, e1, Nat.le_trans hb h2, h3⟩⟩

def anyTags : List (List UInt8) := [[], [65], [97, 98, 99, 100, 101, 102, 103, 104], [97, 98, 99, 100, 101, 102, 103, 104, 105]]

theorem ownP_one {B : Nat} {v : Value} {xs : List Pv} {W : World} (h : OwnP B v xs W) : ∀ u ∈ (ptRs xs).flatten, u.oneCell' = true := by
  intro u hu
  obtain ⟨r, hr, hur⟩ := List.mem_flatten.1 hu
  obtain ⟨x, hx, rfl⟩ := List.mem_map.1 hr
  exact List.all_eq_true.1 (ptL_one (Words.slc (h.hs x hx))) u hur

theorem wpList_twice {ops : Array Oper} {rest : List Oper} {o : Oper} {a : Act} {Q : Exit → Act → World → Prop} (hgd : o.guard = none) (s x : Operand) (t : TypeId)
    (ho : o.op = .call { callee := .builtin .append, args := #[s, x], argTypes := #[t, t] }) (ht : Tryz.prog.underlying t = some (.slice 37))
    {B g d k : Nat} {xs : List Pv} {w : World} (h : OwnP B (.slice (some ⟨g, 0, none⟩) d k) xs w) (hd : xs.length = d) (hd1 : 1 ≤ d) (hd2 : d ≤ 1000) (hB : B ≤ w.heap.size)
    (hs : a.eval s = .slice (some ⟨g, 0, none⟩) d k) (hx : a.eval x = .slice (some ⟨g, 0, none⟩) d k)
    (K : ∀ g' k' w', OwnP B (.slice (some ⟨g', 0, none⟩) (d + d) k') (xs ++ xs) w' → w.grownBy w' (some g) → B ≤ g' → wpList Tryz.prog ops Q rest (a.put o.dst (.slice (some ⟨g', 0, none⟩) (d + d) k')) w') : wpList Tryz.prog ops Q (o :: rest) a w := by
  obtain ⟨i0, hi, hz0, hz1, hz2⟩ := info_parts infoPtD
  have ho3 := h.own
  rw [hd] at ho3
  refine wpList_append_own w hgd s x t ho B 37 i0 _ 4 64 ht hi hz0 hz1 hz2 rfl (by decide) _ d (ptRs xs).flatten hs ho3 ⟨g, 0, none⟩ d k (ptRs xs).flatten hx ho3.1 (World.ownsRow.cells ho3 (g := g) rfl) (ownP_one h) (by unfold maxLen; omega) (by omega) hB ?_
  intro v7 w7 hown7 hg7 _
  have h8 := ownP_twice h hd hown7 hg7
  obtain ⟨g7, k7, x7, r7, e7, ev7, hB7, _, _⟩ := ownP_form h8 (by rw [List.length_append]; omega)
  rw [List.length_append, hd] at ev7
  subst ev7
  exact K g7 k7 w7 h8 hg7 hB7

set_option maxRecDepth 20000 in
set_option maxHeartbeats 8000000 in
theorem l10DrawAny_draw (w : World) (c : Nat) (a : Option Addr) (len cap : Nat) (h : Cur w c a len cap) :
    Calls Tryz.prog 89 #[.pointer (some ⟨c, 0, none⟩)] w (DrawnP 8 c a len cap w) := by
  obtain ⟨i0, hi, hz0, hz1, hz2⟩ := info_parts infoPtD
  have hcw := h.lt
  have hF0 := Fr.refl h
  clear h
  go_enter Tryz.func89, Tryz.ntmps89
  go_wp2_with fail
  refine (Draw10_draw _ c a len cap hF0.cur).mono ?_
  rintro e w1 ⟨v, xs, rfl, hown, hlen, hlen1, hc1, hon1⟩
  have hF1 := hF0.call hc1 hon1
  clear hF0 hc1 hon1
  obtain ⟨g, k, x, rest, rfl, rfl, hBg, hgs, hroom⟩ := ownP_form hown hlen1
  obtain ⟨d, hd⟩ : ∃ d, (x :: rest).length = d := ⟨_, rfl⟩
  rw [hd] at hown hlen hlen1 hroom ⊢
  have HD := Lib.hid hd
  clear hd
  go_wp2_with fail
  refine (Once_draw _ c a len cap 8 hF1.cur).mono ?_
  rintro e w2 ⟨q, rfl, hc2, hon2⟩
  have hF2 := hF1.call hc2 hon2
  have hown2 := hown.call hon2 hcw
  clear hF1 hc2 hon2 hown
  cases q
  · go_wp2_with fail
    go_ret
    exact ⟨_, x :: rest, rfl, hown2, by rw [HD.out]; omega, by rw [HD.out]; omega, hF2.cur, hF2.only⟩
  · go_wp2_with fail
    refine (Below_draw _ c a len cap 5 hF2.cur).mono ?_
    rintro e w3 ⟨z, hz, rfl, hc3, hon3⟩
    obtain ⟨Z, rfl, hZ⟩ := below_nat (m := 5) hz (by omega)
    have hF3 := hF2.call hc3 hon3
    have hown3 := hown2.call hon3 hcw
    have hgc : g ≠ c := by omega
    have hdc : (d : Int) ≤ (k : Int) := by omega
    have hd1 : (0 : Int) < (d : Int) := by omega
    clear hF2 hc3 hon3 hown2 hz
    rcases (show Z = 0 ∨ Z = 1 ∨ Z = 2 ∨ Z = 3 ∨ Z = 4 by omega) with rfl | rfl | rfl | rfl | rfl
    · obtain ⟨k3, f3⟩ := ownP_cell hown3 HD.out (j := 3) rfl
      go_wp2_with fail
      go_ret
      exact ⟨_, ⟨⟨x.p.tag, x.p.id, x.p.bs, true⟩, x.u⟩ :: rest, rfl, hown3.put HD.out (by decide) rfl (hown3.badges HD.out) (hown3.ok x (by simp)), by have := HD.out; simp at this ⊢; omega, by simp, (hF3.set hBg hgc 3 _).cur, (hF3.set hBg hgc 3 _).only⟩
    · have hFa := hF3.alloc (.cells (wordsV anyTags).toArray 9)
      have hla : LBlk (w3.alloc (.cells (wordsV anyTags).toArray 9)) w3.heap.size (wordsV anyTags) := LBlk.new w3 (wordsV anyTags) 9
      have hcr : w3.heap.size ≠ c := Nat.ne_of_gt hF3.cur.lt
      have howna := hown3.on ((Below.refl _ _).alloc (Nat.le_refl _) (.cells (wordsV anyTags).toArray 9))
      go_wp2_with fail
      refine (Below_draw _ c a len cap 4 hFa.cur).mono ?_
      rintro e w4 ⟨l, ⟨hl0, hl1, _⟩, rfl, hc4, hon4⟩
      have hl1' := hl1 (by omega)
      obtain ⟨K, rfl⟩ : ∃ K : Nat, l = (K : Int) := ⟨l.toNat, by omega⟩
      have hF4 := hFa.call hc4 hon4
      have hown4 := howna.call hon4 hcw
      obtain ⟨s, hsm, cs⟩ := picked (hla.only hon4 hcr) (K := K) (by show K < 4; omega)
      have hs100 : s.length ≤ 100 := by
        have : ∀ x ∈ anyTags, x.length ≤ 100 := by decide
        exact this s hsm
      have hK3 : (K : Int) < 4 := by omega
      have hK0 : (0 : Int) ≤ (K : Int) := by omega
      obtain ⟨k0, f0⟩ := ownP_cell hown4 HD.out (j := 0) rfl
      clear hF3 hFa hla hcr howna hc4 hon4 hl0 hl1 hl1' hsm hown3
      go_wp2_with fail
      go_ret
      exact ⟨_, ⟨⟨s, x.p.id, x.p.bs, x.p.near⟩, x.u⟩ :: rest, rfl, hown4.put HD.out (by decide) rfl (hown4.badges HD.out) ⟨hs100, (hown4.ok x (by simp)).2⟩, by have := HD.out; simp at this ⊢; omega, by simp, (hF4.set hBg hgc 0 _).cur, (hF4.set hBg hgc 0 _).only⟩
    · have hFa := hF3.alloc (.cells #[.string ⟨#[98]⟩, .string ⟨#[97]⟩] 9)
      have howna := hown3.on ((Below.refl _ _).alloc (Nat.le_refl _) (.cells #[.string ⟨#[98]⟩, .string ⟨#[97]⟩] 9))
      have hwa : Words (w3.alloc (.cells #[.string ⟨#[98]⟩, .string ⟨#[97]⟩] 9)) (.slice (some ⟨w3.heap.size, 0, none⟩) 2 2) w.heap.size [[98], [97]] := World.ownsRow_lit w3 #[.string ⟨#[98]⟩, .string ⟨#[97]⟩] 2 hF3.only.size (by decide) rfl
      obtain ⟨k2, f2⟩ := ownP_cell howna HD.out (j := 2) rfl
      clear hF3 hown3
      go_wp2_with fail
      go_ret
      exact ⟨_, ⟨⟨x.p.tag, x.p.id, [[98], [97]], x.p.near⟩, .slice (some ⟨w3.heap.size, 0, none⟩) 2 2⟩ :: rest, rfl, howna.put HD.out (by decide) rfl (words_grown hwa howna.own (by have ho := howna.own; rw [HD.out] at ho; exact (ho.stored 2 _).2)) ⟨(howna.ok x (by simp)).1, (howna.ok x (by simp)).2.1, by show 2 ≤ 10; decide, by intro s hs; simp at hs; rcases hs with rfl | rfl <;> decide⟩, by have := HD.out; simp at this ⊢; omega, by simp, (hFa.set hBg hgc 2 _).cur, (hFa.set hBg hgc 2 _).only⟩
    · have hd2 : d ≤ 1000 := by omega
      go_wp2_with (at_builtin; first
        | (refine wpList_twice rfl _ _ 24 rfl Tryz.underlying24 hown3 HD.out (by omega) hd2 hF3.only.size rfl rfl ?_
           intro g7 k7 w7 hown7 hgr7 hB7
           have hF7 := fr_grown hF3 hcw hgr7 (fun k' hk' => (World.ownsRow.lt hown3.own k' hk').1)
           have hl7 : (x :: rest ++ x :: rest).length = d + d := by rw [List.length_append, HD.out]
           obtain ⟨D, hD⟩ : ∃ D, d + d = D := ⟨_, rfl⟩
           obtain ⟨ys, hys⟩ : ∃ ys, x :: rest ++ x :: rest = ys := ⟨_, rfl⟩
           rw [hD] at hown7 hl7 ⊢
           rw [hys] at hown7 hl7
           have hD4 : 1 ≤ D ∧ D ≤ 4 := by omega
           have HD7 := Lib.hid hl7
           clear hD hys hl7)
        | (refine wpList_twice rfl _ _ 24 rfl Tryz.underlying24 hown7 HD7.out (by omega) (by omega) hF7.only.size rfl rfl ?_
           intro g8 k8 w8 hown8 hgr8 hB8
           have hF8 := fr_grown hF7 hcw hgr8 (fun k' hk' => (World.ownsRow.lt hown7.own k' hk').1)))
      go_ret
      exact ⟨_, ys ++ ys, rfl, hown8, by rw [List.length_append, HD7.out]; omega, by rw [List.length_append, HD7.out]; omega, hF8.cur, hF8.only⟩
    · obtain ⟨k0, f0⟩ := ownP_cell hown3 HD.out (j := 0) rfl
      obtain ⟨k1, f1⟩ := ownP_cell hown3 HD.out (j := 1) rfl
      obtain ⟨k2, f2⟩ := ownP_cell hown3 HD.out (j := 2) rfl
      obtain ⟨k3, f3⟩ := ownP_cell hown3 HD.out (j := 3) rfl
      have p1 := hown3.put (j := 0) (u := .string ⟨#[]⟩) (y := ⟨⟨[], x.p.id, x.p.bs, x.p.near⟩, x.u⟩) HD.out (by decide) rfl (hown3.badges HD.out) ⟨Nat.zero_le _, (hown3.ok x (by simp)).2⟩
      have p2 := p1.put (j := 1) (u := .string ⟨#[]⟩) (y := ⟨⟨[], [], x.p.bs, x.p.near⟩, x.u⟩) HD.out (by decide) rfl (p1.badges HD.out) ⟨Nat.zero_le _, Nat.zero_le _, (hown3.ok x (by simp)).2.2⟩
      have p3 := p2.put (j := 2) (u := .slice none 0 0) (y := ⟨⟨[], [], [], x.p.near⟩, .slice none 0 0⟩) HD.out (by decide) rfl (World.ownsRow_nil _ _ _ _) ⟨Nat.zero_le _, Nat.zero_le _, Nat.zero_le _, by simp⟩
      have p4 := p3.put (j := 3) (u := .bool false) (y := ⟨⟨[], [], [], false⟩, .slice none 0 0⟩) HD.out (by decide) rfl (p3.badges HD.out) ⟨Nat.zero_le _, Nat.zero_le _, Nat.zero_le _, by simp⟩
      have hF4 := (((hF3.set hBg hgc 0 (.string ⟨#[]⟩)).set hBg hgc 1 (.string ⟨#[]⟩)).set hBg hgc 2 (.slice none 0 0)).set hBg hgc 3 (.bool false)
      go_wp2_with fail
      go_ret
      exact ⟨_, _ :: rest, rfl, p4, by have := HD.out; simp at this ⊢; omega, by simp, hF4.cur, hF4.only⟩

/-- Some parts, as the draws give them to a law. -/
def GivenP (w : World) (e : Ending) (w' : World) : Prop := ∃ v xs, e = .returned v ∧ OwnP w.heap.size v xs w' ∧ xs.length ≤ 8 ∧ 1 ≤ xs.length ∧ Below w.heap.size w w'

set_option maxRecDepth 20000 in
theorem PickOk_draw (w : World) (a : Option Addr) (len cap : Nat) (h : Bytes w w.heap.size a len) :
    Calls Tryz.prog 45 #[.slice a len cap] w (GivenP w) := by
  go_enter Tryz.func45, Tryz.ntmps45
  go_wp2_with fail
  refine (New_draw _ a len cap h).mono ?_
  rintro e w1 ⟨rfl, hc1, ho1⟩
  have hF1 : Fr w.heap.size a len cap w w1 := ⟨hc1, ho1, h⟩
  clear hc1 ho1 h
  go_wp2_with fail
  refine (l10DrawAny_draw _ w.heap.size a len cap hF1.cur).mono ?_
  rintro e w2 ⟨v, xs, rfl, hv, hlen, hlen1, hc2, ho2⟩
  have hF2 := hF1.call hc2 ho2
  obtain ⟨ad, cp, rfl⟩ := ownP_shape hv
  go_wp2_with fail
  go_ret
  exact ⟨_, xs, rfl, ⟨ownP_base hv.own hF1.only.size, fun x hx => row_base (hv.hs x hx) hF1.only.size, hv.ok⟩, hlen, hlen1, hF2.only.below (Nat.le_refl _) (Nat.le_refl _)⟩

set_option maxRecDepth 20000 in
theorem ShowPick_draw (w : World) (a : Option Addr) (len cap : Nat) (h : Bytes w w.heap.size a len) :
    Calls Tryz.prog 12 #[.slice a len cap] w (GivenP w) := by
  go_enter Tryz.func12, Tryz.ntmps12
  go_wp2_with fail
  refine (PickOk_draw _ a len cap h).mono ?_
  rintro e w2 ⟨v, xs, rfl, hv, hlen, hlen1, hb⟩
  obtain ⟨ad, cp, rfl⟩ := ownP_shape hv
  go_wp2_with fail
  go_ret
  exact ⟨_, xs, rfl, hv, hlen, hlen1, hb⟩

set_option maxRecDepth 20000 in
theorem WeightOf_draw (w : World) (a : Option Addr) (len cap : Nat) (h : Bytes w w.heap.size a len) :
    Calls Tryz.prog 22 #[.slice a len cap] w (GivenP w) := by
  go_enter Tryz.func22, Tryz.ntmps22
  go_wp2_with fail
  refine (PickOk_draw _ a len cap h).mono ?_
  rintro e w2 ⟨v, xs, rfl, hv, hlen, hlen1, hb⟩
  obtain ⟨ad, cp, rfl⟩ := ownP_shape hv
  go_wp2_with fail
  go_ret
  exact ⟨_, xs, rfl, hv, hlen, hlen1, hb⟩

end Go.Proofs.YtliihnkonakacaaGreatDoor.B10
