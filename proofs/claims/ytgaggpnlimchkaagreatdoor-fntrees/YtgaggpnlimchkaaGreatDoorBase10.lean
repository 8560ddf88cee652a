/- Chapter 10: a part's cells, slices of parts; the reference's l10Name, l10Badges, l10Part, PickOk, l10Weight, WeightOf. -/
import Derived.Test.YtgaggpnlimchkaaGreatDoorBase6
import Derived.Test.YtgaggpnlimchkaaGreatDoorSeq10
import Derived.Test.YtgaggpnlimchkaaGreatDoorImp6
import Derived.BigQuiet
import Derived.Deep.QuietTactic
import Derived.Deep.LoopGhost
import Derived.Sort.Walk0
namespace Go.Proofs.YtgaggpnlimchkaaGreatDoor.B10
open Go.Proofs.YtgaggpnlimchkaaGreatDoor.P1 Go.Proofs.YtgaggpnlimchkaaGreatDoor.B1 Go.Proofs.YtgaggpnlimchkaaGreatDoor.B2 Go.Proofs.YtgaggpnlimchkaaGreatDoor.T1 Go.Proofs.YtgaggpnlimchkaaGreatDoor.BT Go.Proofs.YtgaggpnlimchkaaGreatDoor.P5 Go.Proofs.YtgaggpnlimchkaaGreatDoor.B5 Go.Proofs.YtgaggpnlimchkaaGreatDoor.P6 Go.Proofs.YtgaggpnlimchkaaGreatDoor.B6 Go.Proofs.YtgaggpnlimchkaaGreatDoor.D1 Go.Proofs.YtgaggpnlimchkaaGreatDoor.W8 Go.Proofs.YtgaggpnlimchkaaGreatDoor.RC Go.Proofs.YtgaggpnlimchkaaGreatDoor.RI Go.Proofs.YtgaggpnlimchkaaGreatDoor.P10
open Go.ChangeShapes Go.WideShapes Go.ChangeAt Go.RowKit
set_option linter.unusedVariables false

/-- A part with the slice that holds its badges. -/
structure Pv where
  p : Pt
  u : Value

def ptL (x : Pv) : List Value := [.string ⟨x.p.tag.toArray⟩, .string ⟨x.p.id.toArray⟩, x.u, .bool x.p.near]

def ptV (x : Pv) : Value := .agg (ptL x).toArray

def ptRs (xs : List Pv) : List (List Value) := xs.map ptL

/-- The badges lie there, in slices of lengths that Go can hold. -/
def Held (w : World) (x : Pv) : Prop := StrSlc w x.u x.p.bs

theorem Held.on {w w' : World} {x : Pv} (h : Held w x) (hb : Below w.heap.size w w') : Held w' x := StrSlc.on h hb

/-- A slice of parts. -/
def PtSlc (w : World) (v : Value) (xs : List Pv) : Prop := RC.Slc 4 w v (ptRs xs) ∧ ∀ x ∈ xs, Held w x

theorem ptRs_len (xs : List Pv) : (ptRs xs).length = xs.length := by simp [ptRs]
theorem ptRs_at {xs : List Pv} {i : Nat} {x : Pv} (h : xs[i]? = some x) : (ptRs xs)[i]? = some (ptL x) := by unfold ptRs; rw [List.getElem?_map, h]; rfl
theorem ptRs_four (xs : List Pv) : ∀ r ∈ ptRs xs, r.length = 4 := fun r hr => by
  obtain ⟨n, _, rfl⟩ := List.mem_map.1 hr
  rfl

theorem PtSlc.on {w w' : World} {v : Value} {xs : List Pv} (h : PtSlc w v xs) (hb : Below w.heap.size w w') : PtSlc w' v xs := ⟨Slc.on h.1 hb, fun x hx => (h.2 x hx).on hb⟩

theorem PtSlc.form {w : World} {v : Value} {xs : List Pv} (h : PtSlc w v xs) : ∃ a cap, v = .slice a xs.length cap ∧ xs.length ≤ cap ∧ cap ≤ 9223372036854775807 ∧ (xs ≠ [] → ∃ g off, a = some ⟨g, off, none⟩ ∧ RC.At 4 w g off (ptRs xs)) := by
  obtain ⟨a, cap, e, h1, h2, h3⟩ := h.1
  rw [ptRs_len] at e h1
  exact ⟨a, cap, e, h1, h2, fun hne => h3 (by intro e0; exact hne (List.map_eq_nil_iff.1 e0))⟩

theorem pt_wide : wideT Tryz.prog 47 4 = true := by kernel_rfl

theorem pt_cells {w : World} {g off i : Nat} {xs : List Pv} {x : Pv} (h : RC.At 4 w g off (ptRs xs)) (hx : xs[i]? = some x) :
    w.cell? ⟨g, off + i * 4, none⟩ = some (.string ⟨x.p.tag.toArray⟩) ∧ w.cell? ⟨g, off + i * 4 + 1, none⟩ = some (.string ⟨x.p.id.toArray⟩) ∧ w.cell? ⟨g, off + i * 4 + 2, none⟩ = some x.u ∧ w.cell? ⟨g, off + i * 4 + 3, none⟩ = some (.bool x.p.near) :=
  ⟨h.cells i _ (ptRs_at hx) 0 _ rfl, h.cells i _ (ptRs_at hx) 1 _ rfl, h.cells i _ (ptRs_at hx) 2 _ rfl, h.cells i _ (ptRs_at hx) 3 _ rfl⟩

theorem pt_load {w : World} {g off i : Nat} {xs : List Pv} {x : Pv} (h : RC.At 4 w g off (ptRs xs)) (hx : xs[i]? = some x) : (loadVar 47 ⟨g, off + i * 4, none⟩).run Tryz.prog w = .ok (ptV x) w := load_at h (ptRs_at hx) pt_wide

theorem held_form {w : World} {x : Pv} (h : Held w x) : ∃ a cap, x.u = .slice a x.p.bs.length cap ∧ x.p.bs.length ≤ cap ∧ cap ≤ 9223372036854775807 := by
  obtain ⟨a, cap, e, h1, h2, _⟩ := StrSlc.form h
  exact ⟨a, cap, e, h1, h2⟩

theorem ptL_one {w : World} {x : Pv} (h : Held w x) : (ptL x).all (·.oneCell') = true := by
  obtain ⟨a, cap, e, _⟩ := held_form h
  unfold ptL
  rw [e]; rfl

def ptZ : List Value := [.string ⟨#[]⟩, .string ⟨#[]⟩, .slice none 0 0, .bool false]

theorem pt_laid {w : World} {x : Pv} (h : Held w x) : ∃ w', (storeVar 47 ⟨w.heap.size, 0, none⟩ (ptV x)).run Tryz.prog (w.alloc (.cells #[.string ⟨#[]⟩, .string ⟨#[]⟩, .slice none 0 0, .bool false] 47)) = .ok () w' ∧ LBlk w' w.heap.size (ptL x) ∧ Below w.heap.size w w' := laid w ptZ (ptL x) pt_wide rfl (ptL_one h)

theorem pt_blk {w : World} {b : Nat} {x : Pv} (h : LBlk w b (ptL x)) : w.cell? ⟨b, 0, none⟩ = some (.string ⟨x.p.tag.toArray⟩) ∧ w.cell? ⟨b, 1, none⟩ = some (.string ⟨x.p.id.toArray⟩) ∧ w.cell? ⟨b, 2, none⟩ = some x.u ∧ w.cell? ⟨b, 3, none⟩ = some (.bool x.p.near) :=
  ⟨(h.2 0 _ rfl).1, (h.2 1 _ rfl).1, (h.2 2 _ rfl).1, (h.2 3 _ rfl).1⟩

/-- A boxed part. -/
theorem pt_new (w : World) (x : Pv) (t : TypeId) : LBlk (w.alloc (.cells #[.string ⟨x.p.tag.toArray⟩, .string ⟨x.p.id.toArray⟩, x.u, .bool x.p.near] t)) w.heap.size (ptL x) := LBlk.new w (ptL x) t

theorem ptV_is (x : Pv) : ptV x = .agg #[.string ⟨x.p.tag.toArray⟩, .string ⟨x.p.id.toArray⟩, x.u, .bool x.p.near] := rfl

/-- Short enough for whatever is reckoned. -/
def Fits (x : Pv) : Prop := x.p.tag.length ≤ 1048576 ∧ x.p.id.length ≤ 1048576 ∧ x.p.bs.length ≤ 1048576 ∧ ∀ s ∈ x.p.bs, s.length ≤ 1048576

theorem Name10_spec (s : List UInt8) (w : World) (hl : s.length ≤ 1048576) : Calls Tryz.prog 88 #[.string ⟨s.toArray⟩] w fun e w' => e = .returned (.bool (isName s 8)) ∧ w = w' := by
  have HN := Lib.hid (fun w' => IsName_spec s 8 w' hl (by omega))
  go_enter Tryz.func88, Tryz.ntmps88
  go_wp2_with (go_at_call 106; refine (HN.out _).mono ?_; rintro e w' ⟨rfl, rfl⟩)
  go_ret
  exact ⟨rfl, rfl⟩

end Go.Proofs.YtgaggpnlimchkaaGreatDoor.B10

namespace Go.Proofs.YtgaggpnlimchkaaGreatDoor.B10
open Go.Proofs.YtgaggpnlimchkaaGreatDoor.P1 Go.Proofs.YtgaggpnlimchkaaGreatDoor.B1 Go.Proofs.YtgaggpnlimchkaaGreatDoor.B2 Go.Proofs.YtgaggpnlimchkaaGreatDoor.T1 Go.Proofs.YtgaggpnlimchkaaGreatDoor.BT Go.Proofs.YtgaggpnlimchkaaGreatDoor.P5 Go.Proofs.YtgaggpnlimchkaaGreatDoor.B5 Go.Proofs.YtgaggpnlimchkaaGreatDoor.P6 Go.Proofs.YtgaggpnlimchkaaGreatDoor.B6 Go.Proofs.YtgaggpnlimchkaaGreatDoor.D1 Go.Proofs.YtgaggpnlimchkaaGreatDoor.W8 Go.Proofs.YtgaggpnlimchkaaGreatDoor.RC Go.Proofs.YtgaggpnlimchkaaGreatDoor.RI Go.Proofs.YtgaggpnlimchkaaGreatDoor.P10
open Go.ChangeShapes Go.WideShapes Go.ChangeAt Go.RowKit
set_option linter.unusedVariables false

/-- The parts themselves. -/
def pts (xs : List Pv) : List Pt := xs.map (·.p)

theorem rises_take {ss : List (List UInt8)} {i : Nat} {s s' : List UInt8} (h : ss[i + 1]? = some s) (h' : ss[i]? = some s') : rises (ss.take (i + 2)) = (rises (ss.take (i + 1)) && decide (s' < s)) := by
  rw [Bool.eq_iff_iff, Bool.and_eq_true, decide_eq_true_eq, rises_iff, rises_iff]
  have e1 : ss.take (i + 2) = ss.take (i + 1) ++ [s] := by rw [List.take_add_one, h]; rfl
  have e2 : ss.take (i + 1) = ss.take i ++ [s'] := by rw [List.take_add_one, h']; rfl
  constructor
  · intro ha
    rw [e1] at ha
    unfold Asc at ha ⊢
    rw [List.pairwise_append] at ha
    exact ⟨ha.1, ha.2.2 s' (by rw [e2]; simp) s (by simp)⟩
  · rintro ⟨ha, hl⟩
    rw [e1]
    unfold Asc at ha ⊢
    rw [List.pairwise_append]
    refine ⟨ha, by simp, fun x hx y hy => ?_⟩
    simp at hy
    subst hy
    rw [e2, List.mem_append, List.mem_singleton] at hx
    rcases hx with hx | rfl
    · rw [e2, List.pairwise_append] at ha
      exact List.lt_trans (ha.2.2 x hx s' (by simp)) hl
    · exact hl

theorem leq_is (s s' : List UInt8) : (Op.bytesLess s s' || s == s') = !decide (s' < s) := by
  rw [bytesLess_eq]
  by_cases h : s' < s
  · rw [decide_eq_true h]
    have h1 : ¬ s < s' := fun h2 => lt_irr (List.lt_trans h h2)
    have h2 : s ≠ s' := fun e => by rw [e] at h; exact lt_irr h
    rw [decide_eq_false h1]
    simp [h2]
  · rw [decide_eq_false h]
    rcases List.le_iff_lt_or_eq.1 (List.not_lt.1 h) with h1 | h1
    · rw [decide_eq_true h1]; rfl
    · rw [h1]; simp

set_option maxRecDepth 20000 in
set_option maxHeartbeats 2000000 in
theorem Badges_spec (m : Nat) (hm : m ≤ 1000) (ss : List (List UInt8)) (v : Value) (w : World) (h : StrSlc w v ss) (hf : ∀ s ∈ ss, s.length ≤ 1048576) (hs : ss.length ≤ 2000000) :
    Calls Tryz.prog 89 #[v, .int .i64 (m : Int)] w (Ans (.bool (badgesOk ss m)) w) := by
  obtain ⟨a, cap, rfl, hnc, hcap, HA0⟩ := h.form
  obtain ⟨n, hn⟩ : ∃ n, ss.length = n := ⟨_, rfl⟩
  rw [hn] at hnc hs ⊢
  have HF := Lib.hid hf
  have HN := Lib.hid hn
  have HA := Lib.hid HA0
  have HE := Lib.hid (show badgesOk ss m = ((ss.all (fun s => isName s 8) && rises ss) && decide (n ≤ m)) by unfold badgesOk; rw [hn])
  have hnc' : (n : Int) ≤ (cap : Int) := by omega
  have hs' : (n : Int) ≤ 2000000 := by omega
  clear h hn HA0 hcap hf
  go_enter Tryz.func89, Tryz.ntmps89
  go_wp2_with fail
  go_loopg [5] n (fun kx s5 wr => ∃ i : Nat, s5 = .int .i64 (i : Int) ∧ kx + i = n ∧ Hid (∀ j x, j < i → ss[j]? = some x → isName x 8 = true) ∧ Hid (rises (ss.take i) = true) ∧ Below w.heap.size w wr)
  case atStart => exact ⟨0, rfl, by omega, Lib.hid fun j x hj => absurd hj (Nat.not_lt_zero _), Lib.hid rfl, Below.refl _ _⟩
  case round =>
    obtain ⟨i, rfl, hk, I, J, hB⟩ := hrel
    by_cases hlt : i < n
    · have hlt' : (i : Int) < (n : Int) := by omega
      have i0' : (0 : Int) ≤ (i : Int) := by omega
      obtain ⟨s, hsx⟩ : ∃ s, ss[i]? = some s := ⟨_, List.getElem?_eq_getElem (by rw [HN.out]; exact hlt)⟩
      obtain ⟨g, off, rfl, hat⟩ := HA.out (by intro e0; rw [e0] at hsx; cases hsx)
      have HNm := Lib.hid (fun w' => Name10_spec s w' (HF.out s (List.mem_of_getElem? hsx)))
      have HC := Lib.hid (fun (W : World) (hW : Below w.heap.size w W) => str_cell (hat.on hW) hsx)
      have HX := Lib.hid hsx
      clear hsx
      cases hok : isName s 8
      · have HK := Lib.hid (show badgesOk ss m = false by
          rw [HE.out]
          have : ss.all (fun s => isName s 8) = false := by
            rw [Bool.eq_false_iff]
            intro ha
            have := List.all_eq_true.1 ha s (List.mem_of_getElem? HX.out)
            rw [hok] at this; cases this
          rw [this]; rfl)
        rw [hok] at HNm
        clear hok hat
        go_upto_region 4 with fail
        refine RI.region_det (by kernel_rfl) [.slice (some ⟨g, off, none⟩) n cap, .int .i64 (i : Int), .pointer (some ⟨g, off + i, none⟩), .string ⟨s.toArray⟩, .bool false, .bool true, .bool true, undef, undef, undef, undef, undef, undef, undef, undef, undef, undef, undef, undef, undef, undef, .bool true] (fun W => Below w.heap.size w W) (none :: none :: none :: none :: none :: none :: none :: none :: none :: none :: none :: none :: some 0 :: some 1 :: some 2 :: some 3 :: some 4 :: some 5 :: some 6 :: some 7 :: some 8 :: some 9 :: some 10 :: some 11 :: some 12 :: some 13 :: some 14 :: some 15 :: some 16 :: some 17 :: some 18 :: some 19 :: some 20 :: some 21 :: none :: none :: none :: none :: []) (by kernel_rfl) (by kernel_rfl) (⟨hB.os, hB.tape, hB.output, hB.size, hB.block⟩) ?_ ?_
        · intro i hi A W hB hA
          have hi2 : i < 22 := hi
          have hcase : i = 0 ∨ i = 1 ∨ i = 2 ∨ i = 3 ∨ i = 4 ∨ i = 5 ∨ i = 6 ∨ i = 7 ∨ i = 8 ∨ i = 9 ∨ i = 10 ∨ i = 11 ∨ i = 12 ∨ i = 13 ∨ i = 14 ∨ i = 15 ∨ i = 16 ∨ i = 17 ∨ i = 18 ∨ i = 19 ∨ i = 20 ∨ i = 21 := by omega
          clear hi hi2
          rcases hcase with rfl | rfl | rfl | rfl | rfl | rfl | rfl | rfl | rfl | rfl | rfl | rfl | rfl | rfl | rfl | rfl | rfl | rfl | rfl | rfl | rfl | rfl
          · have s0 : A.tmps[0]?.getD undef = .slice (some ⟨g, off, none⟩) n cap := (hA.st 0 (by kernel_rfl)).trans rfl
            exact wpOp_of rfl rfl (wp_value (v := .slice (some ⟨g, off, none⟩) n cap) (W' := W) (by simp [execOp, Act.eval, s0, go_sem]) ⟨rfl, hB⟩)
          · have s5 : A.tmps[5]?.getD undef = .int .i64 (i : Int) := (hA.st 5 (by kernel_rfl)).trans rfl
            exact wpOp_of rfl rfl (wp_value (v := .int .i64 (i : Int)) (W' := W) (by simp [execOp, Act.eval, s5, go_sem]) ⟨rfl, hB⟩)
          · have s12 : A.tmps[12]?.getD undef = .slice (some ⟨g, off, none⟩) n cap := hA.on 0 12 (by kernel_rfl) (by kernel_rfl)
            have s13 : A.tmps[13]?.getD undef = .int .i64 (i : Int) := hA.on 1 13 (by kernel_rfl) (by kernel_rfl)
            exact wpOp_of rfl rfl (wp_value (v := .pointer (some ⟨g, off + i, none⟩)) (W' := W) (by simp [execOp, Act.eval, s12, s13, go_sem, hlt', i0']) ⟨rfl, hB⟩)
          · have s14 : A.tmps[14]?.getD undef = .pointer (some ⟨g, off + i, none⟩) := hA.on 2 14 (by kernel_rfl) (by kernel_rfl)
            have cW := HC.out W hB
            exact wpOp_of rfl rfl (wp_value (v := .string ⟨s.toArray⟩) (W' := W) (by simp [execOp, Act.eval, s14, go_sem, cW]) ⟨rfl, hB⟩)
          · have s15 : A.tmps[15]?.getD undef = .string ⟨s.toArray⟩ := hA.on 3 15 (by kernel_rfl) (by kernel_rfl)
            refine wpOp_of rfl rfl (wp_enter (f := 88) (args := #[.string ⟨s.toArray⟩]) (by simp [execOp, Act.eval, s15, go_sem]) ?_)
            refine (HNm.out W).mono ?_
            rintro e w' ⟨rfl, rfl⟩
            exact ⟨_, rfl, rfl, hB⟩
          · have s16 : A.tmps[16]?.getD undef = .bool false := hA.on 4 16 (by kernel_rfl) (by kernel_rfl)
            exact wpOp_of rfl rfl (wp_value (v := .bool true) (W' := W) (by simp [execOp, Act.eval, s16, go_sem]) ⟨rfl, hB⟩)
          · have s17 : A.tmps[17]?.getD undef = .bool true := hA.on 5 17 (by kernel_rfl) (by kernel_rfl)
            exact wpOp_of rfl rfl (wp_value (v := .bool true) (W' := W) (by simp [execOp, Act.eval, s17, go_sem]) ⟨rfl, hB⟩)
          · have hg : A.tmps[18]?.getD undef = .bool true := hA.on 6 18 (by kernel_rfl) (by kernel_rfl)
            exact wpOp_pass rfl rfl (by kernel_rfl) _ hg (by simp) ⟨rfl, hB⟩
          · have hg : A.tmps[18]?.getD undef = .bool true := hA.on 6 18 (by kernel_rfl) (by kernel_rfl)
            exact wpOp_pass rfl rfl (by kernel_rfl) _ hg (by simp) ⟨rfl, hB⟩
          · have hg : A.tmps[18]?.getD undef = .bool true := hA.on 6 18 (by kernel_rfl) (by kernel_rfl)
            exact wpOp_pass rfl rfl (by kernel_rfl) _ hg (by simp) ⟨rfl, hB⟩
          · have hg : A.tmps[21]?.getD undef = undef := hA.on 9 21 (by kernel_rfl) (by kernel_rfl)
            exact wpOp_pass rfl rfl (by kernel_rfl) _ hg (by exact fun h => by cases h) ⟨rfl, hB⟩
          · have hg : A.tmps[21]?.getD undef = undef := hA.on 9 21 (by kernel_rfl) (by kernel_rfl)
            exact wpOp_pass rfl rfl (by kernel_rfl) _ hg (by exact fun h => by cases h) ⟨rfl, hB⟩
          · have hg : A.tmps[21]?.getD undef = undef := hA.on 9 21 (by kernel_rfl) (by kernel_rfl)
            exact wpOp_pass rfl rfl (by kernel_rfl) _ hg (by exact fun h => by cases h) ⟨rfl, hB⟩
          · have hg : A.tmps[21]?.getD undef = undef := hA.on 9 21 (by kernel_rfl) (by kernel_rfl)
            exact wpOp_pass rfl rfl (by kernel_rfl) _ hg (by exact fun h => by cases h) ⟨rfl, hB⟩
          · have hg : A.tmps[21]?.getD undef = undef := hA.on 9 21 (by kernel_rfl) (by kernel_rfl)
            exact wpOp_pass rfl rfl (by kernel_rfl) _ hg (by exact fun h => by cases h) ⟨rfl, hB⟩
          · have hg : A.tmps[21]?.getD undef = undef := hA.on 9 21 (by kernel_rfl) (by kernel_rfl)
            exact wpOp_pass rfl rfl (by kernel_rfl) _ hg (by exact fun h => by cases h) ⟨rfl, hB⟩
          · have hg : A.tmps[21]?.getD undef = undef := hA.on 9 21 (by kernel_rfl) (by kernel_rfl)
            exact wpOp_pass rfl rfl (by kernel_rfl) _ hg (by exact fun h => by cases h) ⟨rfl, hB⟩
          · have hg : A.tmps[21]?.getD undef = undef := hA.on 9 21 (by kernel_rfl) (by kernel_rfl)
            exact wpOp_pass rfl rfl (by kernel_rfl) _ hg (by exact fun h => by cases h) ⟨rfl, hB⟩
          · have hg : A.tmps[21]?.getD undef = undef := hA.on 9 21 (by kernel_rfl) (by kernel_rfl)
            exact wpOp_pass rfl rfl (by kernel_rfl) _ hg (by exact fun h => by cases h) ⟨rfl, hB⟩
          · have hg : A.tmps[21]?.getD undef = undef := hA.on 9 21 (by kernel_rfl) (by kernel_rfl)
            exact wpOp_pass rfl rfl (by kernel_rfl) _ hg (by exact fun h => by cases h) ⟨rfl, hB⟩
          · have hg : A.tmps[18]?.getD undef = .bool true := hA.on 6 18 (by kernel_rfl) (by kernel_rfl)
            exact wpOp_pass rfl rfl (by kernel_rfl) _ hg (by simp) ⟨rfl, hB⟩
          · have s18 : A.tmps[18]?.getD undef = .bool true := hA.on 6 18 (by kernel_rfl) (by kernel_rfl)
            exact wpOp_of rfl rfl (wp_value (v := .bool true) (W' := W) (by simp [execOp, Act.eval, s18, go_sem]) ⟨rfl, hB⟩)
        intro wR hR
        simp only [RI.mergeL, List.getElem?_cons_zero, List.getElem?_cons_succ, Option.getD_some]
        go_wp2_with fail
        go_ret
        exact ⟨by rw [HK.out]; rfl, hR⟩
      · have HI := Lib.hid (show ∀ j y, j < i + 1 → ss[j]? = some y → isName y 8 = true from fun j y hj hy => by
          rcases Nat.lt_or_eq_of_le (Nat.le_of_lt_succ hj) with h | h
          · exact I.out j y h hy
          · rw [h, HX.out] at hy; cases hy; exact hok)
        rw [hok] at HNm
        clear hok
        by_cases hi00 : i = 0
        · have hz0 : ¬ 0 < i := by omega
          have HJ := Lib.hid (show rises (ss.take (i + 1)) = true by
            rw [hi00]
            cases hss : ss with
            | nil => rfl
            | cons a r => rfl)
          clear hat hi00
          go_upto_region 4 with fail
          refine RI.region_det (by kernel_rfl) [.slice (some ⟨g, off, none⟩) n cap, .int .i64 (i : Int), .pointer (some ⟨g, off + i, none⟩), .string ⟨s.toArray⟩, .bool true, .bool false, .bool false, .int .i64 (i : Int), .bool false, .bool false, undef, undef, undef, undef, undef, undef, undef, undef, undef, undef, .bool false, .bool false] (fun W => Below w.heap.size w W) (none :: none :: none :: none :: none :: none :: none :: none :: none :: none :: none :: none :: some 0 :: some 1 :: some 2 :: some 3 :: some 4 :: some 5 :: some 6 :: some 7 :: some 8 :: some 9 :: some 10 :: some 11 :: some 12 :: some 13 :: some 14 :: some 15 :: some 16 :: some 17 :: some 18 :: some 19 :: some 20 :: some 21 :: none :: none :: none :: none :: []) (by kernel_rfl) (by kernel_rfl) (⟨hB.os, hB.tape, hB.output, hB.size, hB.block⟩) ?_ ?_
          · intro i hi A W hB hA
            have hi2 : i < 22 := hi
            have hcase : i = 0 ∨ i = 1 ∨ i = 2 ∨ i = 3 ∨ i = 4 ∨ i = 5 ∨ i = 6 ∨ i = 7 ∨ i = 8 ∨ i = 9 ∨ i = 10 ∨ i = 11 ∨ i = 12 ∨ i = 13 ∨ i = 14 ∨ i = 15 ∨ i = 16 ∨ i = 17 ∨ i = 18 ∨ i = 19 ∨ i = 20 ∨ i = 21 := by omega
            clear hi hi2
            rcases hcase with rfl | rfl | rfl | rfl | rfl | rfl | rfl | rfl | rfl | rfl | rfl | rfl | rfl | rfl | rfl | rfl | rfl | rfl | rfl | rfl | rfl | rfl
            · have s0 : A.tmps[0]?.getD undef = .slice (some ⟨g, off, none⟩) n cap := (hA.st 0 (by kernel_rfl)).trans rfl
              exact wpOp_of rfl rfl (wp_value (v := .slice (some ⟨g, off, none⟩) n cap) (W' := W) (by simp [execOp, Act.eval, s0, go_sem]) ⟨rfl, hB⟩)
            · have s5 : A.tmps[5]?.getD undef = .int .i64 (i : Int) := (hA.st 5 (by kernel_rfl)).trans rfl
              exact wpOp_of rfl rfl (wp_value (v := .int .i64 (i : Int)) (W' := W) (by simp [execOp, Act.eval, s5, go_sem]) ⟨rfl, hB⟩)
            · have s12 : A.tmps[12]?.getD undef = .slice (some ⟨g, off, none⟩) n cap := hA.on 0 12 (by kernel_rfl) (by kernel_rfl)
              have s13 : A.tmps[13]?.getD undef = .int .i64 (i : Int) := hA.on 1 13 (by kernel_rfl) (by kernel_rfl)
              exact wpOp_of rfl rfl (wp_value (v := .pointer (some ⟨g, off + i, none⟩)) (W' := W) (by simp [execOp, Act.eval, s12, s13, go_sem, hlt', i0']) ⟨rfl, hB⟩)
            · have s14 : A.tmps[14]?.getD undef = .pointer (some ⟨g, off + i, none⟩) := hA.on 2 14 (by kernel_rfl) (by kernel_rfl)
              have cW := HC.out W hB
              exact wpOp_of rfl rfl (wp_value (v := .string ⟨s.toArray⟩) (W' := W) (by simp [execOp, Act.eval, s14, go_sem, cW]) ⟨rfl, hB⟩)
            · have s15 : A.tmps[15]?.getD undef = .string ⟨s.toArray⟩ := hA.on 3 15 (by kernel_rfl) (by kernel_rfl)
              refine wpOp_of rfl rfl (wp_enter (f := 88) (args := #[.string ⟨s.toArray⟩]) (by simp [execOp, Act.eval, s15, go_sem]) ?_)
              refine (HNm.out W).mono ?_
              rintro e w' ⟨rfl, rfl⟩
              exact ⟨_, rfl, rfl, hB⟩
            · have s16 : A.tmps[16]?.getD undef = .bool true := hA.on 4 16 (by kernel_rfl) (by kernel_rfl)
              exact wpOp_of rfl rfl (wp_value (v := .bool false) (W' := W) (by simp [execOp, Act.eval, s16, go_sem]) ⟨rfl, hB⟩)
            · have s17 : A.tmps[17]?.getD undef = .bool false := hA.on 5 17 (by kernel_rfl) (by kernel_rfl)
              exact wpOp_of rfl rfl (wp_value (v := .bool false) (W' := W) (by simp [execOp, Act.eval, s17, go_sem]) ⟨rfl, hB⟩)
            · have hg : A.tmps[18]?.getD undef = .bool false := hA.on 6 18 (by kernel_rfl) (by kernel_rfl)
              have s5 : A.tmps[5]?.getD undef = .int .i64 (i : Int) := (hA.st 5 (by kernel_rfl)).trans rfl
              exact wpOp_want rfl rfl (by kernel_rfl) hg (wp_value (v := .int .i64 (i : Int)) (W' := W) (by simp [execOp, Act.eval, s5, go_sem]) ⟨rfl, hB⟩)
            · have hg : A.tmps[18]?.getD undef = .bool false := hA.on 6 18 (by kernel_rfl) (by kernel_rfl)
              have s19 : A.tmps[19]?.getD undef = .int .i64 (i : Int) := hA.on 7 19 (by kernel_rfl) (by kernel_rfl)
              exact wpOp_want rfl rfl (by kernel_rfl) hg (wp_value (v := .bool false) (W' := W) (by simp [execOp, Act.eval, s19, go_sem, hz0]) ⟨rfl, hB⟩)
            · have hg : A.tmps[18]?.getD undef = .bool false := hA.on 6 18 (by kernel_rfl) (by kernel_rfl)
              have s20 : A.tmps[20]?.getD undef = .bool false := hA.on 8 20 (by kernel_rfl) (by kernel_rfl)
              exact wpOp_want rfl rfl (by kernel_rfl) hg (wp_value (v := .bool false) (W' := W) (by simp [execOp, Act.eval, s20, go_sem]) ⟨rfl, hB⟩)
            · have hg : A.tmps[21]?.getD undef = .bool false := hA.on 9 21 (by kernel_rfl) (by kernel_rfl)
              exact wpOp_pass rfl rfl (by kernel_rfl) _ hg (by simp) ⟨rfl, hB⟩
            · have hg : A.tmps[21]?.getD undef = .bool false := hA.on 9 21 (by kernel_rfl) (by kernel_rfl)
              exact wpOp_pass rfl rfl (by kernel_rfl) _ hg (by simp) ⟨rfl, hB⟩
            · have hg : A.tmps[21]?.getD undef = .bool false := hA.on 9 21 (by kernel_rfl) (by kernel_rfl)
              exact wpOp_pass rfl rfl (by kernel_rfl) _ hg (by simp) ⟨rfl, hB⟩
            · have hg : A.tmps[21]?.getD undef = .bool false := hA.on 9 21 (by kernel_rfl) (by kernel_rfl)
              exact wpOp_pass rfl rfl (by kernel_rfl) _ hg (by simp) ⟨rfl, hB⟩
            · have hg : A.tmps[21]?.getD undef = .bool false := hA.on 9 21 (by kernel_rfl) (by kernel_rfl)
              exact wpOp_pass rfl rfl (by kernel_rfl) _ hg (by simp) ⟨rfl, hB⟩
            · have hg : A.tmps[21]?.getD undef = .bool false := hA.on 9 21 (by kernel_rfl) (by kernel_rfl)
              exact wpOp_pass rfl rfl (by kernel_rfl) _ hg (by simp) ⟨rfl, hB⟩
            · have hg : A.tmps[21]?.getD undef = .bool false := hA.on 9 21 (by kernel_rfl) (by kernel_rfl)
              exact wpOp_pass rfl rfl (by kernel_rfl) _ hg (by simp) ⟨rfl, hB⟩
            · have hg : A.tmps[21]?.getD undef = .bool false := hA.on 9 21 (by kernel_rfl) (by kernel_rfl)
              exact wpOp_pass rfl rfl (by kernel_rfl) _ hg (by simp) ⟨rfl, hB⟩
            · have hg : A.tmps[21]?.getD undef = .bool false := hA.on 9 21 (by kernel_rfl) (by kernel_rfl)
              exact wpOp_pass rfl rfl (by kernel_rfl) _ hg (by simp) ⟨rfl, hB⟩
            · have hg : A.tmps[21]?.getD undef = .bool false := hA.on 9 21 (by kernel_rfl) (by kernel_rfl)
              exact wpOp_pass rfl rfl (by kernel_rfl) _ hg (by simp) ⟨rfl, hB⟩
            · have hg : A.tmps[18]?.getD undef = .bool false := hA.on 6 18 (by kernel_rfl) (by kernel_rfl)
              have s21 : A.tmps[21]?.getD undef = .bool false := hA.on 9 21 (by kernel_rfl) (by kernel_rfl)
              exact wpOp_want rfl rfl (by kernel_rfl) hg (wp_value (v := .bool false) (W' := W) (by simp [execOp, Act.eval, s21, go_sem]) ⟨rfl, hB⟩)
            · have s18 : A.tmps[18]?.getD undef = .bool false := hA.on 6 18 (by kernel_rfl) (by kernel_rfl)
              have s32 : A.tmps[32]?.getD undef = .bool false := hA.on 20 32 (by kernel_rfl) (by kernel_rfl)
              exact wpOp_of rfl rfl (wp_value (v := .bool false) (W' := W) (by simp [execOp, Act.eval, s18, s32, go_sem]) ⟨rfl, hB⟩)
          intro wR hR
          simp only [RI.mergeL, List.getElem?_cons_zero, List.getElem?_cons_succ, Option.getD_some]
          go_wp2_with fail
          go_roundg (n - (i + 1))
          case measure => omega
          case rel => exact ⟨i + 1, by go_num, by omega, HI, HJ, hR⟩
        · obtain ⟨j, hij⟩ : ∃ j, i = j + 1 := ⟨i - 1, by omega⟩
          obtain ⟨s', hsx'⟩ : ∃ s', ss[j]? = some s' := ⟨_, List.getElem?_eq_getElem (by rw [HN.out]; omega)⟩
          have HT := Lib.hid (rises_take (by rw [← hij]; exact HX.out) hsx')
          have HC' := Lib.hid (fun (W : World) (hW : Below w.heap.size w W) => str_cell (hat.on hW) hsx')
          have hle := leq_is s s'
          have hsub : IntKind.i64.wrap ((i : Int) - 1) = (j : Int) := by rw [IntKind.wrap_i64]; omega
          have hi0 : 0 < i := by omega
          have hj0 : (0 : Int) ≤ (j : Int) := by omega
          have hjn : (j : Int) < (n : Int) := by omega
          have HJX := Lib.hid hsx'
          clear hsx' hat
          cases hq : decide (s' < s)
          · have HK := Lib.hid (show badgesOk ss m = false by
              rw [HE.out]
              have : rises ss = false := by
                rw [Bool.eq_false_iff]
                intro ha
                have h1 := rises_iff.1 ha
                have h2 : s' < s := by
                  unfold Asc at h1
                  rw [List.pairwise_iff_getElem] at h1
                  have hj1 := (List.getElem?_eq_some_iff.1 HJX.out)
                  have hj2 := (List.getElem?_eq_some_iff.1 (show ss[j + 1]? = some s by rw [← hij]; exact HX.out))
                  obtain ⟨q1, q2⟩ := hj1
                  obtain ⟨q3, q4⟩ := hj2
                  have := h1 j (j + 1) q1 q3 (by omega)
                  rw [q2, q4] at this; exact this
                rw [decide_eq_true h2] at hq; cases hq
              rw [this]; simp)
            rw [hq] at hle
            clear hq
            go_upto_region 4 with fail
            refine RI.region_det (by kernel_rfl) [.slice (some ⟨g, off, none⟩) n cap, .int .i64 (i : Int), .pointer (some ⟨g, off + i, none⟩), .string ⟨s.toArray⟩, .bool true, .bool false, .bool false, .int .i64 (i : Int), .bool true, .bool true, .slice (some ⟨g, off, none⟩) n cap, .int .i64 (i : Int), .pointer (some ⟨g, off + i, none⟩), .string ⟨s.toArray⟩, .slice (some ⟨g, off, none⟩) n cap, .int .i64 (i : Int), .int .i64 (j : Int), .pointer (some ⟨g, off + j, none⟩), .string ⟨s'.toArray⟩, .bool true, .bool true, .bool true] (fun W => Below w.heap.size w W) (none :: none :: none :: none :: none :: none :: none :: none :: none :: none :: none :: none :: some 0 :: some 1 :: some 2 :: some 3 :: some 4 :: some 5 :: some 6 :: some 7 :: some 8 :: some 9 :: some 10 :: some 11 :: some 12 :: some 13 :: some 14 :: some 15 :: some 16 :: some 17 :: some 18 :: some 19 :: some 20 :: some 21 :: none :: none :: none :: none :: []) (by kernel_rfl) (by kernel_rfl) (⟨hB.os, hB.tape, hB.output, hB.size, hB.block⟩) ?_ ?_
            · intro i hi A W hB hA
              have hi2 : i < 22 := hi
              have hcase : i = 0 ∨ i = 1 ∨ i = 2 ∨ i = 3 ∨ i = 4 ∨ i = 5 ∨ i = 6 ∨ i = 7 ∨ i = 8 ∨ i = 9 ∨ i = 10 ∨ i = 11 ∨ i = 12 ∨ i = 13 ∨ i = 14 ∨ i = 15 ∨ i = 16 ∨ i = 17 ∨ i = 18 ∨ i = 19 ∨ i = 20 ∨ i = 21 := by omega
              clear hi hi2
              rcases hcase with rfl | rfl | rfl | rfl | rfl | rfl | rfl | rfl | rfl | rfl | rfl | rfl | rfl | rfl | rfl | rfl | rfl | rfl | rfl | rfl | rfl | rfl
              · have s0 : A.tmps[0]?.getD undef = .slice (some ⟨g, off, none⟩) n cap := (hA.st 0 (by kernel_rfl)).trans rfl
                exact wpOp_of rfl rfl (wp_value (v := .slice (some ⟨g, off, none⟩) n cap) (W' := W) (by simp [execOp, Act.eval, s0, go_sem]) ⟨rfl, hB⟩)
              · have s5 : A.tmps[5]?.getD undef = .int .i64 (i : Int) := (hA.st 5 (by kernel_rfl)).trans rfl
                exact wpOp_of rfl rfl (wp_value (v := .int .i64 (i : Int)) (W' := W) (by simp [execOp, Act.eval, s5, go_sem]) ⟨rfl, hB⟩)
              · have s12 : A.tmps[12]?.getD undef = .slice (some ⟨g, off, none⟩) n cap := hA.on 0 12 (by kernel_rfl) (by kernel_rfl)
                have s13 : A.tmps[13]?.getD undef = .int .i64 (i : Int) := hA.on 1 13 (by kernel_rfl) (by kernel_rfl)
                exact wpOp_of rfl rfl (wp_value (v := .pointer (some ⟨g, off + i, none⟩)) (W' := W) (by simp [execOp, Act.eval, s12, s13, go_sem, hlt', i0']) ⟨rfl, hB⟩)
              · have s14 : A.tmps[14]?.getD undef = .pointer (some ⟨g, off + i, none⟩) := hA.on 2 14 (by kernel_rfl) (by kernel_rfl)
                have cW := HC.out W hB
                exact wpOp_of rfl rfl (wp_value (v := .string ⟨s.toArray⟩) (W' := W) (by simp [execOp, Act.eval, s14, go_sem, cW]) ⟨rfl, hB⟩)
              · have s15 : A.tmps[15]?.getD undef = .string ⟨s.toArray⟩ := hA.on 3 15 (by kernel_rfl) (by kernel_rfl)
                refine wpOp_of rfl rfl (wp_enter (f := 88) (args := #[.string ⟨s.toArray⟩]) (by simp [execOp, Act.eval, s15, go_sem]) ?_)
                refine (HNm.out W).mono ?_
                rintro e w' ⟨rfl, rfl⟩
                exact ⟨_, rfl, rfl, hB⟩
              · have s16 : A.tmps[16]?.getD undef = .bool true := hA.on 4 16 (by kernel_rfl) (by kernel_rfl)
                exact wpOp_of rfl rfl (wp_value (v := .bool false) (W' := W) (by simp [execOp, Act.eval, s16, go_sem]) ⟨rfl, hB⟩)
              · have s17 : A.tmps[17]?.getD undef = .bool false := hA.on 5 17 (by kernel_rfl) (by kernel_rfl)
                exact wpOp_of rfl rfl (wp_value (v := .bool false) (W' := W) (by simp [execOp, Act.eval, s17, go_sem]) ⟨rfl, hB⟩)
              · have hg : A.tmps[18]?.getD undef = .bool false := hA.on 6 18 (by kernel_rfl) (by kernel_rfl)
                have s5 : A.tmps[5]?.getD undef = .int .i64 (i : Int) := (hA.st 5 (by kernel_rfl)).trans rfl
                exact wpOp_want rfl rfl (by kernel_rfl) hg (wp_value (v := .int .i64 (i : Int)) (W' := W) (by simp [execOp, Act.eval, s5, go_sem]) ⟨rfl, hB⟩)
              · have hg : A.tmps[18]?.getD undef = .bool false := hA.on 6 18 (by kernel_rfl) (by kernel_rfl)
                have s19 : A.tmps[19]?.getD undef = .int .i64 (i : Int) := hA.on 7 19 (by kernel_rfl) (by kernel_rfl)
                exact wpOp_want rfl rfl (by kernel_rfl) hg (wp_value (v := .bool true) (W' := W) (by simp [execOp, Act.eval, s19, go_sem, hi0]) ⟨rfl, hB⟩)
              · have hg : A.tmps[18]?.getD undef = .bool false := hA.on 6 18 (by kernel_rfl) (by kernel_rfl)
                have s20 : A.tmps[20]?.getD undef = .bool true := hA.on 8 20 (by kernel_rfl) (by kernel_rfl)
                exact wpOp_want rfl rfl (by kernel_rfl) hg (wp_value (v := .bool true) (W' := W) (by simp [execOp, Act.eval, s20, go_sem]) ⟨rfl, hB⟩)
              · have hg : A.tmps[21]?.getD undef = .bool true := hA.on 9 21 (by kernel_rfl) (by kernel_rfl)
                have s0 : A.tmps[0]?.getD undef = .slice (some ⟨g, off, none⟩) n cap := (hA.st 0 (by kernel_rfl)).trans rfl
                exact wpOp_want rfl rfl (by kernel_rfl) hg (wp_value (v := .slice (some ⟨g, off, none⟩) n cap) (W' := W) (by simp [execOp, Act.eval, s0, go_sem]) ⟨rfl, hB⟩)
              · have hg : A.tmps[21]?.getD undef = .bool true := hA.on 9 21 (by kernel_rfl) (by kernel_rfl)
                have s5 : A.tmps[5]?.getD undef = .int .i64 (i : Int) := (hA.st 5 (by kernel_rfl)).trans rfl
                exact wpOp_want rfl rfl (by kernel_rfl) hg (wp_value (v := .int .i64 (i : Int)) (W' := W) (by simp [execOp, Act.eval, s5, go_sem]) ⟨rfl, hB⟩)
              · have hg : A.tmps[21]?.getD undef = .bool true := hA.on 9 21 (by kernel_rfl) (by kernel_rfl)
                have s22 : A.tmps[22]?.getD undef = .slice (some ⟨g, off, none⟩) n cap := hA.on 10 22 (by kernel_rfl) (by kernel_rfl)
                have s23 : A.tmps[23]?.getD undef = .int .i64 (i : Int) := hA.on 11 23 (by kernel_rfl) (by kernel_rfl)
                exact wpOp_want rfl rfl (by kernel_rfl) hg (wp_value (v := .pointer (some ⟨g, off + i, none⟩)) (W' := W) (by simp [execOp, Act.eval, s22, s23, go_sem, hlt', i0']) ⟨rfl, hB⟩)
              · have hg : A.tmps[21]?.getD undef = .bool true := hA.on 9 21 (by kernel_rfl) (by kernel_rfl)
                have s24 : A.tmps[24]?.getD undef = .pointer (some ⟨g, off + i, none⟩) := hA.on 12 24 (by kernel_rfl) (by kernel_rfl)
                have cW := HC.out W hB
                exact wpOp_want rfl rfl (by kernel_rfl) hg (wp_value (v := .string ⟨s.toArray⟩) (W' := W) (by simp [execOp, Act.eval, s24, go_sem, cW]) ⟨rfl, hB⟩)
              · have hg : A.tmps[21]?.getD undef = .bool true := hA.on 9 21 (by kernel_rfl) (by kernel_rfl)
                have s0 : A.tmps[0]?.getD undef = .slice (some ⟨g, off, none⟩) n cap := (hA.st 0 (by kernel_rfl)).trans rfl
                exact wpOp_want rfl rfl (by kernel_rfl) hg (wp_value (v := .slice (some ⟨g, off, none⟩) n cap) (W' := W) (by simp [execOp, Act.eval, s0, go_sem]) ⟨rfl, hB⟩)
              · have hg : A.tmps[21]?.getD undef = .bool true := hA.on 9 21 (by kernel_rfl) (by kernel_rfl)
                have s5 : A.tmps[5]?.getD undef = .int .i64 (i : Int) := (hA.st 5 (by kernel_rfl)).trans rfl
                exact wpOp_want rfl rfl (by kernel_rfl) hg (wp_value (v := .int .i64 (i : Int)) (W' := W) (by simp [execOp, Act.eval, s5, go_sem]) ⟨rfl, hB⟩)
              · have hg : A.tmps[21]?.getD undef = .bool true := hA.on 9 21 (by kernel_rfl) (by kernel_rfl)
                have s27 : A.tmps[27]?.getD undef = .int .i64 (i : Int) := hA.on 15 27 (by kernel_rfl) (by kernel_rfl)
                exact wpOp_want rfl rfl (by kernel_rfl) hg (wp_value (v := .int .i64 (j : Int)) (W' := W) (by simp [execOp, Act.eval, s27, go_sem, hsub]) ⟨rfl, hB⟩)
              · have hg : A.tmps[21]?.getD undef = .bool true := hA.on 9 21 (by kernel_rfl) (by kernel_rfl)
                have s26 : A.tmps[26]?.getD undef = .slice (some ⟨g, off, none⟩) n cap := hA.on 14 26 (by kernel_rfl) (by kernel_rfl)
                have s28 : A.tmps[28]?.getD undef = .int .i64 (j : Int) := hA.on 16 28 (by kernel_rfl) (by kernel_rfl)
                exact wpOp_want rfl rfl (by kernel_rfl) hg (wp_value (v := .pointer (some ⟨g, off + j, none⟩)) (W' := W) (by simp [execOp, Act.eval, s26, s28, go_sem, hjn, hj0]) ⟨rfl, hB⟩)
              · have hg : A.tmps[21]?.getD undef = .bool true := hA.on 9 21 (by kernel_rfl) (by kernel_rfl)
                have s29 : A.tmps[29]?.getD undef = .pointer (some ⟨g, off + j, none⟩) := hA.on 17 29 (by kernel_rfl) (by kernel_rfl)
                have cW := HC'.out W hB
                exact wpOp_want rfl rfl (by kernel_rfl) hg (wp_value (v := .string ⟨s'.toArray⟩) (W' := W) (by simp [execOp, Act.eval, s29, go_sem, cW]) ⟨rfl, hB⟩)
              · have hg : A.tmps[21]?.getD undef = .bool true := hA.on 9 21 (by kernel_rfl) (by kernel_rfl)
                have s25 : A.tmps[25]?.getD undef = .string ⟨s.toArray⟩ := hA.on 13 25 (by kernel_rfl) (by kernel_rfl)
                have s30 : A.tmps[30]?.getD undef = .string ⟨s'.toArray⟩ := hA.on 18 30 (by kernel_rfl) (by kernel_rfl)
                exact wpOp_want rfl rfl (by kernel_rfl) hg (wp_value (v := .bool true) (W' := W) (by simp [execOp, Act.eval, s25, s30, go_sem, hle]) ⟨rfl, hB⟩)
              · have hg : A.tmps[18]?.getD undef = .bool false := hA.on 6 18 (by kernel_rfl) (by kernel_rfl)
                have s21 : A.tmps[21]?.getD undef = .bool true := hA.on 9 21 (by kernel_rfl) (by kernel_rfl)
                have s31 : A.tmps[31]?.getD undef = .bool true := hA.on 19 31 (by kernel_rfl) (by kernel_rfl)
                exact wpOp_want rfl rfl (by kernel_rfl) hg (wp_value (v := .bool true) (W' := W) (by simp [execOp, Act.eval, s21, s31, go_sem]) ⟨rfl, hB⟩)
              · have s18 : A.tmps[18]?.getD undef = .bool false := hA.on 6 18 (by kernel_rfl) (by kernel_rfl)
                have s32 : A.tmps[32]?.getD undef = .bool true := hA.on 20 32 (by kernel_rfl) (by kernel_rfl)
                exact wpOp_of rfl rfl (wp_value (v := .bool true) (W' := W) (by simp [execOp, Act.eval, s18, s32, go_sem]) ⟨rfl, hB⟩)
            intro wR hR
            simp only [RI.mergeL, List.getElem?_cons_zero, List.getElem?_cons_succ, Option.getD_some]
            go_wp2_with fail
            go_ret
            exact ⟨by rw [HK.out]; rfl, hR⟩
          · have HJ := Lib.hid (show rises (ss.take (i + 1)) = true by rw [hij, HT.out, ← hij, J.out, hq]; rfl)
            rw [hq] at hle
            clear hq
            go_upto_region 4 with fail
            refine RI.region_det (by kernel_rfl) [.slice (some ⟨g, off, none⟩) n cap, .int .i64 (i : Int), .pointer (some ⟨g, off + i, none⟩), .string ⟨s.toArray⟩, .bool true, .bool false, .bool false, .int .i64 (i : Int), .bool true, .bool true, .slice (some ⟨g, off, none⟩) n cap, .int .i64 (i : Int), .pointer (some ⟨g, off + i, none⟩), .string ⟨s.toArray⟩, .slice (some ⟨g, off, none⟩) n cap, .int .i64 (i : Int), .int .i64 (j : Int), .pointer (some ⟨g, off + j, none⟩), .string ⟨s'.toArray⟩, .bool false, .bool false, .bool false] (fun W => Below w.heap.size w W) (none :: none :: none :: none :: none :: none :: none :: none :: none :: none :: none :: none :: some 0 :: some 1 :: some 2 :: some 3 :: some 4 :: some 5 :: some 6 :: some 7 :: some 8 :: some 9 :: some 10 :: some 11 :: some 12 :: some 13 :: some 14 :: some 15 :: some 16 :: some 17 :: some 18 :: some 19 :: some 20 :: some 21 :: none :: none :: none :: none :: []) (by kernel_rfl) (by kernel_rfl) (⟨hB.os, hB.tape, hB.output, hB.size, hB.block⟩) ?_ ?_
            · intro i hi A W hB hA
              have hi2 : i < 22 := hi
              have hcase : i = 0 ∨ i = 1 ∨ i = 2 ∨ i = 3 ∨ i = 4 ∨ i = 5 ∨ i = 6 ∨ i = 7 ∨ i = 8 ∨ i = 9 ∨ i = 10 ∨ i = 11 ∨ i = 12 ∨ i = 13 ∨ i = 14 ∨ i = 15 ∨ i = 16 ∨ i = 17 ∨ i = 18 ∨ i = 19 ∨ i = 20 ∨ i = 21 := by omega
              clear hi hi2
              rcases hcase with rfl | rfl | rfl | rfl | rfl | rfl | rfl | rfl | rfl | rfl | rfl | rfl | rfl | rfl | rfl | rfl | rfl | rfl | rfl | rfl | rfl | rfl
              · have s0 : A.tmps[0]?.getD undef = .slice (some ⟨g, off, none⟩) n cap := (hA.st 0 (by kernel_rfl)).trans rfl
                exact wpOp_of rfl rfl (wp_value (v := .slice (some ⟨g, off, none⟩) n cap) (W' := W) (by simp [execOp, Act.eval, s0, go_sem]) ⟨rfl, hB⟩)
              · have s5 : A.tmps[5]?.getD undef = .int .i64 (i : Int) := (hA.st 5 (by kernel_rfl)).trans rfl
                exact wpOp_of rfl rfl (wp_value (v := .int .i64 (i : Int)) (W' := W) (by simp [execOp, Act.eval, s5, go_sem]) ⟨rfl, hB⟩)
              · have s12 : A.tmps[12]?.getD undef = .slice (some ⟨g, off, none⟩) n cap := hA.on 0 12 (by kernel_rfl) (by kernel_rfl)
                have s13 : A.tmps[13]?.getD undef = .int .i64 (i : Int) := hA.on 1 13 (by kernel_rfl) (by kernel_rfl)
                exact wpOp_of rfl rfl (wp_value (v := .pointer (some ⟨g, off + i, none⟩)) (W' := W) (by simp [execOp, Act.eval, s12, s13, go_sem, hlt', i0']) ⟨rfl, hB⟩)
              · have s14 : A.tmps[14]?.getD undef = .pointer (some ⟨g, off + i, none⟩) := hA.on 2 14 (by kernel_rfl) (by kernel_rfl)
                have cW := HC.out W hB
                exact wpOp_of rfl rfl (wp_value (v := .string ⟨s.toArray⟩) (W' := W) (by simp [execOp, Act.eval, s14, go_sem, cW]) ⟨rfl, hB⟩)
              · have s15 : A.tmps[15]?.getD undef = .string ⟨s.toArray⟩ := hA.on 3 15 (by kernel_rfl) (by kernel_rfl)
                refine wpOp_of rfl rfl (wp_enter (f := 88) (args := #[.string ⟨s.toArray⟩]) (by simp [execOp, Act.eval, s15, go_sem]) ?_)
                refine (HNm.out W).mono ?_
                rintro e w' ⟨rfl, rfl⟩
                exact ⟨_, rfl, rfl, hB⟩
              · have s16 : A.tmps[16]?.getD undef = .bool true := hA.on 4 16 (by kernel_rfl) (by kernel_rfl)
                exact wpOp_of rfl rfl (wp_value (v := .bool false) (W' := W) (by simp [execOp, Act.eval, s16, go_sem]) ⟨rfl, hB⟩)
              · have s17 : A.tmps[17]?.getD undef = .bool false := hA.on 5 17 (by kernel_rfl) (by kernel_rfl)
                exact wpOp_of rfl rfl (wp_value (v := .bool false) (W' := W) (by simp [execOp, Act.eval, s17, go_sem]) ⟨rfl, hB⟩)
              · have hg : A.tmps[18]?.getD undef = .bool false := hA.on 6 18 (by kernel_rfl) (by kernel_rfl)
                have s5 : A.tmps[5]?.getD undef = .int .i64 (i : Int) := (hA.st 5 (by kernel_rfl)).trans rfl
                exact wpOp_want rfl rfl (by kernel_rfl) hg (wp_value (v := .int .i64 (i : Int)) (W' := W) (by simp [execOp, Act.eval, s5, go_sem]) ⟨rfl, hB⟩)
              · have hg : A.tmps[18]?.getD undef = .bool false := hA.on 6 18 (by kernel_rfl) (by kernel_rfl)
                have s19 : A.tmps[19]?.getD undef = .int .i64 (i : Int) := hA.on 7 19 (by kernel_rfl) (by kernel_rfl)
                exact wpOp_want rfl rfl (by kernel_rfl) hg (wp_value (v := .bool true) (W' := W) (by simp [execOp, Act.eval, s19, go_sem, hi0]) ⟨rfl, hB⟩)
              · have hg : A.tmps[18]?.getD undef = .bool false := hA.on 6 18 (by kernel_rfl) (by kernel_rfl)
                have s20 : A.tmps[20]?.getD undef = .bool true := hA.on 8 20 (by kernel_rfl) (by kernel_rfl)
                exact wpOp_want rfl rfl (by kernel_rfl) hg (wp_value (v := .bool true) (W' := W) (by simp [execOp, Act.eval, s20, go_sem]) ⟨rfl, hB⟩)
              · have hg : A.tmps[21]?.getD undef = .bool true := hA.on 9 21 (by kernel_rfl) (by kernel_rfl)
                have s0 : A.tmps[0]?.getD undef = .slice (some ⟨g, off, none⟩) n cap := (hA.st 0 (by kernel_rfl)).trans rfl
                exact wpOp_want rfl rfl (by kernel_rfl) hg (wp_value (v := .slice (some ⟨g, off, none⟩) n cap) (W' := W) (by simp [execOp, Act.eval, s0, go_sem]) ⟨rfl, hB⟩)
              · have hg : A.tmps[21]?.getD undef = .bool true := hA.on 9 21 (by kernel_rfl) (by kernel_rfl)
                have s5 : A.tmps[5]?.getD undef = .int .i64 (i : Int) := (hA.st 5 (by kernel_rfl)).trans rfl
                exact wpOp_want rfl rfl (by kernel_rfl) hg (wp_value (v := .int .i64 (i : Int)) (W' := W) (by simp [execOp, Act.eval, s5, go_sem]) ⟨rfl, hB⟩)
              · have hg : A.tmps[21]?.getD undef = .bool true := hA.on 9 21 (by kernel_rfl) (by kernel_rfl)
                have s22 : A.tmps[22]?.getD undef = .slice (some ⟨g, off, none⟩) n cap := hA.on 10 22 (by kernel_rfl) (by kernel_rfl)
                have s23 : A.tmps[23]?.getD undef = .int .i64 (i : Int) := hA.on 11 23 (by kernel_rfl) (by kernel_rfl)
                exact wpOp_want rfl rfl (by kernel_rfl) hg (wp_value (v := .pointer (some ⟨g, off + i, none⟩)) (W' := W) (by simp [execOp, Act.eval, s22, s23, go_sem, hlt', i0']) ⟨rfl, hB⟩)
              · have hg : A.tmps[21]?.getD undef = .bool true := hA.on 9 21 (by kernel_rfl) (by kernel_rfl)
                have s24 : A.tmps[24]?.getD undef = .pointer (some ⟨g, off + i, none⟩) := hA.on 12 24 (by kernel_rfl) (by kernel_rfl)
                have cW := HC.out W hB
                exact wpOp_want rfl rfl (by kernel_rfl) hg (wp_value (v := .string ⟨s.toArray⟩) (W' := W) (by simp [execOp, Act.eval, s24, go_sem, cW]) ⟨rfl, hB⟩)
              · have hg : A.tmps[21]?.getD undef = .bool true := hA.on 9 21 (by kernel_rfl) (by kernel_rfl)
                have s0 : A.tmps[0]?.getD undef = .slice (some ⟨g, off, none⟩) n cap := (hA.st 0 (by kernel_rfl)).trans rfl
                exact wpOp_want rfl rfl (by kernel_rfl) hg (wp_value (v := .slice (some ⟨g, off, none⟩) n cap) (W' := W) (by simp [execOp, Act.eval, s0, go_sem]) ⟨rfl, hB⟩)
              · have hg : A.tmps[21]?.getD undef = .bool true := hA.on 9 21 (by kernel_rfl) (by kernel_rfl)
                have s5 : A.tmps[5]?.getD undef = .int .i64 (i : Int) := (hA.st 5 (by kernel_rfl)).trans rfl
                exact wpOp_want rfl rfl (by kernel_rfl) hg (wp_value (v := .int .i64 (i : Int)) (W' := W) (by simp [execOp, Act.eval, s5, go_sem]) ⟨rfl, hB⟩)
              · have hg : A.tmps[21]?.getD undef = .bool true := hA.on 9 21 (by kernel_rfl) (by kernel_rfl)
                have s27 : A.tmps[27]?.getD undef = .int .i64 (i : Int) := hA.on 15 27 (by kernel_rfl) (by kernel_rfl)
                exact wpOp_want rfl rfl (by kernel_rfl) hg (wp_value (v := .int .i64 (j : Int)) (W' := W) (by simp [execOp, Act.eval, s27, go_sem, hsub]) ⟨rfl, hB⟩)
              · have hg : A.tmps[21]?.getD undef = .bool true := hA.on 9 21 (by kernel_rfl) (by kernel_rfl)
                have s26 : A.tmps[26]?.getD undef = .slice (some ⟨g, off, none⟩) n cap := hA.on 14 26 (by kernel_rfl) (by kernel_rfl)
                have s28 : A.tmps[28]?.getD undef = .int .i64 (j : Int) := hA.on 16 28 (by kernel_rfl) (by kernel_rfl)
                exact wpOp_want rfl rfl (by kernel_rfl) hg (wp_value (v := .pointer (some ⟨g, off + j, none⟩)) (W' := W) (by simp [execOp, Act.eval, s26, s28, go_sem, hjn, hj0]) ⟨rfl, hB⟩)
              · have hg : A.tmps[21]?.getD undef = .bool true := hA.on 9 21 (by kernel_rfl) (by kernel_rfl)
                have s29 : A.tmps[29]?.getD undef = .pointer (some ⟨g, off + j, none⟩) := hA.on 17 29 (by kernel_rfl) (by kernel_rfl)
                have cW := HC'.out W hB
                exact wpOp_want rfl rfl (by kernel_rfl) hg (wp_value (v := .string ⟨s'.toArray⟩) (W' := W) (by simp [execOp, Act.eval, s29, go_sem, cW]) ⟨rfl, hB⟩)
              · have hg : A.tmps[21]?.getD undef = .bool true := hA.on 9 21 (by kernel_rfl) (by kernel_rfl)
                have s25 : A.tmps[25]?.getD undef = .string ⟨s.toArray⟩ := hA.on 13 25 (by kernel_rfl) (by kernel_rfl)
                have s30 : A.tmps[30]?.getD undef = .string ⟨s'.toArray⟩ := hA.on 18 30 (by kernel_rfl) (by kernel_rfl)
                exact wpOp_want rfl rfl (by kernel_rfl) hg (wp_value (v := .bool false) (W' := W) (by simp [execOp, Act.eval, s25, s30, go_sem, hle]) ⟨rfl, hB⟩)
              · have hg : A.tmps[18]?.getD undef = .bool false := hA.on 6 18 (by kernel_rfl) (by kernel_rfl)
                have s21 : A.tmps[21]?.getD undef = .bool true := hA.on 9 21 (by kernel_rfl) (by kernel_rfl)
                have s31 : A.tmps[31]?.getD undef = .bool false := hA.on 19 31 (by kernel_rfl) (by kernel_rfl)
                exact wpOp_want rfl rfl (by kernel_rfl) hg (wp_value (v := .bool false) (W' := W) (by simp [execOp, Act.eval, s21, s31, go_sem]) ⟨rfl, hB⟩)
              · have s18 : A.tmps[18]?.getD undef = .bool false := hA.on 6 18 (by kernel_rfl) (by kernel_rfl)
                have s32 : A.tmps[32]?.getD undef = .bool false := hA.on 20 32 (by kernel_rfl) (by kernel_rfl)
                exact wpOp_of rfl rfl (wp_value (v := .bool false) (W' := W) (by simp [execOp, Act.eval, s18, s32, go_sem]) ⟨rfl, hB⟩)
            intro wR hR
            simp only [RI.mergeL, List.getElem?_cons_zero, List.getElem?_cons_succ, Option.getD_some]
            go_wp2_with fail
            go_roundg (n - (i + 1))
            case measure => omega
            case rel => exact ⟨i + 1, by go_num, by omega, HI, HJ, hR⟩
    · have hlt' : ¬ (i : Int) < (n : Int) := by omega
      have HK := Lib.hid (show badgesOk ss m = decide (n ≤ m) by
        rw [HE.out]
        have h1 : ss.all (fun s => isName s 8) = true := by
          rw [List.all_eq_true]
          intro x hx
          obtain ⟨j, hj, e⟩ := List.getElem_of_mem hx
          exact I.out j x (by rw [HN.out] at hj; omega) (by rw [List.getElem?_eq_getElem hj, e])
        have h2 : rises ss = true := by
          have := J.out
          rwa [List.take_of_length_le (by rw [HN.out]; omega)] at this
        rw [h1, h2]; rfl)
      by_cases hle : n ≤ m
      · have hle' : (n : Int) ≤ (m : Int) := by omega
        have HK2 := Lib.hid (show badgesOk ss m = true by rw [HK.out, decide_eq_true hle])
        go_wp2_with fail
        go_ret
        exact ⟨by rw [HK2.out]; rfl, hB⟩
      · have hle' : ¬ (n : Int) ≤ (m : Int) := by omega
        have HK2 := Lib.hid (show badgesOk ss m = false by rw [HK.out, decide_eq_false hle])
        go_wp2_with fail
        go_ret
        exact ⟨by rw [HK2.out]; rfl, hB⟩

theorem three_ways (a b : Bool) : (a = false ∧ b = false) ∨ (a = false ∧ b = true) ∨ a = true := by
  cases a <;> cases b <;> simp

set_option maxRecDepth 20000 in
set_option maxHeartbeats 2000000 in
theorem Part10_spec (x : Pv) (w : World) (h : Held w x) (hf : Fits x) :
    Calls Tryz.prog 62 #[ptV x] w (Ans (.bool (partOk x.p)) w) := by
  obtain ⟨⟨tag, id, bs, near⟩, u⟩ := x
  obtain ⟨f1, f2, f3, f4⟩ := hf
  dsimp only at f1 f2 f3 f4
  have HE := Lib.hid (show partOk ⟨tag, id, bs, near⟩ = ((tag.isEmpty || isName tag 8) && (id.isEmpty || isName id 8) && badgesOk bs 3 && (!tag.isEmpty || !id.isEmpty || !bs.isEmpty)) from rfl)
  obtain ⟨a, cap, eu, hc1, hc2⟩ := held_form h
  dsimp only at eu hc1
  subst eu
  have hB0 : Below w.heap.size w (w.alloc (.cells #[.string ⟨tag.toArray⟩, .string ⟨id.toArray⟩, .slice a bs.length cap, .bool near] 47)) := (Below.refl _ _).alloc (Nat.le_refl _) _
  have H1 := Lib.hid (fun w' => Name10_spec tag w' f1)
  have H2 := Lib.hid (fun w' => Name10_spec id w' f2)
  have HQ := Lib.hid (Badges_spec 3 (by decide) bs _ _ (StrSlc.on (show StrSlc w _ bs from h) hB0) f4 (by omega))
  have ht1 : (tag == []) = tag.isEmpty := by cases tag <;> rfl
  have ht2 : (tag != []) = !tag.isEmpty := by cases tag <;> rfl
  have hi1 : (id == []) = id.isEmpty := by cases id <;> rfl
  have hi2 : (id != []) = !id.isEmpty := by cases id <;> rfl
  have hbe : bs.isEmpty = decide (bs.length = 0) := by cases bs <;> simp
  rw [hbe] at HE
  have hl0 := LBlk.new w [.string ⟨tag.toArray⟩, .string ⟨id.toArray⟩, .slice a bs.length cap, .bool near] 47
  have c0 := (hl0.2 0 _ rfl).1
  have c1 := (hl0.2 1 _ rfl).1
  have c2 := (hl0.2 2 _ rfl).1
  rw [ptV_is]
  dsimp only
  generalize bs.length = nb at *
  generalize tag.isEmpty = bt at *
  generalize id.isEmpty = bi at *
  generalize isName tag 8 = n1 at *
  generalize isName id 8 = n2 at *
  generalize badgesOk bs 3 = qb at *
  clear h hc1 hc2 hbe f1 f2 f4 hl0 c0 c1 c2
  have HL := Lib.hid (fun (w' : World) (hb : Below (w.alloc (.cells #[.string ⟨tag.toArray⟩, .string ⟨id.toArray⟩, .slice a nb cap, .bool near] 47)).heap.size (w.alloc (.cells #[.string ⟨tag.toArray⟩, .string ⟨id.toArray⟩, .slice a nb cap, .bool near] 47)) w') => (pt_blk (x := ⟨⟨tag, id, bs, near⟩, .slice a nb cap⟩) ((LBlk.new w [.string ⟨tag.toArray⟩, .string ⟨id.toArray⟩, .slice a nb cap, .bool near] 47).below hb)))
  dsimp only at HL
  rcases three_ways bt n1 with ⟨rfl, rfl⟩ | ⟨rfl, rfl⟩ | rfl
  · have HK := Lib.hid (show partOk ⟨tag, id, bs, near⟩ = false by rw [HE.out]; rfl)
    go_enter Tryz.func62, Tryz.ntmps62
    go_wp2_with (go_at_call 88; refine (H1.out _).mono ?_; rintro e w1 ⟨rfl, rfl⟩)
    go_ret
    exact ⟨by rw [HK.out]; rfl, hB0⟩
  · rcases three_ways bi n2 with ⟨rfl, rfl⟩ | ⟨rfl, rfl⟩ | rfl
    · have HK := Lib.hid (show partOk ⟨tag, id, bs, near⟩ = false by rw [HE.out]; rfl)
      go_enter Tryz.func62, Tryz.ntmps62
      go_wp2_with (first | (go_at_call 88; have hz := H1; refine (H1.out _).mono ?_; rintro e w1 ⟨rfl, rfl⟩; clear H1) | (go_at_call 88; refine (H2.out _).mono ?_; rintro e w1 ⟨rfl, rfl⟩))
      go_ret
      exact ⟨by rw [HK.out]; rfl, hB0⟩
    all_goals
      have HK := Lib.hid (show partOk ⟨tag, id, bs, near⟩ = qb by rw [HE.out]; simp)
      cases qb
      all_goals
        go_enter Tryz.func62, Tryz.ntmps62
        go_wp2_with (first | (go_at_call 88; have hz := H1; refine (H1.out _).mono ?_; rintro e w1 ⟨rfl, rfl⟩; clear H1) | (go_at_call 88; refine (H2.out _).mono ?_; rintro e w1 ⟨rfl, rfl⟩) | (go_at_call 89; refine HQ.out.mono ?_; rintro e w3 ⟨rfl, g3⟩; obtain ⟨d0, d1, d2, d3⟩ := HL.out _ g3))
        go_ret
        exact ⟨by rw [HK.out]; rfl, hB0.trans (g3.mono hB0.size)⟩
  · rcases three_ways bi n2 with ⟨rfl, rfl⟩ | ⟨rfl, rfl⟩ | rfl
    · have HK := Lib.hid (show partOk ⟨tag, id, bs, near⟩ = false by rw [HE.out]; rfl)
      go_enter Tryz.func62, Tryz.ntmps62
      go_wp2_with (go_at_call 88; refine (H2.out _).mono ?_; rintro e w1 ⟨rfl, rfl⟩)
      go_ret
      exact ⟨by rw [HK.out]; rfl, hB0⟩
    · have HK := Lib.hid (show partOk ⟨tag, id, bs, near⟩ = qb by rw [HE.out]; simp)
      cases qb
      all_goals
        go_enter Tryz.func62, Tryz.ntmps62
        go_wp2_with (first | (go_at_call 88; refine (H2.out _).mono ?_; rintro e w1 ⟨rfl, rfl⟩) | (go_at_call 89; refine HQ.out.mono ?_; rintro e w3 ⟨rfl, g3⟩; obtain ⟨d0, d1, d2, d3⟩ := HL.out _ g3))
        go_ret
        exact ⟨by rw [HK.out]; rfl, hB0.trans (g3.mono hB0.size)⟩
    · have HK := Lib.hid (show partOk ⟨tag, id, bs, near⟩ = (qb && !decide (nb = 0)) by rw [HE.out]; simp)
      cases qb
      · have HK2 := Lib.hid (show partOk ⟨tag, id, bs, near⟩ = false by rw [HK.out]; rfl)
        go_enter Tryz.func62, Tryz.ntmps62
        go_wp2_with (go_at_call 89; refine HQ.out.mono ?_; rintro e w3 ⟨rfl, g3⟩; obtain ⟨d0, d1, d2, d3⟩ := HL.out _ g3)
        go_ret
        exact ⟨by rw [HK2.out]; rfl, hB0.trans (g3.mono hB0.size)⟩
      · by_cases hz : nb = 0
        · have hz' : ¬ 0 < nb := by omega
          have HK2 := Lib.hid (show partOk ⟨tag, id, bs, near⟩ = false by rw [HK.out, decide_eq_true hz]; rfl)
          clear hz
          go_enter Tryz.func62, Tryz.ntmps62
          go_wp2_with (go_at_call 89; refine HQ.out.mono ?_; rintro e w3 ⟨rfl, g3⟩; obtain ⟨d0, d1, d2, d3⟩ := HL.out _ g3)
          go_ret
          exact ⟨by rw [HK2.out]; rfl, hB0.trans (g3.mono hB0.size)⟩
        · have hz' : 0 < nb := by omega
          have HK2 := Lib.hid (show partOk ⟨tag, id, bs, near⟩ = true by rw [HK.out, decide_eq_false hz]; rfl)
          clear hz
          go_enter Tryz.func62, Tryz.ntmps62
          go_wp2_with (go_at_call 89; refine HQ.out.mono ?_; rintro e w3 ⟨rfl, g3⟩; obtain ⟨d0, d1, d2, d3⟩ := HL.out _ g3)
          go_ret
          exact ⟨by rw [HK2.out]; rfl, hB0.trans (g3.mono hB0.size)⟩

end Go.Proofs.YtgaggpnlimchkaaGreatDoor.B10

namespace Go.Proofs.YtgaggpnlimchkaaGreatDoor.B10
open Go.Proofs.YtgaggpnlimchkaaGreatDoor.P1 Go.Proofs.YtgaggpnlimchkaaGreatDoor.B1 Go.Proofs.YtgaggpnlimchkaaGreatDoor.B2 Go.Proofs.YtgaggpnlimchkaaGreatDoor.T1 Go.Proofs.YtgaggpnlimchkaaGreatDoor.BT Go.Proofs.YtgaggpnlimchkaaGreatDoor.P5 Go.Proofs.YtgaggpnlimchkaaGreatDoor.B5 Go.Proofs.YtgaggpnlimchkaaGreatDoor.P6 Go.Proofs.YtgaggpnlimchkaaGreatDoor.B6 Go.Proofs.YtgaggpnlimchkaaGreatDoor.D1 Go.Proofs.YtgaggpnlimchkaaGreatDoor.W8 Go.Proofs.YtgaggpnlimchkaaGreatDoor.RC Go.Proofs.YtgaggpnlimchkaaGreatDoor.RI Go.Proofs.YtgaggpnlimchkaaGreatDoor.P10
open Go.ChangeShapes Go.WideShapes Go.ChangeAt Go.RowKit
set_option linter.unusedVariables false

theorem pick_is (ps : List Pt) : pickOk ps = (ps.all partOk && (P1.within (ps.length : Int) 1 4 && !headNear ps)) := by
  unfold pickOk
  have e : P1.within (ps.length : Int) 1 4 = (decide (1 ≤ ps.length) && decide (ps.length ≤ 4)) := by
    unfold P1.within
    congr 1
    · rw [decide_eq_decide]; omega
    · rw [decide_eq_decide]; omega
  rw [e]
  cases ps.all partOk <;> cases decide (1 ≤ ps.length) <;> cases decide (ps.length ≤ 4) <;> cases headNear ps <;> rfl

set_option maxRecDepth 20000 in
set_option maxHeartbeats 2000000 in
theorem PickOk_spec (xs : List Pv) (v : Value) (w : World) (h : PtSlc w v xs) (hf : ∀ x ∈ xs, Fits x) (hs : xs.length ≤ 2000000) :
    Calls Tryz.prog 24 #[v] w (Ans (.bool (pickOk (pts xs))) w) := by
  have HE := Lib.hid (pick_is (pts xs))
  have hpl : (pts xs).length = xs.length := by simp [pts]
  rw [hpl] at HE
  obtain ⟨a, cap, rfl, hnc, hcap, HA0⟩ := h.form
  have HH := Lib.hid h.2
  obtain ⟨n, hn⟩ : ∃ n, xs.length = n := ⟨_, rfl⟩
  rw [hn] at hnc hs HE ⊢
  have HW := Lib.hid (fun w' => in_spec (n : Int) 1 4 w')
  have HF := Lib.hid hf
  have HN := Lib.hid hn
  have HA := Lib.hid HA0
  have hnc' : (n : Int) ≤ (cap : Int) := by omega
  have hs' : (n : Int) ≤ 2000000 := by omega
  clear h hn HA0 hcap hf hpl
  go_enter Tryz.func24, Tryz.ntmps24
  go_wp2_with fail
  go_loopg [3] n (fun kx s3 wr => ∃ i : Nat, s3 = .int .i64 (i : Int) ∧ kx + i = n ∧ Hid (∀ j x, j < i → xs[j]? = some x → partOk x.p = true) ∧ Below w.heap.size w wr)
  case atStart => exact ⟨0, rfl, by omega, Lib.hid fun j x hj => absurd hj (Nat.not_lt_zero _), Below.refl _ _⟩
  case round =>
    obtain ⟨i, rfl, hk, I, hB⟩ := hrel
    by_cases hlt : i < n
    · have hlt' : (i : Int) < (n : Int) := by omega
      have i0' : (0 : Int) ≤ (i : Int) := by omega
      obtain ⟨x, hx⟩ : ∃ x, xs[i]? = some x := ⟨_, List.getElem?_eq_getElem (by rw [HN.out]; exact hlt)⟩
      obtain ⟨g, off, rfl, hat⟩ := HA.out (by intro e0; rw [e0] at hx; cases hx)
      have hm := List.mem_of_getElem? hx
      have HLD := Lib.hid (pt_load (hat.on hB) hx)
      have HT := Lib.hid (Part10_spec x wr ((HH.out x hm).on hB) (HF.out x hm))
      have HX := Lib.hid hx
      clear hat hx hm
      cases hok : partOk x.p
      · have HK := Lib.hid (show pickOk (pts xs) = false by
          rw [HE.out]
          have : (pts xs).all partOk = false := by
            rw [Bool.eq_false_iff]
            intro ha
            have := List.all_eq_true.1 ha x.p (List.mem_map.2 ⟨x, List.mem_of_getElem? HX.out, rfl⟩)
            rw [hok] at this; cases this
          rw [this]; rfl)
        rw [hok] at HT
        clear hok
        go_wp2_with (first | (go_at_call 62; refine HT.out.mono ?_; rintro e w3 ⟨rfl, g3⟩) | ((with_reducible refine wp_load_at HLD.out ?_ ?_); exact And.intro rfl (And.intro rfl rfl)))
        go_ret
        exact ⟨by rw [HK.out]; rfl, hB.trans (g3.mono hB.size)⟩
      · have HI := Lib.hid (show ∀ j y, j < i + 1 → xs[j]? = some y → partOk y.p = true from fun j y hj hy => by
          rcases Nat.lt_or_eq_of_le (Nat.le_of_lt_succ hj) with h | h
          · exact I.out j y h hy
          · rw [h, HX.out] at hy; cases hy; exact hok)
        rw [hok] at HT
        clear hok
        go_wp2_with (first | (go_at_call 62; refine HT.out.mono ?_; rintro e w3 ⟨rfl, g3⟩) | ((with_reducible refine wp_load_at HLD.out ?_ ?_); exact And.intro rfl (And.intro rfl rfl)))
        go_roundg (n - (i + 1))
        case measure => omega
        case rel => exact ⟨i + 1, by go_num, by omega, HI, hB.trans (g3.mono hB.size)⟩
    · have hlt' : ¬ (i : Int) < (n : Int) := by omega
      have HK := Lib.hid (show pickOk (pts xs) = (P1.within (n : Int) 1 4 && !headNear (pts xs)) by
        rw [HE.out]
        have : (pts xs).all partOk = true := by
          rw [List.all_eq_true]
          intro p hp
          obtain ⟨x, hx, rfl⟩ := List.mem_map.1 hp
          obtain ⟨j, hj, e⟩ := List.getElem_of_mem hx
          exact I.out j x (by rw [HN.out] at hj; omega) (by rw [List.getElem?_eq_getElem hj, e])
        rw [this]; rfl)
      generalize hq : P1.within (n : Int) 1 4 = q at HK HW
      cases q
      · have HK2 := Lib.hid (show pickOk (pts xs) = false by rw [HK.out]; rfl)
        go_wp2_with (go_at_call 55; refine (HW.out _).mono ?_; rintro e w2 ⟨rfl, rfl⟩)
        go_ret
        exact ⟨by rw [HK2.out]; rfl, hB⟩
      · have hr := within_true hq
        obtain ⟨x, hx⟩ : ∃ x, xs[0]? = some x := ⟨_, List.getElem?_eq_getElem (by rw [HN.out]; omega)⟩
        obtain ⟨g, off, rfl, hat⟩ := HA.out (by intro e0; rw [e0] at hx; cases hx)
        obtain ⟨_, _, _, c3⟩ := pt_cells (hat.on hB) hx
        simp only [Nat.zero_mul, Nat.add_zero] at c3
        have hh : headNear (pts xs) = x.p.near := by
          cases xs with
          | nil => cases hx
          | cons y r => injection hx with hx; rw [← hx]; rfl
        rw [hh] at HK
        generalize x.p.near = nr at HK c3
        have hn0 : (0 : Int) < (n : Int) := by omega
        clear hq hr hat hx hh
        cases nr
        · have HK2 := Lib.hid (show pickOk (pts xs) = true by rw [HK.out]; rfl)
          go_wp2_with (go_at_call 55; refine (HW.out _).mono ?_; rintro e w2 ⟨rfl, rfl⟩)
          go_ret
          exact ⟨by rw [HK2.out]; rfl, hB⟩
        · have HK2 := Lib.hid (show pickOk (pts xs) = false by rw [HK.out]; rfl)
          go_wp2_with (go_at_call 55; refine (HW.out _).mono ?_; rintro e w2 ⟨rfl, rfl⟩)
          go_ret
          exact ⟨by rw [HK2.out]; rfl, hB⟩

theorem told_one (s : List UInt8) : (told [s]).length = if s = [] then 0 else 1 := by
  unfold told
  by_cases h : s = []
  · subst h; rfl
  · rw [if_neg h, List.filter_cons, if_pos (by simpa using h)]
    rfl

theorem weight_le {p : Pt} (h : p.bs.length ≤ 3) : 0 ≤ partWeight p ∧ partWeight p ≤ 10301 := by
  unfold partWeight
  have h1 := told_len1 p.id
  have h2 := told_len1 p.tag
  omega
where told_len1 (s : List UInt8) : (told [s]).length ≤ 1 := List.length_filter_le _ _

theorem weights_le : ∀ {ps : List Pt} {n : Nat}, ps.length ≤ n → (∀ p ∈ ps, p.bs.length ≤ 3) → 0 ≤ (ps.map partWeight).sum ∧ (ps.map partWeight).sum ≤ 10301 * (n : Int)
  | [], n, _, _ => by simp; omega
  | p :: r, 0, h, _ => by simp at h
  | p :: r, n + 1, h, hb => by
    obtain ⟨h1, h2⟩ := weight_le (hb p (by simp))
    obtain ⟨h3, h4⟩ := weights_le (ps := r) (n := n) (by simp at h; omega) (fun q hq => hb q (by simp [hq]))
    rw [List.map_cons, List.sum_cons]
    omega

theorem weight_take {ps : List Pt} {i : Nat} {p : Pt} (h : ps[i]? = some p) : ((ps.take (i + 1)).map partWeight).sum = ((ps.take i).map partWeight).sum + partWeight p := by
  rw [List.take_add_one, h, List.map_append, List.sum_append]
  simp

theorem ok_bs {ps : List Pt} (h : pickOk ps = true) : ps.length ≤ 4 ∧ 1 ≤ ps.length ∧ (∀ p ∈ ps, partOk p = true) ∧ ∀ p ∈ ps, p.bs.length ≤ 3 := by
  unfold pickOk at h
  simp only [Bool.and_eq_true, decide_eq_true_eq] at h
  obtain ⟨⟨⟨h1, h2⟩, h3⟩, _⟩ := h
  refine ⟨h3, h2, List.all_eq_true.1 h1, fun p hp => ?_⟩
  have := List.all_eq_true.1 h1 p hp
  unfold partOk badgesOk at this
  simp only [Bool.and_eq_true, decide_eq_true_eq] at this
  exact this.1.2.2

end Go.Proofs.YtgaggpnlimchkaaGreatDoor.B10
