/- Chapter 11: the program's upFrom: its closure, for whatever body that keeps the tree and its box; slices.Collect over it; Path. -/
import Derived.Test.YtgaggpnlimchkaaGreatDoorImp11
import Derived.RangeFuncBox
import Derived.RangeFuncLeaves
import Derived.Shelf.Abstract
import Derived.Maps.AppendAt
import Derived.Sort.OwnSorted
import Derived.WalkKit
import Derived.OwnWalkIn
import Derived.TacticsInMore
import Derived.LoopNIn
import Derived.LoopIn
import Derived.Test.YtgaggpnlimchkaaGreatDoorSpec11
namespace Go.Proofs.YtgaggpnlimchkaaGreatDoor.B11
open Go.Proofs.YtgaggpnlimchkaaGreatDoor.P1 Go.Proofs.YtgaggpnlimchkaaGreatDoor.B1 Go.Proofs.YtgaggpnlimchkaaGreatDoor.B2 Go.Proofs.YtgaggpnlimchkaaGreatDoor.T1 Go.Proofs.YtgaggpnlimchkaaGreatDoor.BT Go.Proofs.YtgaggpnlimchkaaGreatDoor.P5 Go.Proofs.YtgaggpnlimchkaaGreatDoor.B5 Go.Proofs.YtgaggpnlimchkaaGreatDoor.P6 Go.Proofs.YtgaggpnlimchkaaGreatDoor.P9 Go.Proofs.YtgaggpnlimchkaaGreatDoor.B6 Go.Proofs.YtgaggpnlimchkaaGreatDoor.B9 Go.Proofs.YtgaggpnlimchkaaGreatDoor.D1 Go.Proofs.YtgaggpnlimchkaaGreatDoor.W8 Go.Proofs.YtgaggpnlimchkaaGreatDoor.RC Go.Proofs.YtgaggpnlimchkaaGreatDoor.P10 Go.Proofs.YtgaggpnlimchkaaGreatDoor.B10 Go.Proofs.YtgaggpnlimchkaaGreatDoor.P11
open Go.ChangeShapes Go.WideShapes Go.ChangeAt Go.RowKit Go.Shelf Go.Sort
set_option linter.unusedVariables false

attribute [local go_sem] Oper.semAt_some

/-- What a round keeps for upFrom: its box and the tree's block. -/
def Kept2 (Bs Bn : Nat) (A B : World) : Prop := B.heap[Bs]? = A.heap[Bs]? ∧ B.heap[Bn]? = A.heap[Bn]?

theorem Kept2.refl (Bs Bn : Nat) (A : World) : Kept2 Bs Bn A A := ⟨rfl, rfl⟩

theorem Kept2.trans {Bs Bn : Nat} {A B C : World} (h : Kept2 Bs Bn A B) (k : Kept2 Bs Bn B C) : Kept2 Bs Bn A C := ⟨k.1.trans h.1, k.2.trans h.2⟩

theorem Kept2.put {Bs Bn : Nat} {w : World} (h1 : Bs < w.heap.size) (h2 : Bn < w.heap.size) (W : World) (l : Nat) (o o' : Obj) (hl : w.heap.size ≤ l) (h : W.heap[l]? = some o) (_ : o.isCells = false) (_ : o.isWalk = false) : Kept2 Bs Bn W (W.putObj l o') :=
  ⟨World.putObj_heap_other (by omega), World.putObj_heap_other (by omega)⟩

theorem Kept2.below {Bs Bn : Nat} {A B : World} {m : Nat} (h : Below m A B) (h1 : Bs < m) (h2 : Bn < m) : Kept2 Bs Bn A B := ⟨h.block Bs h1, h.block Bn h2⟩

theorem Kept2.cell1 {Bs Bn : Nat} {A B : World} (h : Kept2 Bs Bn A B) {v : Value} (hc : A.cell? ⟨Bs, 0, none⟩ = some v) : B.cell? ⟨Bs, 0, none⟩ = some v := (World.cell?_of_block (a := ⟨Bs, 0, none⟩) h.1).trans hc

theorem Kept2.cell2 {Bs Bn : Nat} {A B : World} (h : Kept2 Bs Bn A B) {o : Nat} {v : Value} (hc : A.cell? ⟨Bn, o, none⟩ = some v) : B.cell? ⟨Bn, o, none⟩ = some v := (World.cell?_of_block (a := ⟨Bn, o, none⟩) h.2).trans hc

theorem take_pre (l : List Int) (a : Int) (r : List Int) : l ++ [a] = (l ++ a :: r).take (l.length + 1) := by
  rw [show l ++ a :: r = (l ++ [a]) ++ r by simp, List.take_left' (by simp)]

/-- A number of the way up from i. -/
abbrev Up (i : Int) := { x : Int // 0 ≤ x ∧ x ≤ i }

theorem aboveAt_is {xs : List Fv} {k : Nat} {x : Fv} (h : xs[k]? = some x) : aboveAt (fis xs) (k : Int) = x.f.above := by
  unfold aboveAt
  rw [Int.toNat_natCast, fis_at h]

set_option maxRecDepth 100000 in
set_option maxHeartbeats 2000000 in
theorem up1_in (F : Fence) (n : Nat) (h7 : F.fn 87) (hro : F.round = none) (hn : 1 ≤ n) (l Bi Bt g off len cap : Nat) (xs : List Fv) (hl : xs.length = len) (h16 : len ≤ 16) (hlc : len ≤ cap) (hT : treeOk (fis xs) = true) (i : Int) (hi0 : -1 ≤ i) (hi1 : i < (len : Int)) (J Jx : List (Up i) → World → Prop)
    (hY : ∀ pre (x : Up i) W, J pre W → pre.length < len → YieldAt F (n - 1) Tryz.prog l #[.int .i64 x.1] W fun e W' =>
      (e = .returned (.bool true) ∧ J (pre ++ [x]) W' ∧ Kept2 Bt g W W') ∨ (e = .returned (.bool false) ∧ Jx (pre ++ [x]) W'))
    (W : World) (hBi : W.cell? ⟨Bi, 0, none⟩ = some (.int .i64 i)) (hBt : W.cell? ⟨Bt, 0, none⟩ = some (.slice (some ⟨g, off, none⟩) len cap)) (hat : RC.At 5 W g off (fiRs xs)) (h0 : J [] W) :
    CallsIn F n Tryz.prog 87 #[.func (.yield l) #[] #[], .pointer (some ⟨Bi, 0, none⟩), .pointer (some ⟨Bt, 0, none⟩)] W fun e W' => (∃ v, e = .returned v) ∧
      ((∃ ys : List (Up i), ys.map (·.1) = wayUp (fis xs) i ∧ J ys W') ∨ (∃ pre : List (Up i), (∃ k, pre.map (·.1) = (wayUp (fis xs) i).take k) ∧ Jx pre W')) := by
  have HAT := Lib.hid hat
  have HTR := Lib.hid hT
  have HL := Lib.hid hl
  have HBT := Lib.hid hBt
  clear hat hT hl hBt
  refine callsIn_of_wp Tryz.func87 rfl h7 ?_ hro
  simp only [Tryz.ntmps87, List.size_toArray, List.length_cons, List.length_nil, Nat.reduceAdd, Nat.reduceSub, Array.replicate_succ, Array.replicate_zero, List.push_toArray, List.append_toArray, List.nil_append, List.cons_append]
  gi_wp2
  gi_loopw [4] (fun s4 wr => ∃ (a : Int) (pre : List (Up i)), s4 = .int .i64 a ∧ -1 ≤ a ∧ a ≤ i ∧ Hid (pre.map (·.1) ++ wayUp (fis xs) a = wayUp (fis xs) i) ∧ J pre wr ∧ Hid (Kept2 Bt g W wr))
    (fun s4 _ => (intOf s4 + 1).toNat)
  case atStart => exact ⟨i, [], rfl, hi0, Int.le_refl _, Lib.hid rfl, h0, Lib.hid (Kept2.refl _ _ _)⟩
  case round =>
    obtain ⟨a, pre, rfl, ha0, ha1, HP, hJ, hK⟩ := hrel
    by_cases hneg : a = -1
    · subst hneg
      have HD := Lib.hid (show pre.map (·.1) = wayUp (fis xs) i by
        have := HP.out
        rwa [wayUp_neg (by decide), List.append_nil] at this)
      gi_wp2
      go_end0
      exact ⟨⟨_, rfl⟩, .inl ⟨_, HD.out, hJ⟩⟩
    · obtain ⟨k, rfl⟩ : ∃ k : Nat, a = (k : Int) := ⟨a.toNat, by omega⟩
      have hne : ((k : Int) != -1) = true := by simp
      have hk0 : (0 : Int) ≤ (k : Int) := by omega
      have hk1 : (k : Int) < (len : Int) := by omega
      have hlc' : (len : Int) ≤ (cap : Int) := by omega
      obtain ⟨x, hx⟩ : ∃ x, xs[k]? = some x := ⟨_, List.getElem?_eq_getElem (by rw [HL.out]; omega)⟩
      have hw := wayUp_cons HTR.out (i := (k : Int)) hk0 (by rw [fis_len, HL.out]; exact hk1)
      have hab := above_lt HTR.out (i := (k : Int)) hk0 (by rw [fis_len, HL.out]; exact hk1)
      rw [aboveAt_is hx] at hw hab
      have HP2 := Lib.hid (show pre.map (·.1) ++ (k : Int) :: wayUp (fis xs) x.f.above = wayUp (fis xs) i by rw [← HP.out, hw])
      have hpl : pre.length < len := by
        have h1 := congrArg List.length HP2.out
        have h2 := wayUp_len (t := fis xs) i
        rw [fis_len, HL.out] at h2
        rw [List.length_append, List.length_map, List.length_cons] at h1
        omega
      obtain ⟨fn, tmps, assign, body, hy, hR⟩ := hY pre ⟨(k : Int), hk0, ha1⟩ wr hJ hpl
      have HC := Lib.hid (fun (W3 : World) (h : Kept2 Bt g W W3) => h.cell2 (fi_cells HAT.out hx).1)
      have HCT := Lib.hid (fun (W3 : World) (h : Kept2 Bt g W W3) => h.cell1 HBT.out)
      generalize x.f.above = ab at *
      have hab0 := hab.1
      have hab1 := hab.2.1
      clear hab hw hx hneg HP
      gi_wp2
      refine hR.mono ?_
      rintro e W3 (⟨rfl, hJ3, hk3⟩ | ⟨rfl, hJx3⟩)
      · have c1 := HC.out W3 (hK.out.trans hk3)
        have c2 := HCT.out W3 (hK.out.trans hk3)
        have HK3 := Lib.hid (hK.out.trans hk3)
        gi_wp2
        go_roundw
        case rel => exact ⟨ab, pre ++ [⟨(k : Int), hk0, ha1⟩], rfl, hab0, by omega, Lib.hid (by rw [List.map_append, List.append_assoc]; exact HP2.out), hJ3, HK3⟩
        case measure => simp [intOf]; omega
      · gi_wp2
        refine bodyPost_ret (results_none rfl _ _ _) rfl ?_
        refine ⟨⟨_, rfl⟩, .inr ⟨_, ⟨pre.length + 1, ?_⟩, hJx3⟩⟩
        rw [← HP2.out, List.map_append]
        have := take_pre (pre.map (·.1)) (k : Int) (wayUp (fis xs) ab)
        rw [List.length_map] at this
        exact this

set_option maxHeartbeats 1000000 in
theorem upFrom_in (F : Fence) (n : Nat) (h5 : F.fn 51) (hro : F.round = none) (a : Option Addr) (len cap : Nat) (i : Int) (w : World) :
    CallsIn F n Tryz.prog 51 #[.slice a len cap, .int .i64 i] w fun e w' => e = .returned (.func (.func 87) #[] #[.pointer (some ⟨w.heap.size + 1, 0, none⟩), .pointer (some ⟨w.heap.size, 0, none⟩)]) ∧ w' = (w.alloc (.cells #[.slice a len cap] 24)).alloc (.cells #[.int .i64 i] 2) := by
  refine callsIn_of_wp Tryz.func51 rfl h5 ?_ hro
  simp only [Tryz.ntmps51, List.size_toArray, List.length_cons, List.length_nil, Nat.reduceAdd, Nat.reduceSub, Array.replicate_succ, Array.replicate_zero, List.push_toArray, List.append_toArray, List.nil_append, List.cons_append]
  gi_wp2
  go_ret
  exact ⟨rfl, rfl⟩

theorem upFrom_impl (a : Option Addr) (len cap : Nat) (i : Int) (w : World) :
    Calls Tryz.prog 51 #[.slice a len cap, .int .i64 i] w fun e w' => e = .returned (.func (.func 87) #[] #[.pointer (some ⟨w.heap.size + 1, 0, none⟩), .pointer (some ⟨w.heap.size, 0, none⟩)]) ∧ w' = (w.alloc (.cells #[.slice a len cap] 24)).alloc (.cells #[.int .i64 i] 2) :=
  callsIn_wide.1 (upFrom_in Fence.wide 1 trivial rfl a len cap i w)

theorem up_stops (F : Fence) (n : Nat) (h7 : F.fn 87) (hro : F.round = none) (hn : 1 ≤ n) (Bi Bt g off len cap : Nat) (xs : List Fv) (hl : xs.length = len) (h16 : len ≤ 16) (hlc : len ≤ cap) (hT : treeOk (fis xs) = true) (i : Int) (hi0 : -1 ≤ i) (hi1 : i < (len : Int)) (w : World) (hBi : Bi < w.heap.size) (hBt : Bt < w.heap.size)
    (hc1 : w.cell? ⟨Bi, 0, none⟩ = some (.int .i64 i)) (hc2 : w.cell? ⟨Bt, 0, none⟩ = some (.slice (some ⟨g, off, none⟩) len cap)) (hat : RC.At 5 w g off (fiRs xs)) :
    SeqStopsK F n Tryz.prog 87 #[.pointer (some ⟨Bi, 0, none⟩), .pointer (some ⟨Bt, 0, none⟩)] (fun x : Up i => #[.int .i64 x.1]) (Kept2 Bt g) (fun ys => ys.map (·.1) = wayUp (fis xs) i) (fun pre => ∃ k, pre.map (·.1) = (wayUp (fis xs) i).take k) len w := fun l J Jx W hW _ _ hY h0 =>
  up1_in F n h7 hro hn l Bi Bt g off len cap xs hl h16 hlc hT i hi0 hi1 J Jx hY W ((hW.cell (p := ⟨Bi, 0, none⟩) hBi).trans hc1) ((hW.cell (p := ⟨Bt, 0, none⟩) hBt).trans hc2) (hat.on hW) h0

/-! ### Numbers of the call's own -/

def intsV (l : List Int) : List Value := l.map (Value.int .i64 ·)

theorem infoI11 : (Tryz.prog.info? 2).map (fun i => (i.zero, i.size, i.bytes)) = some (some (.int .i64 0), 1, 8) := by kernel_rfl

abbrev IntRow (w : World) (v : Value) (B : Nat) (l : List Int) : Prop := w.ownsRow B 2 1 v l.length (intsV l)

def vals {i : Int} (ys : List (Up i)) : List Int := ys.map (·.1)

theorem vals_len {i : Int} (ys : List (Up i)) : (vals ys).length = ys.length := by simp [vals]

def upsV {i : Int} (ys : List (Up i)) : List Value := ys.map fun x => Value.int .i64 x.1

theorem upsV_is {i : Int} (ys : List (Up i)) : upsV ys = intsV (vals ys) := by simp [upsV, intsV, vals]

set_option maxRecDepth 100000 in
set_option maxHeartbeats 4000000 in
theorem AppendUp_in (F : Fence) (n : Nat) (h1f : F.fn 86) (h7 : F.fn 87) (hro : F.round = none) (hn : 3 ≤ n) (Bi Bt g off len cap : Nat) (xs : List Fv) (hl : xs.length = len) (h16 : len ≤ 16) (hlc : len ≤ cap) (hT : treeOk (fis xs) = true) (i : Int) (hi0 : -1 ≤ i) (hi1 : i < (len : Int)) (w : World) (hBi : Bi < w.heap.size) (hBt : Bt < w.heap.size)
    (hc1 : w.cell? ⟨Bi, 0, none⟩ = some (.int .i64 i)) (hc2 : w.cell? ⟨Bt, 0, none⟩ = some (.slice (some ⟨g, off, none⟩) len cap)) (hat : RC.At 5 w g off (fiRs xs)) :
    CallsIn F n Tryz.prog 86 #[.slice none 0 0, .func (.func 87) #[] #[.pointer (some ⟨Bi, 0, none⟩), .pointer (some ⟨Bt, 0, none⟩)]] w fun e w' => ∃ v, e = .returned v ∧ IntRow w' v w.heap.size (wayUp (fis xs) i) ∧ Below w.heap.size w w' := by
  have h1 : 1 ≤ n := by omega
  obtain ⟨i0, hi, hz0, hz1, hz2⟩ := info_parts infoI11
  have hgl := hat.lt
  refine callsIn_of_wp_marks Tryz.func86 rfl h1f ?_ hro
  simp only [Tryz.ntmps86, List.size_toArray, List.length_cons, List.length_nil, Nat.reduceAdd, Nat.reduceSub, Array.replicate_succ, Array.replicate_zero, List.push_toArray, List.append_toArray, List.nil_append, List.cons_append]
  gi_wp2
  have bS := Boxed.new w 35 (.slice none 0 0)
  have hB0 : Below w.heap.size w (w.alloc (.cells #[.slice none 0 0] 35)) := (Below.refl _ w).alloc (Nat.le_refl _) _
  refine wpIn_rangeFunc_ownG hro h1 (gf := 87) (lb := #[.pointer (some ⟨Bi, 0, none⟩), .pointer (some ⟨Bt, 0, none⟩)]) rfl h7 (enters_of Tryz.func87 (by kernel_rfl) rfl)
    (up_stops F (n - 1) h7 hro (by omega) Bi Bt g off len cap xs hl h16 hlc hT i hi0 hi1 (w.alloc (.cells #[.slice none 0 0] 35)) (by simp; omega) (by simp; omega) ((hB0.cell (p := ⟨Bi, 0, none⟩) hBi).trans hc1) ((hB0.cell (p := ⟨Bt, 0, none⟩) hBt).trans hc2) (hat.on hB0))
    Kept2.trans (Kept2.put (by simp; omega) (by simp; omega)) (Below.refl _ _) (fun _ => rfl)
    (fun (pre : List (Up i)) W => (∃ v, Boxed W w.heap.size 35 v ∧ W.ownsRow w.heap.size 2 1 v pre.length (upsV pre) ∧ True) ∧ Below w.heap.size w W)
    (fun _ _ _ => False)
    (OwnFrom.and (Own.from (holdsRow_own w.heap.size w.heap.size 35 2 1 (fun pre : List (Up i) => pre.length) upsV (fun _ _ => True)) _) (ownFrom_below (Nat.le_refl _) (by simp)))
    (fun _ _ _ _ _ hs _ _ => hs)
    ⟨⟨_, bS, World.ownsRow_nil _ _ _ _, trivial⟩, hB0⟩
    (fun x => { tmps := #[.slice none 0 0, .func (.func 87) #[] #[.pointer (some ⟨Bi, 0, none⟩), .pointer (some ⟨Bt, 0, none⟩)], .pointer (some ⟨w.heap.size, 0, none⟩), undef, .slice none 0 0, .int .i64 x.1, .func (.func 87) #[] #[.pointer (some ⟨Bi, 0, none⟩), .pointer (some ⟨Bt, 0, none⟩)], .int .i64 x.1, undef, undef, undef, undef, undef], defers := [] }) ?assign ?body ?done ?stop
  case assign =>
    intro l x W K hK
    gi_wp2
    exact hK
  case body =>
    rintro l pre x W ⟨⟨v, hv, hrow, -⟩, hB⟩ hlen
    have hcell := hv.cell
    have hlen' : pre.length + 1 ≤ 2000000 := by omega
    gi_wp2_with (gi_at_builtin; refine wpListIn_append_own _ rfl _ _ 35 rfl w.heap.size 2 i0 (.int .i64 0) 1 8 Tryz.underlying35 hi hz0 hz1 hz2 rfl (by decide) _ _ _ rfl (hrow.alloc _) ⟨W.heap.size, 0, none⟩ 1 1 [.int .i64 x.1] rfl rfl (cell_one_new _ _ _) (by simp [Value.oneCell']) (by unfold maxLen; omega) (by omega) (by have := hB.size; simp; omega) ?_; intro v' w1 hown' hgrow _; obtain ⟨g', cap', rfl⟩ := ownsRow_succ hown'; obtain ⟨hv1, hv2, hr2, hk2, hb2⟩ := hv.appended (by decide) hrow hB.size (Nat.le_refl _) hown' hgrow; have hc1 := hv1.cell; have hf1 := hv1.frozen)
    exact ⟨hk2.from _, Kept2.below hb2 hBt hgl, ⟨_, hv2, by simpa [upsV] using hr2, trivial⟩, hB.trans hb2⟩
  case done =>
    rintro D ys W hD hS ⟨⟨v, hv, hrow, -⟩, hB⟩ hK
    have hcell := hv.cell
    have HS := Lib.hid hS
    clear hS
    gi_wp2
    refine ⟨by simp, .inl ⟨_, _, rfl, run_takeDeferred hK, ?_⟩⟩
    refine ⟨_, results_tmp rfl _ _ _, v, rfl, ?_, hB.trans (belowK_b (w := w) (Nat.le_refl _) W D _ _ (by simp at hD; omega) hK rfl rfl)⟩
    have e := upsV_is ys
    have e2 : vals ys = wayUp (fis xs) i := HS.out
    rw [e2] at e
    have e3 := vals_len ys
    rw [e2] at e3
    have := ownsRow_putObj hrow (.deferred none) hK rfl
    rw [e, ← e3] at this
    exact this
  case stop =>
    rintro D c pre W _ _ h _
    exact h.elim

set_option maxHeartbeats 1000000 in
theorem CollectUp_impl (Bi Bt g off len cap : Nat) (xs : List Fv) (hl : xs.length = len) (h16 : len ≤ 16) (hlc : len ≤ cap) (hT : treeOk (fis xs) = true) (i : Int) (hi0 : -1 ≤ i) (hi1 : i < (len : Int)) (w : World) (hBi : Bi < w.heap.size) (hBt : Bt < w.heap.size)
    (hc1 : w.cell? ⟨Bi, 0, none⟩ = some (.int .i64 i)) (hc2 : w.cell? ⟨Bt, 0, none⟩ = some (.slice (some ⟨g, off, none⟩) len cap)) (hat : RC.At 5 w g off (fiRs xs)) :
    Calls Tryz.prog 50 #[.func (.func 87) #[] #[.pointer (some ⟨Bi, 0, none⟩), .pointer (some ⟨Bt, 0, none⟩)]] w fun e w' => ∃ v, e = .returned v ∧ IntRow w' v w.heap.size (wayUp (fis xs) i) ∧ Below w.heap.size w w' := by
  have HA := Lib.hid (callsIn_wide.1 (AppendUp_in Fence.wide 3 trivial trivial rfl (Nat.le_refl _) Bi Bt g off len cap xs hl h16 hlc hT i hi0 hi1 w hBi hBt hc1 hc2 hat))
  clear hc1 hc2 hat hT hl
  go_enter Tryz.func50, Tryz.ntmps50
  go_wp2_with (go_at_call 86; refine HA.out.mono ?_; rintro e w' ⟨v, rfl, hrow, hb⟩)
  go_ret
  exact ⟨v, rfl, hrow, hb⟩

/-- What a path's answer is: numbers of the call's own. -/
def PathAns (l : List Int) (w : World) (e : Ending) (w' : World) : Prop := ∃ v, e = .returned v ∧ IntRow w' v w.heap.size l ∧ Below w.heap.size w w'

theorem row_base {w : World} {B B' e s n : Nat} {v : Value} {xs : List Value} (h : w.ownsRow B e s v n xs) (hb : B' ≤ B) : w.ownsRow B' e s v n xs := ⟨h.1, by
  rcases h.2 with hn | ⟨g, cap, cur, hv, hbg, rest⟩
  · exact .inl hn
  · exact .inr ⟨g, cap, cur, hv, Nat.le_trans hb hbg, rest⟩⟩

set_option maxRecDepth 20000 in
set_option maxHeartbeats 2000000 in
theorem Path_impl (xs : List Fv) (i : Int) (v : Value) (w : World) (L : Pow w) (h : FiSlc w v xs) (hf : ∀ x ∈ xs, FitsF x) (hs : xs.length ≤ 2000000) :
    Calls Tryz.prog 13 #[v, .int .i64 i] w (PathAns (path (fis xs) i) w) := by
  have HT := Lib.hid (isFigure_impl xs i v w L h hf hs)
  have HH := Lib.hid h
  obtain ⟨a, cap, rfl, hnc, hcap, hA⟩ := h.form
  obtain ⟨n, hn⟩ : ∃ n, xs.length = n := ⟨_, rfl⟩
  have HN := Lib.hid hn
  have HA := Lib.hid hA
  rw [hn] at HT hnc ⊢
  clear h hf hs hcap L hA hn
  cases hq : hasFig (fis xs) i
  · have HK := Lib.hid (show path (fis xs) i = [] by unfold path; rw [hq]; rfl)
    rw [hq] at HT
    clear hq
    go_enter Tryz.func13, Tryz.ntmps13
    go_wp2_with (go_at_call 49; refine HT.out.mono ?_; rintro e w2 ⟨rfl, g2⟩)
    go_ret
    refine ⟨_, rfl, by rw [HK.out]; exact row_base (World.ownsRow_lit w2 #[] 0 (Nat.le_refl _) (by decide) rfl) g2.size, g2.alloc g2.size _⟩
  · have HK := Lib.hid (show path (fis xs) i = wayUp (fis xs) i by unfold path; rw [hq]; rfl)
    have hq' := hq
    unfold hasFig at hq'
    simp only [Bool.and_eq_true, decide_eq_true_eq] at hq'
    obtain ⟨⟨h0, h1⟩, hT⟩ := hq'
    rw [fis_len, HN.out] at h1
    have h16 := tree_len hT
    rw [fis_len, HN.out] at h16
    obtain ⟨g, off, rfl, hat⟩ := HA.out (by intro e0; have := HN.out; rw [e0] at this; simp at this; omega)
    rw [hq] at HT
    have HC := Lib.hid (fun (w2 : World) (g2 : Below w.heap.size w w2) => by
      have hB1 : Below w.heap.size w (w2.alloc (.cells #[.slice (some ⟨g, off, none⟩) n cap] 24)) := g2.alloc g2.size _
      have hB2 : Below w.heap.size w ((w2.alloc (.cells #[.slice (some ⟨g, off, none⟩) n cap] 24)).alloc (.cells #[.int .i64 i] 2)) := hB1.alloc hB1.size _
      have l1 := (LBlk.new w2 [.slice (some ⟨g, off, none⟩) n cap] 24).alloc (.cells #[.int .i64 i] 2)
      have l2 := LBlk.new (w2.alloc (.cells #[.slice (some ⟨g, off, none⟩) n cap] 24)) [.int .i64 i] 2
      rw [World.size_alloc] at l2
      exact CollectUp_impl (w2.heap.size + 1) w2.heap.size g off n cap xs HN.out h16 hnc hT i (by omega) h1 _ l2.1 l1.1 (l2.2 0 _ rfl).1 (l1.2 0 _ rfl).1 (hat.on hB2))
    clear hq h0 h1 hT h16 hat
    go_enter Tryz.func13, Tryz.ntmps13
    go_wp2_with (first | (go_at_call 49; refine HT.out.mono ?_; rintro e w2 ⟨rfl, g2⟩) | (go_at_call 51; refine (upFrom_impl _ _ _ _ _).mono ?_; rintro e w3 ⟨rfl, rfl⟩))
    refine (HC.out w2 g2).mono ?_
    rintro e w4 ⟨v, rfl, hrow, hb⟩
    have hB1 : Below w.heap.size w (w2.alloc (.cells #[.slice (some ⟨g, off, none⟩) n cap] 24)) := g2.alloc g2.size _
    have hB2 : Below w.heap.size w ((w2.alloc (.cells #[.slice (some ⟨g, off, none⟩) n cap] 24)).alloc (.cells #[.int .i64 i] 2)) := hB1.alloc hB1.size _
    clear hB1
    go_wp2_with fail
    go_ret
    exact ⟨_, rfl, by rw [HK.out]; exact row_base hrow hB2.size, hB2.trans (hb.mono hB2.size)⟩

end Go.Proofs.YtgaggpnlimchkaaGreatDoor.B11

namespace Go.Proofs.YtgaggpnlimchkaaGreatDoor.B11
open Go.Proofs.YtgaggpnlimchkaaGreatDoor.P1 Go.Proofs.YtgaggpnlimchkaaGreatDoor.B1 Go.Proofs.YtgaggpnlimchkaaGreatDoor.B2 Go.Proofs.YtgaggpnlimchkaaGreatDoor.T1 Go.Proofs.YtgaggpnlimchkaaGreatDoor.BT Go.Proofs.YtgaggpnlimchkaaGreatDoor.P5 Go.Proofs.YtgaggpnlimchkaaGreatDoor.B5 Go.Proofs.YtgaggpnlimchkaaGreatDoor.P6 Go.Proofs.YtgaggpnlimchkaaGreatDoor.P9 Go.Proofs.YtgaggpnlimchkaaGreatDoor.B6 Go.Proofs.YtgaggpnlimchkaaGreatDoor.B9 Go.Proofs.YtgaggpnlimchkaaGreatDoor.D1 Go.Proofs.YtgaggpnlimchkaaGreatDoor.W8 Go.Proofs.YtgaggpnlimchkaaGreatDoor.RC Go.Proofs.YtgaggpnlimchkaaGreatDoor.RI Go.Proofs.YtgaggpnlimchkaaGreatDoor.P10 Go.Proofs.YtgaggpnlimchkaaGreatDoor.B10 Go.Proofs.YtgaggpnlimchkaaGreatDoor.P11
open Go.ChangeShapes Go.WideShapes Go.ChangeAt Go.RowKit
set_option linter.unusedVariables false

theorem intRow_shape {w : World} {v : Value} {B : Nat} {l : List Int} (h : IntRow w v B l) : ∃ a c, v = .slice a l.length c := by
  rcases h.2 with ⟨rfl, h0⟩ | ⟨g, cap, cur, rfl, _⟩
  · exact ⟨none, 0, by rw [h0]⟩
  · exact ⟨_, _, rfl⟩

set_option maxRecDepth 20000 in
set_option maxHeartbeats 4000000 in
theorem Path_spec (xs : List Fv) (i : Int) (v : Value) (w : World) (h : FiSlc w v xs) (hf : ∀ x ∈ xs, FitsF x) (hs : xs.length ≤ 2000000) :
    Calls Tryz.prog 17 #[v, .int .i64 i] w (PathAns (path (fis xs) i) w) := by
  obtain ⟨i0, hi, hz0, hz1, hz2⟩ := info_parts infoI11
  have hB0 : Below w.heap.size w (w.alloc (.cells #[] 2)) := (Below.refl _ _).alloc (Nat.le_refl _) _
  have ho0 : IntRow (w.alloc (.cells #[] 2)) (.slice (some ⟨w.heap.size, 0, none⟩) 0 0) w.heap.size [] := World.ownsRow_lit w #[] 0 (Nat.le_refl _) (by decide) rfl
  have HT := Lib.hid (Has_spec xs i v _ (h.on hB0) hf hs)
  have HH := Lib.hid h
  obtain ⟨a, cap, rfl, hnc, hcap, hA⟩ := h.form
  obtain ⟨n, hn⟩ : ∃ n, xs.length = n := ⟨_, rfl⟩
  have HN := Lib.hid hn
  have HA := Lib.hid hA
  rw [hn] at HT hnc ⊢
  clear h hf hs hcap hA hn
  cases hq : hasFig (fis xs) i
  · have HK := Lib.hid (show path (fis xs) i = [] by unfold path; rw [hq]; rfl)
    rw [hq] at HT
    clear hq
    go_enter Tryz.func17, Tryz.ntmps17
    go_wp2_with (go_at_call 53; refine HT.out.mono ?_; rintro e w2 ⟨rfl, g2⟩)
    go_ret
    exact ⟨_, rfl, by rw [HK.out]; exact own_below ho0 g2, hB0.trans (g2.mono hB0.size)⟩
  · have HK := Lib.hid (show path (fis xs) i = wayUp (fis xs) i by unfold path; rw [hq]; rfl)
    have hq' := hq
    unfold hasFig at hq'
    simp only [Bool.and_eq_true, decide_eq_true_eq] at hq'
    obtain ⟨⟨h0, h1⟩, hT⟩ := hq'
    rw [fis_len, HN.out] at h1
    have h16 := tree_len hT
    rw [fis_len, HN.out] at h16
    have HTR := Lib.hid hT
    have hnc' : (n : Int) ≤ (cap : Int) := by omega
    obtain ⟨g, off, rfl, hat⟩ := HA.out (by intro e0; have := HN.out; rw [e0] at this; simp at this; omega)
    have HAT := Lib.hid hat
    rw [hq] at HT
    clear hq hT hat
    go_enter Tryz.func17, Tryz.ntmps17
    go_wp2_with (go_at_call 53; refine HT.out.mono ?_; rintro e w2 ⟨rfl, g2⟩)
    have hB2 := hB0.trans (g2.mono hB0.size)
    have ho2 : IntRow w2 (.slice (some ⟨w.heap.size, 0, none⟩) 0 0) w.heap.size [] := own_below ho0 g2
    obtain ⟨N0, hN0⟩ : ∃ N0 : Nat, (i + 1).toNat = N0 := ⟨_, rfl⟩
    have HN0 := Lib.hid hN0
    clear hN0 HT ho0 hB0 g2
    go_loopg [1, 5] N0 (fun kx s1 s5 wr => ∃ (c : Int) (done : List Int), s1 = .int .i64 c ∧ kx = (c + 1).toNat ∧ -1 ≤ c ∧ c < (n : Int) ∧ Hid (done ++ wayUp (fis xs) c = wayUp (fis xs) i) ∧ IntRow wr s5 w.heap.size done ∧ Below w.heap.size w wr)
    case atStart => exact ⟨i, [], rfl, HN0.out.symm, by omega, h1, Lib.hid rfl, ho2, hB2⟩
    case round =>
      obtain ⟨c, done, rfl, hkx, hc0, hc1, HI, hown, hB⟩ := hrel
      clear ho2 hB2
      have hdl : done.length ≤ 16 := by
        have e := congrArg List.length HI.out
        have := wayUp_len (t := fis xs) i
        rw [fis_len, HN.out] at this
        rw [List.length_append] at e
        omega
      obtain ⟨a5, c5, rfl⟩ := intRow_shape hown
      by_cases hcn : c < 0
      · have hcn' : ¬ (0 : Int) ≤ c := by omega
        have HF := Lib.hid (show done = path (fis xs) i by
          have := HI.out
          rw [wayUp_neg hcn, List.append_nil] at this
          rw [HK.out]; exact this)
        go_wp2_with fail
        go_ret
        exact ⟨_, rfl, by rw [← HF.out]; exact hown, hB⟩
      · obtain ⟨j, rfl⟩ : ∃ j : Nat, c = (j : Int) := ⟨c.toNat, by omega⟩
        have hj0 : (0 : Int) ≤ (j : Int) := by omega
        obtain ⟨z, hz⟩ : ∃ z, xs[j]? = some z := ⟨_, List.getElem?_eq_getElem (by rw [HN.out]; omega)⟩
        have HCZ := Lib.hid (fun (W : World) (hW : Below w.heap.size w W) => (fi_cells (HAT.out.on hW) hz).1)
        have hw := wayUp_cons HTR.out (i := (j : Int)) hj0 (by rw [fis_len, HN.out]; exact hc1)
        have hza := above_lt HTR.out (i := (j : Int)) hj0 (by rw [fis_len, HN.out]; exact hc1)
        rw [aboveAt_is hz] at hw hza
        obtain ⟨hza0, hza1, _, _⟩ := hza
        have HI2 := Lib.hid (show (done ++ [(j : Int)]) ++ wayUp (fis xs) z.f.above = wayUp (fis xs) i by rw [← HI.out, hw, List.append_assoc]; rfl)
        obtain ⟨zb, hzb⟩ : ∃ zb, z.f.above = zb := ⟨_, rfl⟩
        rw [hzb] at HCZ HI2 hza0 hza1
        obtain ⟨d, hd⟩ : ∃ d, done.length = d := ⟨_, rfl⟩
        have hown' : wr.ownsRow w.heap.size 2 1 (.slice a5 d c5) d (intsV done) := by
          have := hown
          unfold IntRow at this
          rwa [hd] at this
        rw [hd] at hdl ⊢
        have HD := Lib.hid hd
        clear hz hzb hcn hw HI hown hd
        go_wp2_with (at_builtin; refine wpList_append_own _ rfl _ _ 35 rfl w.heap.size 2 i0 _ 1 8 Tryz.underlying35 hi hz0 hz1 hz2 rfl (by decide) _ d (intsV done) rfl (World.ownsRow.alloc hown' _) ⟨wr.heap.size, 0, none⟩ 1 1 [.int .i64 (j : Int)] rfl rfl (cell_one_new _ _ _) (by simp [Value.oneCell']) (by simp [maxLen] <;> omega) (by omega) (by have := hB.size; simp; omega) ?_; intro v4 w4 hown4 hgrow4 _; have hB4 := (hB.alloc hB.size (.cells #[.int .i64 (j : Int)] 2)).grown hgrow4 (by have := hB.size; simp; omega) (fun k hk => (World.ownsRow.lt hown' k hk).1); have cz := HCZ.out w4 hB4)
        go_roundg (zb + 1).toNat
        case measure => omega
        case rel => exact ⟨zb, done ++ [(j : Int)], rfl, rfl, hza0, by omega, HI2, (by
          unfold IntRow
          rw [List.length_append, HD.out]
          have e : intsV (done ++ [(j : Int)]) = intsV done ++ [.int .i64 (j : Int)] := by simp [intsV]
          rw [e]; exact hown4), hB4⟩

end Go.Proofs.YtgaggpnlimchkaaGreatDoor.B11
