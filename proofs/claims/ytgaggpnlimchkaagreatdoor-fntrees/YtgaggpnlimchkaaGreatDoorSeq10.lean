/- Chapter 10: slices of texts wherever they lie; slices.Values, AppendSeq, Collect, Sorted at texts; the program's rising. -/
import Derived.Test.YtgaggpnlimchkaaGreatDoorFound
import Derived.Test.YtgaggpnlimchkaaGreatDoorShelf
import Derived.Test.YtgaggpnlimchkaaGreatDoorPlain10
import Derived.RangeFuncBox
import Derived.RangeFuncLeaves
import Derived.Shelf.Abstract
import Derived.Maps.AppendAt
import Derived.Sort.OwnSorted
import Derived.WalkKit
import Derived.OwnWalkIn
import Derived.TacticsInMore
import Derived.LoopNIn
import Derived.LoopIn
namespace Go.Proofs.YtgaggpnlimchkaaGreatDoor.B10
open Go.Proofs.YtgaggpnlimchkaaGreatDoor.P1 Go.Proofs.YtgaggpnlimchkaaGreatDoor.B1 Go.Proofs.YtgaggpnlimchkaaGreatDoor.B2 Go.Proofs.YtgaggpnlimchkaaGreatDoor.T1 Go.Proofs.YtgaggpnlimchkaaGreatDoor.BT Go.Proofs.YtgaggpnlimchkaaGreatDoor.D1 Go.Proofs.YtgaggpnlimchkaaGreatDoor.W8 Go.Proofs.YtgaggpnlimchkaaGreatDoor.RC Go.Proofs.YtgaggpnlimchkaaGreatDoor.P10
open Go.ChangeShapes Go.WideShapes Go.ChangeAt Go.RowKit Go.Shelf Go.Sort
set_option linter.unusedVariables false

attribute [local go_sem] Oper.semAt_some

/-- Texts as records of one cell; a slice of them, wherever it lies. -/
def strRs (ss : List (List UInt8)) : List (List Value) := ss.map fun s => [Value.string ⟨s.toArray⟩]

def StrSlc (w : World) (v : Value) (ss : List (List UInt8)) : Prop := RC.Slc 1 w v (strRs ss)

theorem strRs_len (ss : List (List UInt8)) : (strRs ss).length = ss.length := by simp [strRs]

theorem strRs_one (ss : List (List UInt8)) : ∀ r ∈ strRs ss, r.length = 1 := fun r hr => by
  obtain ⟨n, _, rfl⟩ := List.mem_map.1 hr
  rfl

theorem StrSlc.on {w w' : World} {v : Value} {ss : List (List UInt8)} (h : StrSlc w v ss) (hb : Below w.heap.size w w') : StrSlc w' v ss := Slc.on h hb

theorem StrSlc.form {w : World} {v : Value} {ss : List (List UInt8)} (h : StrSlc w v ss) : ∃ a cap, v = .slice a ss.length cap ∧ ss.length ≤ cap ∧ cap ≤ 9223372036854775807 ∧ (ss ≠ [] → ∃ g off, a = some ⟨g, off, none⟩ ∧ RC.At 1 w g off (strRs ss)) := by
  obtain ⟨a, cap, e, h1, h2, h3⟩ := h
  rw [strRs_len] at e h1
  exact ⟨a, cap, e, h1, h2, fun hne => h3 (by intro e0; exact hne (List.map_eq_nil_iff.1 e0))⟩

theorem str_cell {w : World} {g off i : Nat} {ss : List (List UInt8)} {s : List UInt8} (h : RC.At 1 w g off (strRs ss)) (hs : ss[i]? = some s) : w.cell? ⟨g, off + i, none⟩ = some (.string ⟨s.toArray⟩) := by
  have := h.cells i [Value.string ⟨s.toArray⟩] (by unfold strRs; rw [List.getElem?_map, hs]; rfl) 0 _ rfl
  rwa [Nat.mul_one, Nat.add_zero] at this

theorem nil_strs (w : World) : StrSlc w (.slice none 0 0) [] := ⟨none, 0, rfl, Nat.le_refl _, by decide, fun h => absurd rfl h⟩

theorem Words.slc {w : World} {v : Value} {B : Nat} {ss : List (List UInt8)} (h : Words w v B ss) : StrSlc w v ss := by
  have e : ∀ (l : List (List UInt8)), (strRs l).flatten = wordsV l := fun l => by
    induction l with
    | nil => rfl
    | cons x r ih =>
      show [Value.string ⟨x.toArray⟩] ++ (strRs r).flatten = _
      rw [ih]; rfl
  have : RC.Own 9 1 w v B (strRs ss) := ⟨by rw [strRs_len, e ss]; exact h, strRs_one ss⟩
  exact this.val.slc

def valsUpto (f : Nat → List UInt8) (k : Nat) : List (List UInt8) := (List.range k).map f
theorem valsUpto_succ (f : Nat → List UInt8) (k : Nat) : valsUpto f (k + 1) = valsUpto f k ++ [f k] := by simp [valsUpto, List.range_succ]
theorem valsUpto_length (f : Nat → List UInt8) (k : Nat) : (valsUpto f k).length = k := by simp [valsUpto]
theorem valsUpto_all (zs : List (List UInt8)) : valsUpto (fun j => zs[j]?.getD []) zs.length = zs := by
  apply List.ext_getElem
  · simp [valsUpto]
  · intro i h1 h2
    simp [valsUpto, h2]

set_option maxRecDepth 100000 in
set_option maxHeartbeats 2000000 in
/-- slices.Values's closure, for whatever body that keeps what lay below n₀. -/
theorem values1_in (F : Fence) (n : Nat) (h7 : F.fn 137) (hro : F.round = none) (hn : 1 ≤ n) (l Bs n₀ b off len cap : Nat) (zs : List (List UInt8)) (hreach : len ≤ 2000000) (hb : b < n₀) (J Jx : List (List UInt8) → World → Prop)
    (hY : ∀ pre x W, J pre W → pre.length < len → YieldAt F (n - 1) Tryz.prog l #[.string ⟨x.toArray⟩] W fun e W' =>
      (e = .returned (.bool true) ∧ J (pre ++ [x]) W' ∧ Below n₀ W W') ∨ (e = .returned (.bool false) ∧ Jx (pre ++ [x]) W'))
    (W : World) (hBs : W.cell? ⟨Bs, 0, none⟩ = some (.slice (some ⟨b, off, none⟩) len cap)) (hc : ∀ j, j < len → W.cell? ⟨b, off + j, none⟩ = some (.string ⟨(zs[j]?.getD []).toArray⟩)) (h0 : J [] W) :
    CallsIn F n Tryz.prog 137 #[.func (.yield l) #[] #[], .pointer (some ⟨Bs, 0, none⟩)] W fun e W' => (∃ v, e = .returned v) ∧
      ((∃ ys, ys = valsUpto (fun j => zs[j]?.getD []) len ∧ J ys W') ∨ (∃ pre, (∃ k, k ≤ len ∧ pre = valsUpto (fun j => zs[j]?.getD []) k) ∧ Jx pre W')) := by
  refine callsIn_of_wp Tryz.func137 rfl h7 ?_ hro
  simp only [Tryz.ntmps137, List.size_toArray, List.length_cons, List.length_nil, Nat.reduceAdd, Nat.reduceSub, Array.replicate_succ, Array.replicate_zero, List.push_toArray, List.append_toArray, List.nil_append, List.cons_append]
  gi_wp2
  gi_loopw [7] (fun i wr => ∃ k : Nat, k ≤ len ∧ i = .int .i64 k ∧ J (valsUpto (fun j => zs[j]?.getD []) k) wr ∧ Below n₀ W wr)
    (fun i _ => len - (intOf i).toNat)
  case atStart => exact ⟨0, Nat.zero_le _, rfl, h0, Below.refl _ _⟩
  case round =>
    obtain ⟨k, hk, rfl, hJs, hnx⟩ := hrel
    have hcx : k < len → wr.cell? ⟨b, off + k, none⟩ = some (.string ⟨(zs[k]?.getD []).toArray⟩) := fun h => (hnx.cell (p := ⟨b, off + k, none⟩) hb).trans (hc k h)
    by_cases hlt : k < len
    · obtain ⟨fn, tmps, assign, body, hy, hR⟩ := hY _ (zs[k]?.getD []) wr hJs (by rw [valsUpto_length]; exact hlt)
      have hcx' := hcx hlt
      gi_wp2
      refine hR.mono ?_
      rintro e W3 (⟨rfl, hJ3, hk3⟩ | ⟨rfl, hJx3⟩)
      · gi_wp2
        go_roundw
        case rel => exact ⟨k + 1, by omega, by simp, by rw [valsUpto_succ]; exact hJ3, hnx.trans hk3⟩
        case measure => simp [intOf]; omega
      · gi_wp2
        refine bodyPost_ret (results_none rfl _ _ _) rfl ?_
        exact ⟨⟨_, rfl⟩, .inr ⟨_, ⟨k + 1, by omega, (valsUpto_succ _ _).symm⟩, hJx3⟩⟩
    · obtain rfl : k = len := by omega
      gi_wp2
      go_end0
      exact ⟨⟨_, rfl⟩, .inl ⟨_, rfl, hJs⟩⟩

set_option maxRecDepth 100000 in
set_option maxHeartbeats 1000000 in
/-- .. where there is none: no round. -/
theorem values1_nil_in (F : Fence) (n : Nat) (h7 : F.fn 137) (hro : F.round = none) (l Bs cap : Nat) (a : Option Addr) (J : List (List UInt8) → World → Prop) (W : World) (hBs : W.cell? ⟨Bs, 0, none⟩ = some (.slice a 0 cap)) (h0 : J [] W) :
    CallsIn F n Tryz.prog 137 #[.func (.yield l) #[] #[], .pointer (some ⟨Bs, 0, none⟩)] W fun e W' => (∃ v, e = .returned v) ∧ J [] W' := by
  refine callsIn_of_wp Tryz.func137 rfl h7 ?_ hro
  simp only [Tryz.ntmps137, List.size_toArray, List.length_cons, List.length_nil, Nat.reduceAdd, Nat.reduceSub, Array.replicate_succ, Array.replicate_zero, List.push_toArray, List.append_toArray, List.nil_append, List.cons_append]
  gi_wp2
  gi_loopw [7] (fun i wr => i = .int .i64 0 ∧ J [] wr) (fun _ _ => 0)
  case atStart => exact ⟨rfl, h0⟩
  case round =>
    obtain ⟨rfl, hJs⟩ := hrel
    gi_wp2
    go_end0
    exact ⟨⟨_, rfl⟩, hJs⟩

set_option maxHeartbeats 1000000 in
theorem values_in (F : Fence) (n : Nat) (h5 : F.fn 127) (hro : F.round = none) (a : Option Addr) (len cap : Nat) (w : World) :
    CallsIn F n Tryz.prog 127 #[.slice a len cap] w fun e w' => e = .returned (.func (.func 137) #[] #[.pointer (some ⟨w.heap.size, 0, none⟩)]) ∧ w' = w.alloc (.cells #[.slice a len cap] 25) := by
  refine callsIn_of_wp Tryz.func127 rfl h5 ?_ hro
  simp only [Tryz.ntmps127, List.size_toArray, List.length_cons, List.length_nil, Nat.reduceAdd, Nat.reduceSub, Array.replicate_succ, Array.replicate_zero, List.push_toArray, List.append_toArray, List.nil_append, List.cons_append]
  gi_wp2
  go_ret
  exact ⟨rfl, rfl⟩

theorem values_stops (F : Fence) (n : Nat) (h7 : F.fn 137) (hro : F.round = none) (hn : 1 ≤ n) (Bs n₀ : Nat) (sv : Value) (zs : List (List UInt8)) (hreach : zs.length ≤ 2000000) (w : World) (hBs : Bs < w.heap.size) (hn₀ : n₀ ≤ w.heap.size)
    (hc : w.cell? ⟨Bs, 0, none⟩ = some sv) (w00 : World) (h00 : w00.heap.size = n₀) (h01 : Below n₀ w00 w) (hI : StrSlc w00 sv zs) :
    SeqStopsK F n Tryz.prog 137 #[.pointer (some ⟨Bs, 0, none⟩)] (fun x : List UInt8 => #[Value.string ⟨x.toArray⟩]) (Below n₀) (fun ys => ys = zs) (fun pre => True) zs.length w := fun l J Jx W hW _ _ hY h0 => by
  have hc' := (hW.cell (p := ⟨Bs, 0, none⟩) hBs).trans hc
  obtain ⟨a, cap, rfl, hlc, hcap, hA⟩ := hI.form
  by_cases hz : zs = []
  · subst hz
    exact (values1_nil_in F n h7 hro l Bs cap a J W hc' h0).mono fun e W' ⟨he, hj⟩ => ⟨he, .inl ⟨_, rfl, hj⟩⟩
  · obtain ⟨b, off, rfl, hat⟩ := hA hz
    have hbl : b < n₀ := by rw [← h00]; exact hat.lt
    have hcs : ∀ j, j < zs.length → W.cell? ⟨b, off + j, none⟩ = some (.string ⟨(zs[j]?.getD []).toArray⟩) := fun j hj => by
      have hx : zs[j]? = some (zs[j]?.getD []) := by rw [List.getElem?_eq_getElem hj]; rfl
      exact ((hW.mono hn₀).cell (p := ⟨b, off + j, none⟩) hbl).trans ((h01.cell (p := ⟨b, off + j, none⟩) hbl).trans (str_cell hat hx))
    refine (values1_in F n h7 hro hn l Bs n₀ b off zs.length cap zs hreach hbl J Jx hY W hc' hcs h0).mono ?_
    rintro e W' ⟨he, ⟨ys, rfl, hj⟩ | ⟨pre, _, hj⟩⟩
    · exact ⟨he, .inl ⟨_, valsUpto_all zs, hj⟩⟩
    · exact ⟨he, .inr ⟨_, trivial, hj⟩⟩

set_option maxRecDepth 100000 in
set_option maxHeartbeats 4000000 in
theorem AppendSeq_in (F : Fence) (n : Nat) (h1f : F.fn 144) (h7 : F.fn 137) (hro : F.round = none) (hn : 3 ≤ n) (Bs : Nat) (sv : Value) (zs : List (List UInt8)) (hs : zs.length ≤ 2000000) (w : World) (hBs : Bs < w.heap.size) (hc : w.cell? ⟨Bs, 0, none⟩ = some sv) (hI : StrSlc w sv zs) :
    CallsIn F n Tryz.prog 144 #[.slice none 0 0, .func (.func 137) #[] #[.pointer (some ⟨Bs, 0, none⟩)]] w fun e w' => ∃ v, e = .returned v ∧ Words w' v w.heap.size zs ∧ Below w.heap.size w w' := by
  have h1 : 1 ≤ n := by omega
  obtain ⟨i0, hi, hz0, hz1, hz2⟩ := info_parts infoStr
  refine callsIn_of_wp_marks Tryz.func144 rfl h1f ?_ hro
  simp only [Tryz.ntmps144, List.size_toArray, List.length_cons, List.length_nil, Nat.reduceAdd, Nat.reduceSub, Array.replicate_succ, Array.replicate_zero, List.push_toArray, List.append_toArray, List.nil_append, List.cons_append]
  gi_wp2
  have bS := Boxed.new w 25 (.slice none 0 0)
  have hB0 : Below w.heap.size w (w.alloc (.cells #[.slice none 0 0] 25)) := (Below.refl _ w).alloc (Nat.le_refl _) _
  refine wpIn_rangeFunc_ownG hro h1 (gf := 137) (lb := #[.pointer (some ⟨Bs, 0, none⟩)]) rfl h7 (enters_of Tryz.func137 (by kernel_rfl) rfl)
    (values_stops F (n - 1) h7 hro (by omega) Bs w.heap.size sv zs hs (w.alloc (.cells #[.slice none 0 0] 25)) (by simp; omega) (by simp) ((hB0.cell (p := ⟨Bs, 0, none⟩) hBs).trans hc) w rfl hB0 hI) belowK_t (belowK_b (by simp)) (Below.refl _ _) (fun _ => rfl)
    (fun pre W => (∃ v, Boxed W w.heap.size 25 v ∧ W.ownsRow w.heap.size 9 1 v pre.length (wordsV pre) ∧ True) ∧ Below w.heap.size w W)
    (fun _ _ _ => False)
    (OwnFrom.and (Own.from (holdsRow_own w.heap.size w.heap.size 25 9 1 (fun pre : List (List UInt8) => pre.length) wordsV (fun _ _ => True)) _) (ownFrom_below (Nat.le_refl _) (by simp)))
    (fun _ _ _ _ _ hs _ _ => hs)
    ⟨⟨_, bS, World.ownsRow_nil _ _ _ _, trivial⟩, hB0⟩
    (fun x => { tmps := #[.slice none 0 0, .func (.func 137) #[] #[.pointer (some ⟨Bs, 0, none⟩)], .pointer (some ⟨w.heap.size, 0, none⟩), undef, .slice none 0 0, .string ⟨x.toArray⟩, .func (.func 137) #[] #[.pointer (some ⟨Bs, 0, none⟩)], .string ⟨x.toArray⟩, undef, undef, undef, undef, undef], defers := [] }) ?assign ?body ?done ?stop
  case assign =>
    intro l x W K hK
    gi_wp2
    exact hK
  case body =>
    rintro l pre x W ⟨⟨v, hv, hrow, -⟩, hB⟩ hlen
    have hcell := hv.cell
    have hlen' : pre.length + 1 ≤ 2000000 := by omega
    gi_wp2_with (gi_at_builtin; refine wpListIn_append_own _ rfl _ _ 25 rfl w.heap.size 9 i0 (.string ByteArray.empty) 1 16 Tryz.underlying25 hi hz0 hz1 hz2 rfl (by decide) _ _ _ rfl (hrow.alloc _) ⟨W.heap.size, 0, none⟩ 1 1 [.string ⟨x.toArray⟩] rfl rfl (cell_one_new _ _ _) (by simp [Value.oneCell']) (by unfold maxLen; omega) (by omega) (by have := hB.size; simp; omega) ?_; intro v' w1 hown' hgrow _; obtain ⟨g', cap', rfl⟩ := ownsRow_succ hown'; obtain ⟨hv1, hv2, hr2, hk2, hb2⟩ := hv.appended (by decide) hrow hB.size (Nat.le_refl _) hown' hgrow; have hc1 := hv1.cell; have hf1 := hv1.frozen)
    exact ⟨hk2.from _, hb2, ⟨_, hv2, by simpa [wordsV] using hr2, trivial⟩, hB.trans hb2⟩
  case done =>
    rintro D ys W hD rfl ⟨⟨v, hv, hrow, -⟩, hB⟩ hK
    have hcell := hv.cell
    gi_wp2
    refine ⟨by simp, .inl ⟨_, _, rfl, run_takeDeferred hK, ?_⟩⟩
    exact ⟨_, results_tmp rfl _ _ _, v, rfl, ownsRow_putObj hrow _ hK rfl, hB.trans (belowK_b (w := w) (Nat.le_refl _) W D _ _ (by simp at hD; omega) hK rfl rfl)⟩
  case stop =>
    rintro D c pre W _ _ h _
    exact h.elim

set_option maxHeartbeats 1000000 in
theorem Collect_in (F : Fence) (n : Nat) (h0f : F.fn 135) (h1f : F.fn 144) (h7 : F.fn 137) (hro : F.round = none) (hn : 4 ≤ n) (Bs : Nat) (sv : Value) (zs : List (List UInt8)) (hs : zs.length ≤ 2000000) (w : World) (hBs : Bs < w.heap.size) (hc : w.cell? ⟨Bs, 0, none⟩ = some sv) (hI : StrSlc w sv zs) :
    CallsIn F n Tryz.prog 135 #[.func (.func 137) #[] #[.pointer (some ⟨Bs, 0, none⟩)]] w fun e w' => ∃ v, e = .returned v ∧ Words w' v w.heap.size zs ∧ Below w.heap.size w w' := by
  have h1 : 1 ≤ n := by omega
  refine callsIn_of_wp Tryz.func135 rfl h0f ?_ hro
  simp only [Tryz.ntmps135, List.size_toArray, List.length_cons, List.length_nil, Nat.reduceAdd, Nat.reduceSub, Array.replicate_succ, Array.replicate_zero, List.push_toArray, List.append_toArray, List.nil_append, List.cons_append]
  gi_wp2_with (gi_at_call 144; refine (AppendSeq_in F (n - 1) h1f h7 hro (by omega) Bs sv zs hs _ hBs hc hI).mono ?_; rintro e w' ⟨v, rfl, hrow, hb⟩)
  go_ret
  exact ⟨v, rfl, hrow, hb⟩

theorem Collect_impl (Bs : Nat) (sv : Value) (zs : List (List UInt8)) (hs : zs.length ≤ 2000000) (w : World) (hBs : Bs < w.heap.size) (hc : w.cell? ⟨Bs, 0, none⟩ = some sv) (hI : StrSlc w sv zs) :
    Calls Tryz.prog 135 #[.func (.func 137) #[] #[.pointer (some ⟨Bs, 0, none⟩)]] w fun e w' => ∃ v, e = .returned v ∧ Words w' v w.heap.size zs ∧ Below w.heap.size w w' :=
  callsIn_wide.1 (Collect_in Fence.wide 4 trivial trivial trivial rfl (Nat.le_refl _) Bs sv zs hs w hBs hc hI)

theorem Values_impl (a : Option Addr) (len cap : Nat) (w : World) :
    Calls Tryz.prog 127 #[.slice a len cap] w fun e w' => e = .returned (.func (.func 137) #[] #[.pointer (some ⟨w.heap.size, 0, none⟩)]) ∧ w' = w.alloc (.cells #[.slice a len cap] 25) :=
  callsIn_wide.1 (values_in Fence.wide 1 trivial rfl a len cap w)

set_option maxRecDepth 20000 in
set_option maxHeartbeats 2000000 in
theorem Sorted_impl (Bs : Nat) (sv : Value) (zs : List (List UInt8)) (hs : zs.length ≤ 2000000) (w : World) (hBs : Bs < w.heap.size) (hc : w.cell? ⟨Bs, 0, none⟩ = some sv) (hI : StrSlc w sv zs) :
    Calls Tryz.prog 126 #[.func (.func 137) #[] #[.pointer (some ⟨Bs, 0, none⟩)]] w fun e w' => ∃ v, e = .returned v ∧ Words w' v w.heap.size (zs.mergeSort leB) ∧ Below w.heap.size w w' := by
  have HC := Lib.hid (Collect_impl Bs sv zs hs w hBs hc hI)
  clear hBs hc hI
  go_enter Tryz.func126, Tryz.ntmps126
  go_wp2_with (go_at_call 135; refine HC.out.mono ?_; rintro e W ⟨v, rfl, hrow, hb⟩; go_frame)
  rcases hrow.2 with ⟨rfl, hz⟩ | ⟨gb, cap, cur, rfl, hbase, hgb, r1, r2, r3, r4⟩
  · have hss : zs = [] := List.eq_nil_of_length_eq_zero hz
    subst hss
    go_wp2_with (go_at_call 136; refine (Tryz.slices_Sort_string_none none 0 W).mono ?_; rintro e w' ⟨rfl, rfl⟩)
    go_ret
    exact ⟨_, rfl, by simpa using hrow, hb⟩
  · have hH : Holds encStr W gb 0 zs.toArray := holds_of_block hgb (by simpa [wordsV] using r4)
    have hgl : gb < W.heap.size := (Array.getElem?_eq_some_iff.1 hgb).1
    have hsz : zs.length < 4611686018427387904 := by omega
    have cS := Lib.hid (Tryz.slices_Sort_string gb 0 cap zs W hH hgl hsz)
    have HR := Lib.hid (fun k os => ownsRow_sorted (n := k) (os := os) (ss := zs) (ts := zs.mergeSort leB) (by simp) hbase hgb r1 r2 r3)
    have HB := Lib.hid (fun k os => hb.grown (grownBy_sorted (w := W) (g := gb) (n := k) (os := os) (zs.mergeSort leB).toArray) hb.size (fun j hj => by cases hj; exact hbase))
    clear hH hgb r1 r2 r3 r4 hrow hgl hsz
    go_wp2_with (go_at_call 136; refine cS.out.mono ?_; rintro e w' ⟨rfl, k, os, rfl⟩)
    go_ret
    exact ⟨_, rfl, by have := HR.out k os; unfold Words; rw [List.length_mergeSort]; exact this, HB.out k os⟩

theorem comp_len (zs : List (List UInt8)) : (Lib.compact zs).length ≤ zs.length := by
  unfold Lib.compact Lib.compactUpTo
  rw [List.length_map]
  exact Nat.le_trans (List.length_filter_le _ _) (by simp)

set_option maxRecDepth 20000 in
set_option maxHeartbeats 2000000 in
/-- slices.Compact of a slice of the call's own. -/
theorem Compact_own (zs : List (List UInt8)) (v : Value) (B : Nat) (w : World) (hs : zs.length ≤ 2000000) (hrow : Words w v B zs) (hB : B ≤ w.heap.size) :
    Calls Tryz.prog 125 #[v] w fun e w' => ∃ r, e = .returned r ∧ Words w' r B (Lib.compact zs) ∧ Below B w w' := by
  rcases hrow.2 with ⟨rfl, hz⟩ | ⟨gb, cap, cur, rfl, hbase, hgb, r1, r2, r3, r4⟩
  · have hss : zs = [] := List.eq_nil_of_length_eq_zero hz
    subst hss
    refine (Tryz.slices_Compact_string_empty none 0 w).mono ?_
    rintro e w' ⟨rfl, rfl⟩
    exact ⟨_, rfl, by simpa [Lib.compact, Lib.compactUpTo] using hrow, Below.refl _ _⟩
  · have hH : Holds encStr w gb 0 zs.toArray := holds_of_block hgb (by simpa [wordsV] using r4)
    refine (Tryz.slices_Compact_string gb 0 cap zs w hH (by omega) r1).mono ?_
    rintro e w' ⟨rfl, q, rfl⟩
    have hlen : (Lib.compact zs ++ List.replicate (zs.length - (Lib.compact zs).length) []).length = zs.length := by
      have := comp_len zs
      simp; omega
    have hg := grownBy_sorted (w := w) (g := gb) (n := q) (os := #[]) (Lib.compact zs ++ List.replicate (zs.length - (Lib.compact zs).length) []).toArray
    have hh := heap_sorted (n := q) (os := #[]) (Lib.compact zs ++ List.replicate (zs.length - (Lib.compact zs).length) []).toArray hgb
    rw [grow_empty] at hg hh
    refine ⟨_, rfl, ⟨by simp [wordsV], .inr ⟨gb, cap, _, rfl, hbase, hh, by have := comp_len zs; omega, r2, by simp [putCells, r3], ?_⟩⟩, (Below.refl B w).grown hg hB (fun j hj => by cases hj; exact hbase)⟩
    have ht := take_putCells cur (Lib.compact zs ++ List.replicate (zs.length - (Lib.compact zs).length) []) (by rw [hlen]; omega)
    rw [Nat.mul_one]
    have e : (putCells encStr 0 (Lib.compact zs ++ List.replicate (zs.length - (Lib.compact zs).length) []).toArray cur).toList.take (Lib.compact zs).length = ((putCells encStr 0 (Lib.compact zs ++ List.replicate (zs.length - (Lib.compact zs).length) []).toArray cur).toList.take (Lib.compact zs ++ List.replicate (zs.length - (Lib.compact zs).length) []).length).take (Lib.compact zs).length := by
      rw [List.take_take, Nat.min_eq_left (by rw [hlen]; exact comp_len zs)]
    rw [e, ht, List.map_append, List.take_append_of_le_length (by simp), List.take_of_length_le (by simp)]
    rfl

set_option maxRecDepth 20000 in
set_option maxHeartbeats 2000000 in
theorem rising_impl (zs : List (List UInt8)) (v : Value) (w : World) (h : StrSlc w v zs) (hs : zs.length ≤ 2000000) :
    Calls Tryz.prog 117 #[v] w fun e w' => ∃ r, e = .returned r ∧ Words w' r w.heap.size (rising zs) ∧ Below w.heap.size w w' := by
  have hB0 : Below w.heap.size w (w.alloc (.cells #[v] 25)) := (Below.refl _ _).alloc (Nat.le_refl _) _
  have bN := Boxed.new w 25 v
  have HS := Lib.hid (Sorted_impl w.heap.size v zs hs (w.alloc (.cells #[v] 25)) (by simp) bN.cell (h.on hB0))
  obtain ⟨a, cap, rfl, _⟩ := h.form
  have HC := Lib.hid (fun (u : Value) (W : World) (hW : Words W u (w.alloc (.cells #[.slice a zs.length cap] 25)).heap.size (zs.mergeSort leB)) (hsz : (w.alloc (.cells #[.slice a zs.length cap] 25)).heap.size ≤ W.heap.size) => Compact_own (zs.mergeSort leB) u _ W (by rw [List.length_mergeSort]; exact hs) hW hsz)
  have HB := Lib.hid hB0
  clear h bN hB0
  generalize zs.length = n at HS HC HB ⊢
  go_enter Tryz.func117, Tryz.ntmps117
  go_wp2_with (first | (go_at_call 127; refine (Values_impl _ _ _ _).mono ?_; rintro e w1 ⟨rfl, rfl⟩) | (go_at_call 126; refine HS.out.mono ?_; rintro e w2 ⟨u, rfl, hu, g2⟩; go_frame) | (go_at_call 125; refine (HC.out _ _ hu g2.size).mono ?_; rintro e w3 ⟨r, rfl, hr, g3⟩))
  go_ret
  refine ⟨_, rfl, ?_, HB.out.trans ((g2.trans g3).mono HB.out.size)⟩
  exact ⟨hr.1, by
    rcases hr.2 with hn | ⟨g, cap, cur, hv, hbg, rest⟩
    · exact .inl hn
    · exact .inr ⟨g, cap, cur, hv, Nat.le_trans HB.out.size hbg, rest⟩⟩

end Go.Proofs.YtgaggpnlimchkaaGreatDoor.B10
