/- Contracts of chapter 8's functions of the program: NameOf, AtFirst, HandedDown, Kept, LookOf. -/
import Derived.Test.YtliihnkonakacaaGreatDoorImp8b
namespace Go.Proofs.YtliihnkonakacaaGreatDoor.B8
open Go.Proofs.YtliihnkonakacaaGreatDoor.P1 Go.Proofs.YtliihnkonakacaaGreatDoor.B1 Go.Proofs.YtliihnkonakacaaGreatDoor.B2 Go.Proofs.YtliihnkonakacaaGreatDoor.T1 Go.Proofs.YtliihnkonakacaaGreatDoor.BT Go.Proofs.YtliihnkonakacaaGreatDoor.P5 Go.Proofs.YtliihnkonakacaaGreatDoor.P6 Go.Proofs.YtliihnkonakacaaGreatDoor.P7 Go.Proofs.YtliihnkonakacaaGreatDoor.P8 Go.Proofs.YtliihnkonakacaaGreatDoor.B5 Go.Proofs.YtliihnkonakacaaGreatDoor.B6 Go.Proofs.YtliihnkonakacaaGreatDoor.B7 Go.Proofs.YtliihnkonakacaaGreatDoor.D1 Go.Proofs.YtliihnkonakacaaGreatDoor.S7 Go.Proofs.YtliihnkonakacaaGreatDoor.RI Go.Proofs.YtliihnkonakacaaGreatDoor.W8
open Go.ChangeShapes Go.WideShapes Go.ChangeAt Go.RowKit
set_option linter.unusedVariables false

/-- A value's cells. -/
def valL (x : Va) : List Value := [.int .i64 x.k, .int .i64 x.n, .int .i64 x.r, .int .i64 x.g, .int .i64 x.b, .int .i64 x.c, .string ⟨x.w.toArray⟩]

theorem val_wide : wideT Tryz.prog 54 7 = true := by kernel_rfl
theorem valL_one (x : Va) : (valL x).all (·.oneCell') = true := rfl

/-- The zero value's cells. -/
def zeroL : List Value := [.int .i64 0, .int .i64 0, .int .i64 0, .int .i64 0, .int .i64 0, .int .i64 0, .string ⟨#[]⟩]

/-- A trait's cells, by the look. -/
theorem trO_form (l : Int) : ∃ f g : Value, trO l = [.string ⟨(nameOf l).toArray⟩, .int .i64 (atFirst l).k, .int .i64 (atFirst l).n, .int .i64 (atFirst l).r, .int .i64 (atFirst l).g, .int .i64 (atFirst l).b, .int .i64 (atFirst l).c, .string ⟨(atFirst l).w.toArray⟩, .bool (handed l), f, g] ∧ f.oneCell' = true ∧ g.oneCell' = true := by
  by_cases h : isLook l = true
  · rcases look_cases h with rfl | rfl | rfl | rfl | rfl | rfl <;> exact ⟨_, _, rfl, rfl, rfl⟩
  · have hno : ¬ (0 ≤ l ∧ l ≤ 5) := fun h0 => h (look_iff.2 h0)
    have e1 : trO l = trOf 6 := by unfold trO; rw [if_neg h]
    have e2 : nameOf l = [] := name_none.2 (by simpa using h)
    have e3 : atFirst l = Va.zero := by unfold atFirst; rw [if_neg (by omega), if_neg (by omega), if_neg (by omega), if_neg (by omega), if_neg (by omega)]
    have e4 : handed l = false := by unfold handed; simp; omega
    rw [e1, e2, e3, e4]
    exact ⟨_, _, rfl, rfl, rfl⟩

/-- What the world is behind 't, is := traitOf(..)': the trait lies in a block of its own. -/
theorem tr_laid {w w1 : World} (vs : List Value) (hv : vs.length = 11) (h1 : vs.all (·.oneCell') = true) (g : Below w.heap.size w w1) : ∃ w2, (storeVar 150 ⟨w1.heap.size, 0, none⟩ (.agg vs.toArray)).run Tryz.prog (w1.alloc (.cells (trOf 6).toArray 150)) = .ok () w2 ∧ LBlk w2 w1.heap.size vs ∧ Below w1.heap.size w1 w2 ∧ Below w.heap.size w w2 := by
  obtain ⟨w2, hst, hz2, ho2, _⟩ := store_blk (P := Tryz.prog) (ty := 150) (LBlk.new w1 (trOf 6) 150) (by rw [hv]; exact tr_wide) (by rw [hv]; rfl) h1
  have hb : Below w1.heap.size w1 w2 := ((Below.refl _ _).alloc (Nat.le_refl _) _).trans (ho2.below (Nat.le_refl _) (by simp))
  exact ⟨w2, hst, hz2, hb, g.trans (hb.mono g.size)⟩

set_option maxRecDepth 20000 in
set_option maxHeartbeats 4000000 in
theorem NameOf_impl (l : Int) (w : World) (hr : -9223372036854775808 ≤ l ∧ l ≤ 9223372036854775807) : Calls Tryz.prog 121 #[.int .i64 l] w (Ans (.string ⟨(nameOf l).toArray⟩) w) := by
  have HT := Lib.hid (fun w' => traitOf_impl l w' hr)
  obtain ⟨f, g, e, ef, eg⟩ := trO_form l
  rw [e] at HT
  clear e hr
  have hone : ([.string ⟨(nameOf l).toArray⟩, .int .i64 (atFirst l).k, .int .i64 (atFirst l).n, .int .i64 (atFirst l).r, .int .i64 (atFirst l).g, .int .i64 (atFirst l).b, .int .i64 (atFirst l).c, .string ⟨(atFirst l).w.toArray⟩, .bool (handed l), f, g] : List Value).all (·.oneCell') = true := by simp only [List.all_cons, List.all_nil, ef, eg]; rfl
  generalize nameOf l = nm at *
  generalize atFirst l = x at *
  generalize handed l = hd at *
  generalize isLook l = is at *
  go_enter Tryz.func121, Tryz.ntmps121
  go_wp2_with (first | (go_at_call 134; refine (HT.out _).mono ?_; rintro e w1 ⟨rfl, g1⟩; obtain ⟨w2, hst, hz2, hb1, hb2⟩ := tr_laid _ rfl hone g1; have c0 := (hz2.2 0 _ rfl).1; have HST := Lib.hid hst; clear hst hz2 hone) | (refine wpList_store_eq HST.out rfl rfl rfl rfl ?_))
  go_ret
  exact ⟨rfl, hb2⟩

theorem asItIs_impl (n : Int) (w : World) : Calls Tryz.prog 205 #[.int .i64 n] w fun e w' => e = .returned (.int .i64 n) ∧ w = w' := by
  go_enter Tryz.func205, Tryz.ntmps205
  go_wp2
  go_ret
  exact ⟨rfl, rfl⟩

theorem fromZero_impl (n : Int) (w : World) : Calls Tryz.prog 204 #[.int .i64 n] w fun e w' => e = .returned (.int .i64 (max 0 n)) ∧ w = w' := by
  go_enter Tryz.func204, Tryz.ntmps204
  go_wp2
  all_goals
    go_ret
    first | (rw [show max 0 n = 0 by omega]; exact ⟨rfl, rfl⟩) | (rw [show max 0 n = n by omega]; exact ⟨rfl, rfl⟩)

theorem zeroToFull_impl (n : Int) (w : World) : Calls Tryz.prog 202 #[.int .i64 n] w fun e w' => e = .returned (.int .i64 (clip n 0 1000)) ∧ w = w' := by
  go_enter Tryz.func202, Tryz.ntmps202
  go_wp2_with (go_at_call 204; refine (fromZero_impl _ _).mono ?_; rintro e w' ⟨rfl, rfl⟩)
  all_goals
    go_ret
    first | (rw [show clip n 0 1000 = 1000 by unfold clip; omega]; exact ⟨rfl, rfl⟩) | (rw [show clip n 0 1000 = max 0 n by unfold clip; omega]; exact ⟨rfl, rfl⟩)

end Go.Proofs.YtliihnkonakacaaGreatDoor.B8
