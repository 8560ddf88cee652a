/- Contracts of chapter 8's functions of the program: NameOf, AtFirst, HandedDown, Kept, LookOf. -/
import Derived.Test.YtgaggpnlimchkaaGreatDoorImp8b
namespace Go.Proofs.YtgaggpnlimchkaaGreatDoor.B8
open Go.Proofs.YtgaggpnlimchkaaGreatDoor.P1 Go.Proofs.YtgaggpnlimchkaaGreatDoor.B1 Go.Proofs.YtgaggpnlimchkaaGreatDoor.B2 Go.Proofs.YtgaggpnlimchkaaGreatDoor.T1 Go.Proofs.YtgaggpnlimchkaaGreatDoor.BT Go.Proofs.YtgaggpnlimchkaaGreatDoor.P5 Go.Proofs.YtgaggpnlimchkaaGreatDoor.P6 Go.Proofs.YtgaggpnlimchkaaGreatDoor.P7 Go.Proofs.YtgaggpnlimchkaaGreatDoor.P8 Go.Proofs.YtgaggpnlimchkaaGreatDoor.B5 Go.Proofs.YtgaggpnlimchkaaGreatDoor.B6 Go.Proofs.YtgaggpnlimchkaaGreatDoor.B7 Go.Proofs.YtgaggpnlimchkaaGreatDoor.D1 Go.Proofs.YtgaggpnlimchkaaGreatDoor.S7 Go.Proofs.YtgaggpnlimchkaaGreatDoor.RI Go.Proofs.YtgaggpnlimchkaaGreatDoor.W8
open Go.ChangeShapes Go.WideShapes Go.ChangeAt Go.RowKit
set_option linter.unusedVariables false

/-- A value's cells. -/
def valL (x : Va) : List Value := [.int .i64 x.k, .int .i64 x.n, .int .i64 x.r, .int .i64 x.g, .int .i64 x.b, .int .i64 x.c, .string ⟨x.w.toArray⟩]

theorem val_wide : wideT Tryz.prog 105 7 = true := by kernel_rfl
theorem valL_one (x : Va) : (valL x).all (·.oneCell') = true := rfl

/-- The zero value's cells. -/
def zeroL : List Value := [.int .i64 0, .int .i64 0, .int .i64 0, .int .i64 0, .int .i64 0, .int .i64 0, .string ⟨#[]⟩]

/-- A trait's cells, by the look. -/
theorem trO_form (l : Int) : ∃ f g : Value, trO l = [.string ⟨(nameOf l).toArray⟩, .int .i64 (atFirst l).k, .int .i64 (atFirst l).n, .int .i64 (atFirst l).r, .int .i64 (atFirst l).g, .int .i64 (atFirst l).b, .int .i64 (atFirst l).c, .string ⟨(atFirst l).w.toArray⟩, .bool (handed l), f, g] ∧ f.oneCell' = true ∧ g.oneCell' = true := by
  by_cases h : isLook l = true
  · rcases look_cases h with rfl | rfl | rfl | rfl | rfl | rfl <;> exact ⟨_, _, rfl, rfl, rfl⟩
  · have hno : ¬ (0 ≤ l ∧ l ≤ 5) := fun h0 => h (look_iff.2 h0)
    have e1 : trO l = trOf 6 := by unfold trO; rw [if_neg h]
    have e2 : nameOf l = [] := name_none.2 (by simpa using h)
    have e3 : atFirst l = Va.zero := by unfold atFirst; rw [if_neg (by omega), if_neg (by omega), if_neg (by omega), if_neg (by omega), if_neg (by omega)]
    have e4 : handed l = false := by unfold handed; simp; omega
    rw [e1, e2, e3, e4]
    exact ⟨_, _, rfl, rfl, rfl⟩

/-- What the world is behind 't, is := traitOf(..)': the trait lies in a block of its own. -/
theorem tr_laid {w w1 : World} (vs : List Value) (hv : vs.length = 11) (h1 : vs.all (·.oneCell') = true) (g : Below w.heap.size w w1) : ∃ w2, (storeVar 155 ⟨w1.heap.size, 0, none⟩ (.agg vs.toArray)).run Tryz.prog (w1.alloc (.cells (trOf 6).toArray 155)) = .ok () w2 ∧ LBlk w2 w1.heap.size vs ∧ Below w1.heap.size w1 w2 ∧ Below w.heap.size w w2 := by
  obtain ⟨w2, hst, hz2, ho2, _⟩ := store_blk (P := Tryz.prog) (ty := 155) (LBlk.new w1 (trOf 6) 155) (by rw [hv]; exact tr_wide) (by rw [hv]; rfl) h1
  have hb : Below w1.heap.size w1 w2 := ((Below.refl _ _).alloc (Nat.le_refl _) _).trans (ho2.below (Nat.le_refl _) (by simp))
  exact ⟨w2, hst, hz2, hb, g.trans (hb.mono g.size)⟩

theorem asItIs_impl (n : Int) (w : World) : Calls Tryz.prog 180 #[.int .i64 n] w fun e w' => e = .returned (.int .i64 n) ∧ w = w' := by
  go_enter Tryz.func180, Tryz.ntmps180
  go_wp2
  go_ret
  exact ⟨rfl, rfl⟩

theorem fromZero_impl (n : Int) (w : World) : Calls Tryz.prog 179 #[.int .i64 n] w fun e w' => e = .returned (.int .i64 (max 0 n)) ∧ w = w' := by
  go_enter Tryz.func179, Tryz.ntmps179
  go_wp2
  all_goals
    go_ret
    first | (rw [show max 0 n = 0 by omega]; exact ⟨rfl, rfl⟩) | (rw [show max 0 n = n by omega]; exact ⟨rfl, rfl⟩)

theorem zeroToFull_impl (n : Int) (w : World) : Calls Tryz.prog 177 #[.int .i64 n] w fun e w' => e = .returned (.int .i64 (clip n 0 1000)) ∧ w = w' := by
  go_enter Tryz.func177, Tryz.ntmps177
  go_wp2_with (go_at_call 179; refine (fromZero_impl _ _).mono ?_; rintro e w' ⟨rfl, rfl⟩)
  all_goals
    go_ret
    first | (rw [show clip n 0 1000 = 1000 by unfold clip; omega]; exact ⟨rfl, rfl⟩) | (rw [show clip n 0 1000 = max 0 n by unfold clip; omega]; exact ⟨rfl, rfl⟩)

end Go.Proofs.YtgaggpnlimchkaaGreatDoor.B8
