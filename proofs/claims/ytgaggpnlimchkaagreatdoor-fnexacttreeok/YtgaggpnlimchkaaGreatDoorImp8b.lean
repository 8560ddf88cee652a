/- Contracts of chapter 8's functions of the program: over the traits. -/
import Derived.Test.YtgaggpnlimchkaaGreatDoorBase8
import Derived.Test.YtgaggpnlimchkaaGreatDoorImp8
import Derived.Test.YtgaggpnlimchkaaGreatDoorFound
namespace Go.Proofs.YtgaggpnlimchkaaGreatDoor.B8
open Go.Proofs.YtgaggpnlimchkaaGreatDoor.P1 Go.Proofs.YtgaggpnlimchkaaGreatDoor.B1 Go.Proofs.YtgaggpnlimchkaaGreatDoor.B2 Go.Proofs.YtgaggpnlimchkaaGreatDoor.T1 Go.Proofs.YtgaggpnlimchkaaGreatDoor.BT Go.Proofs.YtgaggpnlimchkaaGreatDoor.P5 Go.Proofs.YtgaggpnlimchkaaGreatDoor.P6 Go.Proofs.YtgaggpnlimchkaaGreatDoor.P7 Go.Proofs.YtgaggpnlimchkaaGreatDoor.P8 Go.Proofs.YtgaggpnlimchkaaGreatDoor.B5 Go.Proofs.YtgaggpnlimchkaaGreatDoor.B6 Go.Proofs.YtgaggpnlimchkaaGreatDoor.B7 Go.Proofs.YtgaggpnlimchkaaGreatDoor.D1 Go.Proofs.YtgaggpnlimchkaaGreatDoor.S7 Go.Proofs.YtgaggpnlimchkaaGreatDoor.RI Go.Proofs.YtgaggpnlimchkaaGreatDoor.W8 Go.Proofs.YtgaggpnlimchkaaGreatDoor.RC
open Go.ChangeShapes Go.WideShapes Go.ChangeAt Go.RowKit
set_option linter.unusedVariables false

theorem tr_wide : wideT Tryz.prog 155 11 = true := by kernel_rfl

theorem tr_index {l : Int} (h : isLook l = true) (w : World) : (Instr.index 168 (.agg trAll.toArray) (.int .i64 l)).run Tryz.prog w = .ok (.agg (trOf l.toNat).toArray) w := by
  rcases look_cases h with rfl | rfl | rfl | rfl | rfl | rfl <;> kernel_rfl

theorem tr_load {w : World} {b : Nat} (h : LBlk w b trAll) (k : Nat) (hk : k < 6) : (loadVar 155 ⟨b, 11 * k, none⟩).run Tryz.prog w = .ok (.agg (trOf k).toArray) w := by
  have : k = 0 ∨ k = 1 ∨ k = 2 ∨ k = 3 ∨ k = 4 ∨ k = 5 := by omega
  rcases this with rfl | rfl | rfl | rfl | rfl | rfl <;> exact load_part h tr_wide rfl

/-- The trait of a look; the zero one where there is none. -/
def trO (l : Int) : List Value := if isLook l = true then trOf l.toNat else trOf 6

theorem trOf_len (k : Nat) : (trOf k).length = 11 := by unfold trOf; split <;> rfl
theorem trOf_one (k : Nat) : (trOf k).all (·.oneCell') = true := by unfold trOf; split <;> rfl

set_option maxRecDepth 20000 in
set_option maxHeartbeats 4000000 in
theorem traitOf_impl (l : Int) (w : World) (hr : -9223372036854775808 ≤ l ∧ l ≤ 9223372036854775807) : Calls Tryz.prog 138 #[.int .i64 l] w (Ans (.tuple #[.agg (trO l).toArray, .bool (isLook l)]) w) := by
  have HT := Lib.hid (fun w' => traits_impl w')
  have HW := Lib.hid (fun w' => within_impl l 0 5 w')
  have hwi : P1.within l 0 5 = isLook l := by unfold isLook inR P1.within; rfl
  rw [hwi] at HW
  clear hwi
  have HZ := Lib.hid (fun (w1 : World) (g1 : Below (w.alloc (.cells (trOf 6).toArray 155)).heap.size (w.alloc (.cells (trOf 6).toArray 155)) w1) => (LBlk.new w (trOf 6) 155).below g1)
  by_cases h : isLook l = true
  · have HO := Lib.hid (show trO l = trOf l.toNat by unfold trO; rw [if_pos h])
    rw [h] at HW ⊢
    have HS := Lib.hid (fun (w1 : World) (hz : LBlk w1 w.heap.size (trOf 6)) => store_blk (P := Tryz.prog) (ty := 155) (vs := trOf l.toNat) hz (by rw [trOf_len]; exact tr_wide) (by rw [trOf_len, trOf_len]) (trOf_one _))
    have hix := fun w' => tr_index h w'
    clear h hr
    go_enter Tryz.func138, Tryz.ntmps138
    go_wp2_with (first | (go_at_call 147; refine (HT.out _).mono ?_; rintro e w1 ⟨rfl, g1⟩; have hz := HZ.out w1 g1; have hb' := Below.box g1; obtain ⟨w2, hst, hz2, ho2, _⟩ := HS.out w1 hz; have HZ2 := Lib.hid hz2; have HST := Lib.hid hst; clear hz2 hst hz g1) | (go_at_call 85; refine (HW.out _).mono ?_; rintro e w' ⟨rfl, rfl⟩) | ((with_reducible refine wp_store_at HST.out ?_ ?_); exact And.intro rfl (And.intro rfl (And.intro rfl rfl))))
    exact bodyPost_ret (results_wide2 (load_blk HZ2.out (by rw [trOf_len]; exact tr_wide)) rfl rfl) rfl ⟨by rw [HO.out]; rfl, hb'.trans (ho2.below (Nat.le_refl _) hb'.size)⟩
  · have HO := Lib.hid (show trO l = trOf 6 by unfold trO; rw [if_neg h])
    rw [show isLook l = false by simpa using h] at HW ⊢
    obtain ⟨w2, hst, hz2, ho2, _⟩ := store_blk (P := Tryz.prog) (ty := 155) (vs := trOf 6) (LBlk.new w (trOf 6) 155) tr_wide rfl (trOf_one 6)
    have HST : Hid ((storeVar 155 ⟨w.heap.size, 0, none⟩ (.agg (trOf 6).toArray)).run Tryz.prog (w.alloc (.cells #[.string ⟨#[]⟩, .int .i64 0, .int .i64 0, .int .i64 0, .int .i64 0, .int .i64 0, .int .i64 0, .string ⟨#[]⟩, .bool false, .nilFunc, .nilFunc] 155)) = .ok () w2) := Lib.hid hst
    have hB := ((Below.refl w.heap.size w).alloc (Nat.le_refl _) (.cells (trOf 6).toArray 155)).trans (ho2.below (Nat.le_refl _) (by simp))
    clear h hst
    go_enter Tryz.func138, Tryz.ntmps138
    go_wp2_with (first | (go_at_call 85; refine (HW.out _).mono ?_; rintro e w' ⟨rfl, rfl⟩) | ((with_reducible refine wp_store_at HST.out ?_ ?_); exact And.intro rfl (And.intro rfl (And.intro rfl rfl))))
    exact bodyPost_ret (results_wide2 (load_blk hz2 tr_wide) rfl rfl) rfl ⟨by rw [HO.out]; rfl, hB⟩

end Go.Proofs.YtgaggpnlimchkaaGreatDoor.B8
