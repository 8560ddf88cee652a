/- Contracts of chapter 8's functions of the program: over the traits. -/
import Derived.Test.YtjgfbbjecbeipaaGreatDoorBase8
import Derived.Test.YtjgfbbjecbeipaaGreatDoorImp8
import Derived.Test.YtjgfbbjecbeipaaGreatDoorWide
namespace Go.Proofs.YtjgfbbjecbeipaaGreatDoor.B8
open Go.Proofs.YtjgfbbjecbeipaaGreatDoor.P1 Go.Proofs.YtjgfbbjecbeipaaGreatDoor.B1 Go.Proofs.YtjgfbbjecbeipaaGreatDoor.B2 Go.Proofs.YtjgfbbjecbeipaaGreatDoor.T1 Go.Proofs.YtjgfbbjecbeipaaGreatDoor.BT Go.Proofs.YtjgfbbjecbeipaaGreatDoor.P5 Go.Proofs.YtjgfbbjecbeipaaGreatDoor.P6 Go.Proofs.YtjgfbbjecbeipaaGreatDoor.P7 Go.Proofs.YtjgfbbjecbeipaaGreatDoor.P8 Go.Proofs.YtjgfbbjecbeipaaGreatDoor.B5 Go.Proofs.YtjgfbbjecbeipaaGreatDoor.B6 Go.Proofs.YtjgfbbjecbeipaaGreatDoor.B7 Go.Proofs.YtjgfbbjecbeipaaGreatDoor.D1 Go.Proofs.YtjgfbbjecbeipaaGreatDoor.S7 Go.Proofs.YtjgfbbjecbeipaaGreatDoor.RI Go.Proofs.YtjgfbbjecbeipaaGreatDoor.W8
open Go.ChangeShapes Go.WideShapes Go.ChangeAt Go.RowKit
set_option linter.unusedVariables false

theorem tr_wide : wideT Tryz.prog 48 11 = true := by kernel_rfl

theorem tr_load {w : World} {b : Nat} (h : LBlk w b trAll) (k : Nat) (hk : k < 6) : (loadVar 48 ⟨b, 11 * k, none⟩).run Tryz.prog w = .ok (.agg (trOf k).toArray) w := by
  have : k = 0 ∨ k = 1 ∨ k = 2 ∨ k = 3 ∨ k = 4 ∨ k = 5 := by omega
  rcases this with rfl | rfl | rfl | rfl | rfl | rfl <;> exact load_part h tr_wide rfl

/-- The trait of a look; the zero one where there is none. -/
def trO (l : Int) : List Value := if isLook l = true then trOf l.toNat else trOf 6

theorem trOf_len (k : Nat) : (trOf k).length = 11 := by unfold trOf; split <;> rfl
theorem trOf_one (k : Nat) : (trOf k).all (·.oneCell') = true := by unfold trOf; split <;> rfl

set_option maxRecDepth 20000 in
set_option maxHeartbeats 4000000 in
theorem traitOf_impl (l : Int) (w : World) (hr : -9223372036854775808 ≤ l ∧ l ≤ 9223372036854775807) : Calls Tryz.prog 33 #[.int .i64 l] w (Ans (.tuple #[.agg (trO l).toArray, .bool (isLook l)]) w) := by
  have HT := Lib.hid (fun w' => traits_impl w')
  have HW := Lib.hid (fun w' => within_impl l 0 5 w')
  have hwi : P1.within l 0 5 = isLook l := by unfold isLook inR P1.within; rfl
  rw [hwi] at HW
  clear hwi
  have HZ := Lib.hid (fun (w1 : World) (g1 : Below (w.alloc (.cells (trOf 6).toArray 48)).heap.size (w.alloc (.cells (trOf 6).toArray 48)) w1) => (LBlk.new w (trOf 6) 48).below g1)
  by_cases h : isLook l = true
  · have HO := Lib.hid (show trO l = trOf l.toNat by unfold trO; rw [if_pos h])
    rw [h] at HW ⊢
    have HS := Lib.hid (fun (w1 : World) (hz : LBlk w1 w.heap.size (trOf 6)) => store_blk (P := Tryz.prog) (ty := 48) (vs := trOf l.toNat) hz (by rw [trOf_len]; exact tr_wide) (by rw [trOf_len, trOf_len]) (trOf_one _))
    rcases look_cases h with rfl | rfl | rfl | rfl | rfl | rfl
    all_goals
      clear h hr
      go_enter Tryz.func33, Tryz.ntmps33
      go_wp2_with (first | (go_at_call 31; refine (HT.out _).mono ?_; rintro e w1 ⟨b, rfl, hb, hl, g1⟩; have hz := HZ.out w1 g1; have hb' := Below.box g1; obtain ⟨w2, hst, hz2, ho2, _⟩ := HS.out w1 hz; have HL := Lib.hid hl; have HZ2 := Lib.hid hz2; have HST := Lib.hid hst; clear hl hz2 hst hz g1) | (go_at_call 61; refine (HW.out _).mono ?_; rintro e w' ⟨rfl, rfl⟩) | (refine wpList_load_eq (tr_load HL.out 0 (by decide)) rfl rfl rfl ?_) | (refine wpList_load_eq (tr_load HL.out 1 (by decide)) rfl rfl rfl ?_) | (refine wpList_load_eq (tr_load HL.out 2 (by decide)) rfl rfl rfl ?_) | (refine wpList_load_eq (tr_load HL.out 3 (by decide)) rfl rfl rfl ?_) | (refine wpList_load_eq (tr_load HL.out 4 (by decide)) rfl rfl rfl ?_) | (refine wpList_load_eq (tr_load HL.out 5 (by decide)) rfl rfl rfl ?_) | (refine wpList_store_eq HST.out rfl rfl rfl rfl ?_))
      exact bodyPost_ret (results_wide2 (load_blk HZ2.out (by rw [trOf_len]; exact tr_wide)) rfl rfl) rfl ⟨by rw [HO.out]; rfl, hb'.trans (ho2.below (Nat.le_refl _) hb'.size)⟩
  · have HO := Lib.hid (show trO l = trOf 6 by unfold trO; rw [if_neg h])
    rw [show isLook l = false by simpa using h] at HW ⊢
    have HS := Lib.hid (fun (w1 : World) (hz : LBlk w1 w.heap.size (trOf 6)) => store_blk (P := Tryz.prog) (ty := 48) (vs := trOf 6) hz tr_wide rfl (trOf_one 6))
    clear h
    go_enter Tryz.func33, Tryz.ntmps33
    go_wp2_with (first | (go_at_call 31; refine (HT.out _).mono ?_; rintro e w1 ⟨b, rfl, hb, hl, g1⟩; have hz := HZ.out w1 g1; have hb' := Below.box g1; obtain ⟨w2, hst, hz2, ho2, _⟩ := HS.out w1 hz; have HZ2 := Lib.hid hz2; have HST := Lib.hid hst; clear hz2 hst hz g1 hl) | (go_at_call 61; refine (HW.out _).mono ?_; rintro e w' ⟨rfl, rfl⟩) | (refine wpList_store_eq HST.out rfl rfl rfl rfl ?_))
    exact bodyPost_ret (results_wide2 (load_blk HZ2.out tr_wide) rfl rfl) rfl ⟨by rw [HO.out]; rfl, hb'.trans (ho2.below (Nat.le_refl _) hb'.size)⟩

end Go.Proofs.YtjgfbbjecbeipaaGreatDoor.B8
