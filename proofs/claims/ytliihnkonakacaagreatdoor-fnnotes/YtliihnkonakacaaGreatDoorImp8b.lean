/- Contracts of chapter 8's functions of the program: over the traits. -/
import Derived.Test.YtliihnkonakacaaGreatDoorBase8
import Derived.Test.YtliihnkonakacaaGreatDoorImp8
import Derived.Test.YtliihnkonakacaaGreatDoorFound
namespace Go.Proofs.YtliihnkonakacaaGreatDoor.B8
open Go.Proofs.YtliihnkonakacaaGreatDoor.P1 Go.Proofs.YtliihnkonakacaaGreatDoor.B1 Go.Proofs.YtliihnkonakacaaGreatDoor.B2 Go.Proofs.YtliihnkonakacaaGreatDoor.T1 Go.Proofs.YtliihnkonakacaaGreatDoor.BT Go.Proofs.YtliihnkonakacaaGreatDoor.P5 Go.Proofs.YtliihnkonakacaaGreatDoor.P6 Go.Proofs.YtliihnkonakacaaGreatDoor.P7 Go.Proofs.YtliihnkonakacaaGreatDoor.P8 Go.Proofs.YtliihnkonakacaaGreatDoor.B5 Go.Proofs.YtliihnkonakacaaGreatDoor.B6 Go.Proofs.YtliihnkonakacaaGreatDoor.B7 Go.Proofs.YtliihnkonakacaaGreatDoor.D1 Go.Proofs.YtliihnkonakacaaGreatDoor.S7 Go.Proofs.YtliihnkonakacaaGreatDoor.RI Go.Proofs.YtliihnkonakacaaGreatDoor.W8 Go.Proofs.YtliihnkonakacaaGreatDoor.RC
open Go.ChangeShapes Go.WideShapes Go.ChangeAt Go.RowKit
set_option linter.unusedVariables false

theorem tr_wide : wideT Tryz.prog 150 11 = true := by kernel_rfl

theorem tr_index {l : Int} (h : isLook l = true) (w : World) : (Instr.index 181 (.agg trAll.toArray) (.int .i64 l)).run Tryz.prog w = .ok (.agg (trOf l.toNat).toArray) w := by
  rcases look_cases h with rfl | rfl | rfl | rfl | rfl | rfl <;> kernel_rfl

theorem tr_load {w : World} {b : Nat} (h : LBlk w b trAll) (k : Nat) (hk : k < 6) : (loadVar 150 ⟨b, 11 * k, none⟩).run Tryz.prog w = .ok (.agg (trOf k).toArray) w := by
  have : k = 0 ∨ k = 1 ∨ k = 2 ∨ k = 3 ∨ k = 4 ∨ k = 5 := by omega
  rcases this with rfl | rfl | rfl | rfl | rfl | rfl <;> exact load_part h tr_wide rfl

/-- The trait of a look; the zero one where there is none. -/
def trO (l : Int) : List Value := if isLook l = true then trOf l.toNat else trOf 6

theorem trOf_len (k : Nat) : (trOf k).length = 11 := by unfold trOf; split <;> rfl
theorem trOf_one (k : Nat) : (trOf k).all (·.oneCell') = true := by unfold trOf; split <;> rfl

set_option maxRecDepth 20000 in
set_option maxHeartbeats 4000000 in
theorem traitOf_impl (l : Int) (w : World) (hr : -9223372036854775808 ≤ l ∧ l ≤ 9223372036854775807) : Calls Tryz.prog 134 #[.int .i64 l] w (Ans (.tuple #[.agg (trO l).toArray, .bool (isLook l)]) w) := by
  have HT := Lib.hid (fun w' => traits_impl w')
  have HW := Lib.hid (fun w' => within_impl l 0 5 w')
  have hwi : P1.within l 0 5 = isLook l := by unfold isLook inR P1.within; rfl
  rw [hwi] at HW
  clear hwi
  have HZ := Lib.hid (fun (w1 : World) (g1 : Below (w.alloc (.cells (trOf 6).toArray 150)).heap.size (w.alloc (.cells (trOf 6).toArray 150)) w1) => (LBlk.new w (trOf 6) 150).below g1)
  by_cases h : isLook l = true
  · have HO := Lib.hid (show trO l = trOf l.toNat by unfold trO; rw [if_pos h])
    rw [h] at HW ⊢
    have HS := Lib.hid (fun (w1 : World) (hz : LBlk w1 w.heap.size (trOf 6)) => store_blk (P := Tryz.prog) (ty := 150) (vs := trOf l.toNat) hz (by rw [trOf_len]; exact tr_wide) (by rw [trOf_len, trOf_len]) (trOf_one _))
    have hix := fun w' => tr_index h w'
    clear h hr
    go_enter Tryz.func134, Tryz.ntmps134
    go_wp2_with (first | (go_at_call 171; refine (HT.out _).mono ?_; rintro e w1 ⟨rfl, g1⟩; have hz := HZ.out w1 g1; have hb' := Below.box g1; obtain ⟨w2, hst, hz2, ho2, _⟩ := HS.out w1 hz; have HZ2 := Lib.hid hz2; have HST := Lib.hid hst; clear hz2 hst hz g1) | (go_at_call 55; refine (HW.out _).mono ?_; rintro e w' ⟨rfl, rfl⟩) | ((with_reducible refine wp_store_at HST.out ?_ ?_); exact And.intro rfl (And.intro rfl (And.intro rfl rfl))))
    exact bodyPost_ret (results_wide2 (load_blk HZ2.out (by rw [trOf_len]; exact tr_wide)) rfl rfl) rfl ⟨by rw [HO.out]; rfl, hb'.trans (ho2.below (Nat.le_refl _) hb'.size)⟩
  · have HO := Lib.hid (show trO l = trOf 6 by unfold trO; rw [if_neg h])
    rw [show isLook l = false by simpa using h] at HW ⊢
    obtain ⟨w2, hst, hz2, ho2, _⟩ := store_blk (P := Tryz.prog) (ty := 150) (vs := trOf 6) (LBlk.new w (trOf 6) 150) tr_wide rfl (trOf_one 6)
    have HST : Hid ((storeVar 150 ⟨w.heap.size, 0, none⟩ (.agg (trOf 6).toArray)).run Tryz.prog (w.alloc (.cells #[.string ⟨#[]⟩, .int .i64 0, .int .i64 0, .int .i64 0, .int .i64 0, .int .i64 0, .int .i64 0, .string ⟨#[]⟩, .bool false, .nilFunc, .nilFunc] 150)) = .ok () w2) := Lib.hid hst
    have hB := ((Below.refl w.heap.size w).alloc (Nat.le_refl _) (.cells (trOf 6).toArray 150)).trans (ho2.below (Nat.le_refl _) (by simp))
    clear h hst
    go_enter Tryz.func134, Tryz.ntmps134
    go_wp2_with (first | (go_at_call 55; refine (HW.out _).mono ?_; rintro e w' ⟨rfl, rfl⟩) | ((with_reducible refine wp_store_at HST.out ?_ ?_); exact And.intro rfl (And.intro rfl (And.intro rfl rfl))))
    exact bodyPost_ret (results_wide2 (load_blk hz2 tr_wide) rfl rfl) rfl ⟨by rw [HO.out]; rfl, hB⟩

end Go.Proofs.YtliihnkonakacaaGreatDoor.B8
