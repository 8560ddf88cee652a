/- strconv.ParseInt of two digits of sixteen. -/
import Derived.Test.YtliihnkonakacaaGreatDoorImp6b
import Derived.Test.YtliihnkonakacaaGreatDoorFound
namespace Go.Proofs.YtliihnkonakacaaGreatDoor.V6
open Go.Proofs.YtliihnkonakacaaGreatDoor.P1 Go.Proofs.YtliihnkonakacaaGreatDoor.B1 Go.Proofs.YtliihnkonakacaaGreatDoor.B2 Go.Proofs.YtliihnkonakacaaGreatDoor.T1 Go.Proofs.YtliihnkonakacaaGreatDoor.BT Go.Proofs.YtliihnkonakacaaGreatDoor.P5 Go.Proofs.YtliihnkonakacaaGreatDoor.P6 Go.Proofs.YtliihnkonakacaaGreatDoor.B5 Go.Proofs.YtliihnkonakacaaGreatDoor.B6 Go.Proofs.YtliihnkonakacaaGreatDoor.S7 Go.Proofs.YtliihnkonakacaaGreatDoor.D1 Go.Proofs.YtliihnkonakacaaGreatDoor.DB
open Go.ChangeShapes Go.WideShapes Go.ChangeAt Go.RowKit
set_option linter.unusedVariables false

theorem lower_lib (c : Int) (w : World) (h0 : 97 ≤ c) (h1 : c ≤ 102) :
    Calls Tryz.prog 235 #[.int .u8 c] w fun e w' => e = .returned (.int .u8 c) ∧ w = w' := by
  have : c = 97 ∨ c = 98 ∨ c = 99 ∨ c = 100 ∨ c = 101 ∨ c = 102 := by omega
  rcases this with rfl | rfl | rfl | rfl | rfl | rfl
  all_goals
    go_enter Tryz.func235, Tryz.ntmps235
    go_wp2
    go_ret
    exact ⟨rfl, rfl⟩

/-- A digit of sixteen, as a number. -/
def digN (b : UInt8) : Nat := if b.toNat ≤ 57 then b.toNat - 48 else b.toNat - 87

theorem digN_is {b : UInt8} (h : isHex b = true) : (digN b : Int) = digOf b ∧ digN b ≤ 15 := by
  simp only [isHex, isDigit, Bool.or_eq_true, Bool.and_eq_true, decide_eq_true_eq] at h
  unfold digN digOf
  split <;> omega

def acc (x y : UInt8) (i : Nat) : Nat := if i = 0 then 0 else if i = 1 then digN x else 16 * digN x + digN y

set_option maxRecDepth 100000 in
set_option maxHeartbeats 4000000 in
theorem ParseUint_16 (x y : UInt8) (gx : isHex x = true) (gy : isHex y = true) (w : World) :
    Calls Tryz.prog 217 #[.string ⟨#[x, y]⟩, .int .i64 16, .int .i64 64] w (Ans (.tuple #[.int .u64 ((16 * digN x + digN y : Nat) : Int), .nilIface]) w) := by
  have hne : ([x, y] == ([] : List UInt8)) = false := rfl
  obtain ⟨C, W1, o, hconv0, hW, hbt⟩ := bytes_of w [x, y] (by simp)
  have hconv : (convert 9 22 (.string ⟨#[x, y]⟩)).run Tryz.prog w = .ok (.slice (some ⟨w.heap.size, 0, none⟩) 2 C) W1 := hconv0
  have hC : (2 : Int) ≤ (C : Int) := by have := hbt.2.2.1; simp at this; omega
  have hCm : (C : Int) ≤ 9223372036854775807 := by have := hbt.2.2.2.1; simp only [maxLen] at this; omega
  have HB := Lib.hid hbt
  have HW := Lib.hid (show Below w.heap.size w W1 by
    rw [hW]
    have h := (Below.refl w.heap.size w).alloc (Nat.le_refl _) o
    exact ⟨h.os, h.tape, h.output, h.size, h.block⟩)
  have GX := Lib.hid (show ∀ b ∈ [x, y], isHex b = true by simp; exact ⟨gx, gy⟩)
  have HA := Lib.hid (show acc x y 2 = 16 * digN x + digN y from rfl)
  have HS := Lib.hid (show ∀ i b, [x, y][i]? = some b → acc x y (i + 1) = 16 * acc x y i + digN b from fun i b h => by
    match i, h with
    | 0, h => obtain rfl := Option.some.inj h; simp [acc]
    | 1, h => obtain rfl := Option.some.inj h; simp [acc])
  have HM := Lib.hid (show ∀ i, i ≤ 2 → acc x y i ≤ 255 from fun i hi => by
    have h1 := (digN_is gx).2
    have h2 := (digN_is gy).2
    unfold acc
    split
    · omega
    · split <;> omega)
  have hmx : IntKind.u64.wrap (IntKind.u64.wrap 18446744073709551616 - 1) = 18446744073709551615 := by decide
  clear hconv0 hW hbt gx gy
  go_enter Tryz.func217, Tryz.ntmps217
  go_wp2
  go_loopg [12, 13, 101] 2 (fun kx s12 s13 s101 wr => ∃ (i : Nat) (m : Int), s12 = .bool false ∧ s13 = .int .u64 m ∧ s101 = .int .i64 (i : Int) ∧ kx + i = 2 ∧ Hid (m = (acc x y i : Int)) ∧ 0 ≤ m ∧ m ≤ 255 ∧ wr = W1)
  case atStart => exact ⟨0, 0, rfl, rfl, rfl, by omega, Lib.hid rfl, by omega, by omega, rfl⟩
  case round =>
    obtain ⟨i, m, rfl, rfl, rfl, hk, I, hm0, hm1, rfl⟩ := hrel
    by_cases hlt : i < 2
    · have hlt' : (i : Int) < 2 := by omega
      have i0' : (0 : Int) ≤ (i : Int) := by omega
      obtain ⟨b, hx⟩ : ∃ b, [x, y][i]? = some b := ⟨_, List.getElem?_eq_getElem hlt⟩
      have hg := GX.out b (List.mem_of_getElem? hx)
      have hcell := (HB.out.2.2.2.2 i b hx).1
      have hdn := (digN_is hg).2
      obtain ⟨d, ed⟩ : ∃ d : Int, (digN b : Int) = d := ⟨_, rfl⟩
      have HI := Lib.hid (show 16 * m + d = (acc x y (i + 1) : Int) by rw [HS.out i b hx, I.out, ← ed]; simp)
      have HL := Lib.hid (HM.out (i + 1) (by omega))
      have hnx0 : 0 ≤ 16 * m + d := by omega
      have hnx : 16 * m + d ≤ 255 := by have := HL.out; rw [HI.out]; omega
      obtain ⟨q, eq⟩ : ∃ q : Int, (b.toNat : Int) = q := ⟨_, rfl⟩
      have hr : (48 ≤ q ∧ q ≤ 57 ∧ q - 48 = d) ∨ (97 ≤ q ∧ q ≤ 102 ∧ q - 87 = d) := by
        simp only [isHex, isDigit, Bool.or_eq_true, Bool.and_eq_true, decide_eq_true_eq] at hg
        unfold digN at ed
        rcases hg with h | h
        · rw [if_pos h.2] at ed; omega
        · rw [if_neg (by omega)] at ed; omega
      rw [eq] at hcell
      have d0 : 0 ≤ d := by omega
      have d15 : d ≤ 15 := by omega
      have w16 : IntKind.u64.wrap (m * 16) = 16 * m := by rw [IntKind.wrap_u64]; omega
      have wd : IntKind.u64.wrap d = d := by rw [IntKind.wrap_u64]; omega
      have wn : IntKind.u64.wrap (16 * m + d) = 16 * m + d := by rw [IntKind.wrap_u64]; omega
      have hge : ¬ (1152921504606846976 : Int) ≤ m := by omega
      have hl1 : ¬ 16 * m + d < 16 * m := by omega
      have hl2 : ¬ (18446744073709551615 : Int) < 16 * m + d := by omega
      have hd16 : ¬ (16 : Int) ≤ d := by omega
      have HQ := Lib.hid (fun (h0 : 97 ≤ q) (h1 : q ≤ 102) w' => lower_lib q w' h0 h1)
      clear hx ed eq hg hdn
      rcases hr with ⟨r0, r1, hdq⟩ | ⟨r0, r1, hdq⟩
      · have e95 : (q == 95) = false := by simp; omega
        have wq : IntKind.u8.wrap (q - 48) = d := by rw [IntKind.wrap_u8]; omega
        clear hdq
        go_wp2_with fail
        go_roundg (2 - (i + 1))
        case measure => omega
        case rel => exact ⟨i + 1, 16 * m + d, rfl, rfl, by go_num, by omega, HI, hnx0, hnx, rfl⟩
      · have e48 : 48 ≤ q := by omega
        have e57 : ¬ q ≤ 57 := by omega
        have e122 : q ≤ 122 := by omega
        have e95 : (q == 95) = false := by simp; omega
        obtain ⟨z, ez⟩ : ∃ z : Int, q - 97 = z := ⟨_, rfl⟩
        have wq : IntKind.u8.wrap (q - 97) = z := by rw [IntKind.wrap_u8]; omega
        have wq2 : IntKind.u8.wrap (z + 10) = d := by rw [IntKind.wrap_u8]; omega
        have HLq := Lib.hid (HQ.out r0 r1)
        clear hdq ez
        go_wp2_with fail
        refine (HLq.out _).mono ?_
        rintro e w2 ⟨rfl, rfl⟩
        go_wp2_with fail
        refine (HLq.out _).mono ?_
        rintro e w2 ⟨rfl, rfl⟩
        go_wp2_with fail
        refine (HLq.out _).mono ?_
        rintro e w2 ⟨rfl, rfl⟩
        go_wp2_with fail
        go_roundg (2 - (i + 1))
        case measure => omega
        case rel => exact ⟨i + 1, 16 * m + d, rfl, rfl, by go_num, by omega, HI, hnx0, hnx, rfl⟩
    · have hlt' : ¬ (i : Int) < 2 := by omega
      obtain rfl : i = 2 := by omega
      have HE := Lib.hid (show m = ((16 * digN x + digN y : Nat) : Int) by rw [I.out, HA.out])
      go_wp2_with fail
      exact bodyPost_ret (v := .tuple #[.int .u64 ((16 * digN x + digN y : Nat) : Int), .nilIface]) (by rw [← HE.out]; simp [results, Tryz.results217, go_sem]) rfl ⟨rfl, HW.out⟩

set_option maxRecDepth 100000 in
set_option maxHeartbeats 4000000 in
theorem ParseIntI_16 (x y : UInt8) (gx : isHex x = true) (gy : isHex y = true) (w : World) :
    Calls Tryz.prog 195 #[.string ⟨#[x, y]⟩, .int .i64 16, .int .i64 64] w (Ans (.tuple #[.int .i64 ((16 * digN x + digN y : Nat) : Int), .nilIface]) w) := by
  have HU := Lib.hid (fun w' => ParseUint_16 x y gx gy w')
  have h1 := (digN_is gx).2
  have h2 := (digN_is gy).2
  obtain ⟨n, en⟩ : ∃ n : Int, ((16 * digN x + digN y : Nat) : Int) = n := ⟨_, rfl⟩
  rw [en] at HU ⊢
  have hn0 : 0 ≤ n := by omega
  have hn : n ≤ 255 := by omega
  have hne : ([x, y] == ([] : List UInt8)) = false := rfl
  obtain ⟨q, eq⟩ : ∃ q, x.toNat = q := ⟨_, rfl⟩
  have hat := fun w' => str_at0 [x, y] q (by simp [eq]) w'
  have hq : 48 ≤ q := by
    simp only [isHex, isDigit, Bool.or_eq_true, Bool.and_eq_true, decide_eq_true_eq] at gx
    omega
  have q43 : ((q : Int) == 43) = false := by simp; omega
  have q45 : ((q : Int) == 45) = false := by simp; omega
  have hcut : ¬ (9223372036854775808 : Int) ≤ n := by omega
  have hw : IntKind.i64.wrap n = n := by rw [IntKind.wrap_i64]; omega
  clear gx gy h1 h2 en eq hq
  go_enter Tryz.func195, Tryz.ntmps195
  go_wp2_with (go_at_call 217; refine (HU.out _).mono ?_; rintro e w1 ⟨rfl, g1⟩)
  exact bodyPost_ret (v := .tuple #[.int .i64 n, .nilIface]) (by simp [results, Tryz.results195, go_sem]) rfl ⟨rfl, g1⟩

set_option maxRecDepth 100000 in
set_option maxHeartbeats 2000000 in
theorem ParseInt_16 (x y : UInt8) (gx : isHex x = true) (gy : isHex y = true) (w : World) :
    Calls Tryz.prog 162 #[.string ⟨#[x, y]⟩, .int .i64 16, .int .i64 64] w (Ans (.tuple #[.int .i64 ((16 * digN x + digN y : Nat) : Int), .nilIface]) w) := by
  have HU := Lib.hid (fun w' => ParseIntI_16 x y gx gy w')
  obtain ⟨n, en⟩ : ∃ n, 16 * digN x + digN y = n := ⟨_, rfl⟩
  rw [en] at HU ⊢
  clear gx gy en
  go_enter Tryz.func162, Tryz.ntmps162
  go_wp2_with (go_at_call 195; refine (HU.out _).mono ?_; rintro e w1 ⟨rfl, g1⟩)
  exact bodyPost_ret (v := .tuple #[.int .i64 (n : Int), .nilIface]) (by simp [results, Tryz.results162, go_sem]) rfl ⟨rfl, g1⟩

end Go.Proofs.YtliihnkonakacaaGreatDoor.V6
