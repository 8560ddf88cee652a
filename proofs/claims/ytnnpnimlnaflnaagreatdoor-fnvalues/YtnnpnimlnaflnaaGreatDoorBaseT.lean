/- Operations on texts, and the contract of the reference's l1Int. -/
import Derived.Test.YtnnpnimlnaflnaaGreatDoorBase2b
import Derived.Test.YtnnpnimlnaflnaaGreatDoorText
import Derived.OwnWalk
import Derived.Laws.IdiomStrings
namespace Go.Proofs.YtnnpnimlnaflnaaGreatDoor.BT
open Go.Proofs.YtnnpnimlnaflnaaGreatDoor.P1 Go.Proofs.YtnnpnimlnaflnaaGreatDoor.B1 Go.Proofs.YtnnpnimlnaflnaaGreatDoor.B2 Go.Proofs.YtnnpnimlnaflnaaGreatDoor.T1
open Go.ChangeShapes Go.WideShapes Go.ChangeAt Go.RowKit
set_option linter.unusedVariables false

/-- string([]byte{d}), the byte in a block just made. -/
theorem conv1 (w : World) (d : Int) (h0 : 0 ≤ d) (h1 : d < 256) :
    (convert 22 9 (.slice (some ⟨w.heap.size, 0, none⟩) 1 1)).run Tryz.prog (w.alloc (.cells #[.int .u8 d] 5)) = .ok (.string ⟨#[UInt8.ofNat d.toNat]⟩) (w.alloc (.cells #[.int .u8 d] 5)) := by
  have hd : ((UInt8.ofNat d.toNat).toNat : Int) = d := by simp; omega
  have h := run_convert_bytes_back (P := Tryz.prog) (w.alloc (.cells #[.int .u8 d] 5)) 22 9 5 ⟨w.heap.size, 0, none⟩ 1 [UInt8.ofNat d.toNat] Tryz.underlying22 Tryz.underlying5 Tryz.underlying9 (fun j hj => by
    obtain rfl : j = 0 := by simpa using hj
    simp [Addr.add]; omega)
  exact h

/-- '+' on two texts. -/
theorem str_add (x y : List UInt8) (w : World) (h : x.length + y.length ≤ 1000000000) : (Op.stringOp .add ⟨x.toArray⟩ ⟨y.toArray⟩).run Tryz.prog w = .ok (.string ⟨(x ++ y).toArray⟩) w := by
  rw [run_string_add_sum w _ _ (by simp [ByteArray.size]; omega), ByteArray.mk_append_mk]

theorem app1 (b : UInt8) (t : List UInt8) : (ByteArray.mk #[b] ++ ByteArray.mk t.toArray) = ByteArray.mk (b :: t).toArray := ByteArray.mk_append_mk [b] t

/-- A text's byte. -/
theorem str_at (l : List UInt8) (k : Nat) (b : UInt8) (h : l[k]? = some b) (w : World) : (Instr.index 9 (.string ⟨l.toArray⟩) (.int .i64 k)).run Tryz.prog w = .ok (.int .u8 b.toNat) w := by
  obtain ⟨hk, he⟩ := List.getElem?_eq_some_iff.1 h
  rw [run_index_string (P := Tryz.prog) w 9 ⟨l.toArray⟩ .i64 k Tryz.underlying9, dif_pos (by constructor <;> simp [ByteArray.size]; omega)]
  subst he
  rfl

theorem str_len (l : List UInt8) (w : World) (t : TypeId) : (Builtin.len_ #[9] t #[.string ⟨l.toArray⟩]).run Tryz.prog w = .ok (.int .i64 l.length) w := by
  rw [run_len_string (P := Tryz.prog) w 9 t ⟨l.toArray⟩ Tryz.underlying9]
  simp [ByteArray.size, goInt]

theorem str_at0 (l : List UInt8) (c : Nat) (h : (l[0]?).map UInt8.toNat = some c) (w : World) : (Instr.index 9 (.string ⟨l.toArray⟩) (.int .i64 0)).run Tryz.prog w = .ok (.int .u8 (c : Int)) w := by
  obtain ⟨b, hb, rfl⟩ := Option.map_eq_some_iff.1 h
  exact str_at l 0 b hb w

theorem str_at1 (l : List UInt8) (c : Nat) (h : (l[1]?).map UInt8.toNat = some c) (w : World) : (Instr.index 9 (.string ⟨l.toArray⟩) (.int .i64 1)).run Tryz.prog w = .ok (.int .u8 (c : Int)) w := by
  obtain ⟨b, hb, rfl⟩ := Option.map_eq_some_iff.1 h
  exact str_at l 1 b hb w

theorem str_atN (l : List UInt8) (k c : Nat) (h : (l[k]?).map UInt8.toNat = some c) (w : World) : (Instr.index 9 (.string ⟨l.toArray⟩) (.int .i64 (k : Int))).run Tryz.prog w = .ok (.int .u8 (c : Int)) w := by
  obtain ⟨b, hb, rfl⟩ := Option.map_eq_some_iff.1 h
  exact str_at l k b hb w

theorem str_lenN (l : List UInt8) (L : Nat) (h : l.length = L) (w : World) (t : TypeId) : (Builtin.len_ #[9] t #[.string ⟨l.toArray⟩]).run Tryz.prog w = .ok (.int .i64 (L : Int)) w := h ▸ str_len l w t

theorem byte_lt (b : UInt8) : b.toNat < 256 := b.toNat_lt

/-- The last digit and the rest, whatever the sign. -/
theorem last_digit (x : Int) : ∃ k : Nat, k < 10 ∧ k = x.natAbs % 10 ∧ (0 ≤ x → x.tmod 10 = k) ∧ (x < 0 → x.tmod 10 = -(k : Int)) := by
  refine ⟨x.natAbs % 10, Nat.mod_lt _ (by decide), rfl, fun h => ?_, fun h => ?_⟩
  · rw [Int.tmod_eq_emod_of_nonneg h]; omega
  · obtain ⟨m, rfl⟩ : ∃ m : Nat, x = -(m : Int) := ⟨x.natAbs, by omega⟩
    rw [Int.neg_tmod, Int.tmod_eq_emod_of_nonneg (by omega)]; omega

theorem rest_abs (x : Int) : (x.tdiv 10).natAbs = x.natAbs / 10 := by
  rw [Int.natAbs_tdiv]; rfl

theorem itoa_neg {n : Int} (h : n < 0) : Lib.itoa n = 45 :: Lib.decDigits n.natAbs := if_pos h
theorem itoa_pos {n : Int} (h : ¬ n < 0) : Lib.itoa n = Lib.decDigits n.natAbs := by
  rw [Lib.itoa, if_neg h]; congr 1; omega

theorem shown_long {m : Nat} {t : List UInt8} {n : Nat} (h : shown m t = Lib.decDigits n) (hn : n ≤ 9223372036854775808) : t.length ≤ 20 := by
  have h1 := dec_length n 19 (Nat.lt_of_le_of_lt hn (by decide))
  rw [← h] at h1
  unfold shown at h1
  split at h1
  · exact h1
  · simp at h1; omega

theorem div_bd (x : Int) (h0 : -9223372036854775808 ≤ x) (h1 : x ≤ 9223372036854775807) : -9223372036854775808 ≤ x.tdiv 10 ∧ x.tdiv 10 ≤ 9223372036854775807 := by
  have := rest_abs x
  omega

set_option maxRecDepth 20000 in
set_option maxHeartbeats 2000000 in
theorem Int_spec (n : Int) (w : World) (hn : I64 n) :
    Calls Tryz.prog 52 #[.int .i64 n] w (Ans (.string ⟨(Lib.itoa n).toArray⟩) w) := by
  obtain ⟨n0, n1⟩ := hn
  go_enter Tryz.func52, Tryz.ntmps52
  go_wp2
  go_loopg [0, 3] (n.natAbs + 1) (fun kx s0 s3 wr => ∃ (x : Int) (t : List UInt8), s0 = .int .i64 x ∧ s3 = .string ⟨t.toArray⟩ ∧ -9223372036854775808 ≤ x ∧ x ≤ 9223372036854775807 ∧ Hid (shown x.natAbs t = Lib.decDigits n.natAbs) ∧ x.natAbs + (if t = [] then 1 else 0) ≤ kx ∧ Below w.heap.size w wr)
  case atStart => exact ⟨n, [], rfl, rfl, n0, n1, Lib.hid (shown_start _), by simp, Below.refl _ _⟩
  case round =>
    obtain ⟨x, t, rfl, rfl, x0, x1, I, hk, hB⟩ := hrel
    have hl := shown_long I.out (by omega)
    by_cases hend : x = 0 ∧ t ≠ []
    · obtain ⟨rfl, ht⟩ := hend
      have e := I.out
      rw [show (0 : Int).natAbs = 0 from rfl, shown_done ht] at e
      clear hk
      cases t with
      | nil => exact absurd rfl ht
      | cons b t =>
        clear ht
        by_cases hn : n < 0
        · have HI := Lib.hid (itoa_neg hn)
          have HE := Lib.hid e
          have hadd := fun w' => str_add [45] (b :: t) w' (by simp at hl ⊢; omega)
          clear e I
          go_wp2
          go_ret
          exact ⟨by rw [HI.out, ← HE.out]; rfl, hB⟩
        · have HI := Lib.hid (itoa_pos hn)
          have HE := Lib.hid e
          clear e I
          go_wp2
          go_ret
          exact ⟨by rw [HI.out, ← HE.out]; rfl, hB⟩
    · have hgo : x.natAbs ≠ 0 ∨ t = [] := by
        by_cases hx : x = 0
        · right
          exact Classical.byContradiction fun h => hend ⟨hx, h⟩
        · left; omega
      have HG := Lib.hid hgo
      have Hk := Lib.hid (show x.natAbs / 10 < gk by
        rcases hgo with h | h
        · omega
        · rw [if_pos h] at hk; omega)
      obtain ⟨k, k1, ek, hpos, hneg⟩ := last_digit x
      obtain ⟨v0, v1⟩ := div_bd x x0 x1
      obtain ⟨d, ed⟩ : ∃ d, d = UInt8.ofNat (48 + x.natAbs % 10) := ⟨_, rfl⟩
      have HD := Lib.hid ed
      have hcv := conv1 wr (48 + (k : Int)) (by omega) (by omega)
      rw [show (48 + (k : Int)).toNat = 48 + x.natAbs % 10 by omega, ← ed] at hcv
      clear ek ed hk hgo
      by_cases hx : x < 0
      · have hm := hneg hx
        clear hpos hneg
        by_cases hk0 : k = 0
        · subst hk0
          simp only [Int.natCast_zero, Int.neg_zero, Int.add_zero] at hm hcv
          cases t with
          | nil =>
            clear hend
            go_wp2
            go_roundg (x.natAbs / 10)
            case measure => exact Hk.out
            case rel => exact ⟨x.tdiv 10, d :: [], rfl, by first | rfl | rw [app1] | exact congrArg Value.string (app1 d []), v0, v1, Lib.hid (by rw [rest_abs, HD.out]; exact (shown_step (by first | (exact Or.inr rfl) | (exact Or.inl (by omega)))).trans I.out), by rw [rest_abs]; simp, hB.alloc hB.size _⟩
          | cons b t =>
            have hxz : ¬ x = 0 := by omega
            have hadd := fun w' => str_add [d] (b :: t) w' (by simp at hl ⊢; omega)
            clear hend
            go_wp2
            go_roundg (x.natAbs / 10)
            case measure => exact Hk.out
            case rel => exact ⟨x.tdiv 10, d :: (b :: t), rfl, by first | rfl | rw [app1] | exact congrArg Value.string (app1 d (b :: t)), v0, v1, Lib.hid (by rw [rest_abs, HD.out]; exact (shown_step (by first | (exact Or.inr rfl) | (exact Or.inl (by omega)))).trans I.out), by rw [rest_abs]; simp, hB.alloc hB.size _⟩
        · have hk1 : (0 : Int) < (k : Int) := by omega
          cases t with
          | nil =>
            clear hend
            go_wp2
            go_roundg (x.natAbs / 10)
            case measure => exact Hk.out
            case rel => exact ⟨x.tdiv 10, d :: [], rfl, by first | rfl | rw [app1] | exact congrArg Value.string (app1 d []), v0, v1, Lib.hid (by rw [rest_abs, HD.out]; exact (shown_step (by first | (exact Or.inr rfl) | (exact Or.inl (by omega)))).trans I.out), by rw [rest_abs]; simp, hB.alloc hB.size _⟩
          | cons b t =>
            have hxz : ¬ x = 0 := by omega
            have hadd := fun w' => str_add [d] (b :: t) w' (by simp at hl ⊢; omega)
            clear hend
            go_wp2
            go_roundg (x.natAbs / 10)
            case measure => exact Hk.out
            case rel => exact ⟨x.tdiv 10, d :: (b :: t), rfl, by first | rfl | rw [app1] | exact congrArg Value.string (app1 d (b :: t)), v0, v1, Lib.hid (by rw [rest_abs, HD.out]; exact (shown_step (by first | (exact Or.inr rfl) | (exact Or.inl (by omega)))).trans I.out), by rw [rest_abs]; simp, hB.alloc hB.size _⟩
      · have hm := hpos (by omega)
        clear hpos hneg
        cases t with
        | nil =>
          clear hend
          go_wp2
          go_roundg (x.natAbs / 10)
          case measure => exact Hk.out
          case rel => exact ⟨x.tdiv 10, d :: [], rfl, by first | rfl | rw [app1] | exact congrArg Value.string (app1 d []), v0, v1, Lib.hid (by rw [rest_abs, HD.out]; exact (shown_step (by first | (exact Or.inr rfl) | (exact Or.inl (by omega)))).trans I.out), by rw [rest_abs]; simp, hB.alloc hB.size _⟩
        | cons b t =>
          have hxz : ¬ x = 0 := fun h => hend ⟨h, by simp⟩
          have hadd := fun w' => str_add [d] (b :: t) w' (by simp at hl ⊢; omega)
          clear hend
          go_wp2
          go_roundg (x.natAbs / 10)
          case measure => exact Hk.out
          case rel => exact ⟨x.tdiv 10, d :: (b :: t), rfl, by first | rfl | rw [app1] | exact congrArg Value.string (app1 d (b :: t)), v0, v1, Lib.hid (by rw [rest_abs, HD.out]; exact (shown_step (by first | (exact Or.inr rfl) | (exact Or.inl (by omega)))).trans I.out), by rw [rest_abs]; simp, hB.alloc hB.size _⟩

end Go.Proofs.YtnnpnimlnaflnaaGreatDoor.BT
