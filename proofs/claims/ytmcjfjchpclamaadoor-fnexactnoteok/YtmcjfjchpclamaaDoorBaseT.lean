/- Operations on texts, and the contract of the reference's l1Int. -/
import Derived.Test.YtmcjfjchpclamaaDoorLot
import Derived.OwnWalk
import Derived.Laws.IdiomStrings
namespace Go.Proofs.YtmcjfjchpclamaaDoor.BT
open Go.Proofs.YtmcjfjchpclamaaDoor.P1 Go.Proofs.YtmcjfjchpclamaaDoor.B1 Go.Proofs.YtmcjfjchpclamaaDoor.B2 Go.Proofs.YtmcjfjchpclamaaDoor.T1
open Go.ChangeShapes Go.WideShapes Go.ChangeAt Go.RowKit
set_option linter.unusedVariables false

/-- string([]byte{d}), the byte in a block just made. -/
theorem conv1 (w : World) (d : Int) (h0 : 0 ≤ d) (h1 : d < 256) :
    (convert 99 9 (.slice (some ⟨w.heap.size, 0, none⟩) 1 1)).run Tryd.prog (w.alloc (.cells #[.int .u8 d] 5)) = .ok (.string ⟨#[UInt8.ofNat d.toNat]⟩) (w.alloc (.cells #[.int .u8 d] 5)) := by
  have hd : ((UInt8.ofNat d.toNat).toNat : Int) = d := by simp; omega
  have h := run_convert_bytes_back (P := Tryd.prog) (w.alloc (.cells #[.int .u8 d] 5)) 99 9 5 ⟨w.heap.size, 0, none⟩ 1 [UInt8.ofNat d.toNat] Tryd.underlying99 Tryd.underlying5 Tryd.underlying9 (fun j hj => by
    obtain rfl : j = 0 := by simpa using hj
    simp [Addr.add]; omega)
  exact h

/-- '+' on two texts. -/
theorem str_add (x y : List UInt8) (w : World) (h : x.length + y.length ≤ 1000000000) : (Op.stringOp .add ⟨x.toArray⟩ ⟨y.toArray⟩).run Tryd.prog w = .ok (.string ⟨(x ++ y).toArray⟩) w := by
  rw [run_string_add_sum w _ _ (by simp [ByteArray.size]; omega), ByteArray.mk_append_mk]

theorem app1 (b : UInt8) (t : List UInt8) : (ByteArray.mk #[b] ++ ByteArray.mk t.toArray) = ByteArray.mk (b :: t).toArray := ByteArray.mk_append_mk [b] t

/-- A text's byte. -/
theorem str_at (l : List UInt8) (k : Nat) (b : UInt8) (h : l[k]? = some b) (w : World) : (Instr.index 9 (.string ⟨l.toArray⟩) (.int .i64 k)).run Tryd.prog w = .ok (.int .u8 b.toNat) w := by
  obtain ⟨hk, he⟩ := List.getElem?_eq_some_iff.1 h
  rw [run_index_string (P := Tryd.prog) w 9 ⟨l.toArray⟩ .i64 k Tryd.underlying9, dif_pos (by constructor <;> simp [ByteArray.size]; omega)]
  subst he
  rfl

theorem str_len (l : List UInt8) (w : World) (t : TypeId) : (Builtin.len_ #[9] t #[.string ⟨l.toArray⟩]).run Tryd.prog w = .ok (.int .i64 l.length) w := by
  rw [run_len_string (P := Tryd.prog) w 9 t ⟨l.toArray⟩ Tryd.underlying9]
  simp [ByteArray.size, goInt]

theorem str_at0 (l : List UInt8) (c : Nat) (h : (l[0]?).map UInt8.toNat = some c) (w : World) : (Instr.index 9 (.string ⟨l.toArray⟩) (.int .i64 0)).run Tryd.prog w = .ok (.int .u8 (c : Int)) w := by
  obtain ⟨b, hb, rfl⟩ := Option.map_eq_some_iff.1 h
  exact str_at l 0 b hb w

theorem str_at1 (l : List UInt8) (c : Nat) (h : (l[1]?).map UInt8.toNat = some c) (w : World) : (Instr.index 9 (.string ⟨l.toArray⟩) (.int .i64 1)).run Tryd.prog w = .ok (.int .u8 (c : Int)) w := by
  obtain ⟨b, hb, rfl⟩ := Option.map_eq_some_iff.1 h
  exact str_at l 1 b hb w

theorem str_atN (l : List UInt8) (k c : Nat) (h : (l[k]?).map UInt8.toNat = some c) (w : World) : (Instr.index 9 (.string ⟨l.toArray⟩) (.int .i64 (k : Int))).run Tryd.prog w = .ok (.int .u8 (c : Int)) w := by
  obtain ⟨b, hb, rfl⟩ := Option.map_eq_some_iff.1 h
  exact str_at l k b hb w

theorem str_lenN (l : List UInt8) (L : Nat) (h : l.length = L) (w : World) (t : TypeId) : (Builtin.len_ #[9] t #[.string ⟨l.toArray⟩]).run Tryd.prog w = .ok (.int .i64 (L : Int)) w := h ▸ str_len l w t

theorem byte_lt (b : UInt8) : b.toNat < 256 := b.toNat_lt

/-- The last digit and the rest, whatever the sign. -/
theorem last_digit (x : Int) : ∃ k : Nat, k < 10 ∧ k = x.natAbs % 10 ∧ (0 ≤ x → x.tmod 10 = k) ∧ (x < 0 → x.tmod 10 = -(k : Int)) := by
  refine ⟨x.natAbs % 10, Nat.mod_lt _ (by decide), rfl, fun h => ?_, fun h => ?_⟩
  · rw [Int.tmod_eq_emod_of_nonneg h]; omega
  · obtain ⟨m, rfl⟩ : ∃ m : Nat, x = -(m : Int) := ⟨x.natAbs, by omega⟩
    rw [Int.neg_tmod, Int.tmod_eq_emod_of_nonneg (by omega)]; omega

theorem rest_abs (x : Int) : (x.tdiv 10).natAbs = x.natAbs / 10 := by
  rw [Int.natAbs_tdiv]; rfl

theorem itoa_neg {n : Int} (h : n < 0) : Lib.itoa n = 45 :: Lib.decDigits n.natAbs := if_pos h
theorem itoa_pos {n : Int} (h : ¬ n < 0) : Lib.itoa n = Lib.decDigits n.natAbs := by
  rw [Lib.itoa, if_neg h]; congr 1; omega

theorem shown_long {m : Nat} {t : List UInt8} {n : Nat} (h : shown m t = Lib.decDigits n) (hn : n ≤ 9223372036854775808) : t.length ≤ 20 := by
  have h1 := dec_length n 19 (Nat.lt_of_le_of_lt hn (by decide))
  rw [← h] at h1
  unfold shown at h1
  split at h1
  · exact h1
  · simp at h1; omega

theorem div_bd (x : Int) (h0 : -9223372036854775808 ≤ x) (h1 : x ≤ 9223372036854775807) : -9223372036854775808 ≤ x.tdiv 10 ∧ x.tdiv 10 ≤ 9223372036854775807 := by
  have := rest_abs x
  omega

end Go.Proofs.YtmcjfjchpclamaaDoor.BT
