/- The ground: contracts of chapters 1 and 2, the draws' cursor, local blocks, texts, regions that draw their order, wide records. -/
import Derived.Test.YtgaggpnlimchkaaGreatDoorRows
import Derived.Test.YtgaggpnlimchkaaGreatDoorPlain
import Derived.WalkKit
import Derived.ProofKit
import Derived.OpenShut
import Derived.Lib.Hide
import Derived.WalkSpells
import Derived.Deep.QuietTactic
import Derived.BigQuiet
import Derived.WalkLawsBesides
import Derived.Below
import Derived.Deep.RegionWith
import Derived.ChangeOld
import Derived.Lib.SmallJoins
import Derived.Deep.DeepCutAuto
import Derived.Deep.RegionHeld3
import Derived.Deep.LoopGhost
import Derived.Laws.StructEq
import Derived.Laws.Tables
import Derived.Laws.Cover2
import Derived.KernelRfl
import Derived.OwnWalk
import Derived.Laws.IdiomStrings
import Derived.Maps.AppendAt
import Derived.Deep.RegionLaw
import Derived.Orders
import Derived.Laws.Rows
import Derived.Laws.Cells
import Derived.Laws.ResultCell
namespace Go.Proofs.YtgaggpnlimchkaaGreatDoor.B1
open Go.Proofs.YtgaggpnlimchkaaGreatDoor.P1
open Go.ChangeShapes Go.WideShapes Go.ChangeAt Go.RowKit
set_option linter.unusedVariables false

/-- An int64 fits. -/
def I64 (n : Int) : Prop := -9223372036854775808 ≤ n ∧ n ≤ 9223372036854775807

theorem i64_of_wf {n : Int} (h : (Lit.int .i64 n).wf = true) : I64 n := by
  have := bounds_i64 h
  unfold I64; omega

theorem within_impl (n lo hi : Int) (w : World) :
    Calls Tryz.prog 85 #[.int .i64 n, .int .i64 lo, .int .i64 hi] w fun e w' => e = .returned (.bool (within n lo hi)) ∧ w = w' := by
  by_cases h1 : lo ≤ n <;> by_cases h2 : n ≤ hi
  all_goals
    have Hf := Lib.hid (show within n lo hi = (decide (lo ≤ n) && decide (n ≤ hi)) from rfl)
    go_enter Tryz.func85, Tryz.ntmps85
    go_wp2
    go_ret
    exact ⟨by rw [Hf.out]; simp [h1, h2], rfl⟩

theorem in_spec (n lo hi : Int) (w : World) :
    Calls Tryz.prog 55 #[.int .i64 n, .int .i64 lo, .int .i64 hi] w fun e w' => e = .returned (.bool (within n lo hi)) ∧ w = w' := by
  by_cases h1 : lo ≤ n <;> by_cases h2 : n ≤ hi
  all_goals
    have Hf := Lib.hid (show within n lo hi = (decide (lo ≤ n) && decide (n ≤ hi)) from rfl)
    go_enter Tryz.func55, Tryz.ntmps55
    go_wp2
    go_ret
    exact ⟨by rw [Hf.out]; simp [h1, h2], rfl⟩

theorem partOf_out {n all : Int} (h : within all 1 1000000000 = false ∨ within n 0 all = false) : partOf n all = -1 := by
  unfold partOf; rw [if_neg]; rcases h with h | h <;> simp [h]

theorem partOf_in {n all : Int} (h : within all 1 1000000000 = true) (h' : within n 0 all = true) : partOf n all = 65536 * n / all := by
  unfold partOf; rw [if_pos ⟨h, h'⟩]

theorem other_in {p : Int} (h : within p 0 65536 = true) : other p = 65536 - p := by unfold other; rw [if_pos h]
theorem other_out {p : Int} (h : within p 0 65536 = false) : other p = -1 := by unfold other; rw [if_neg (by simp [h])]

theorem between_out {a b p : Int} (h : within a (-1000000000) 1000000000 = false ∨ within b (-1000000000) 1000000000 = false ∨ within p (-131072) 196608 = false) : between a b p = 0 := by
  unfold between; rw [if_neg]; rcases h with h | h | h <;> simp [h]

theorem between_in {a b p : Int} (h1 : within a (-1000000000) 1000000000 = true) (h2 : within b (-1000000000) 1000000000 = true) (h3 : within p (-131072) 196608 = true) : between a b p = a + ((b - a) * p) / 65536 := by
  unfold between; rw [if_pos ⟨h1, h2, h3⟩]

/-- |x| at most m, |y| at most k: |x y| at most m k. -/
theorem mul_bd {x y m k : Int} (h1 : -m ≤ x) (h2 : x ≤ m) (h3 : -k ≤ y) (h4 : y ≤ k) (hm : 0 ≤ m) (hk : 0 ≤ k) : -(m * k) ≤ x * y ∧ x * y ≤ m * k := by
  have a : x.natAbs ≤ m.toNat := by omega
  have b : y.natAbs ≤ k.toNat := by omega
  have c := Nat.mul_le_mul a b
  rw [← Int.natAbs_mul] at c
  have d : ((m.toNat * k.toNat : Nat) : Int) = m * k := by rw [Int.natCast_mul, Int.toNat_of_nonneg hm, Int.toNat_of_nonneg hk]
  omega

end Go.Proofs.YtgaggpnlimchkaaGreatDoor.B1

namespace Go.Proofs.YtgaggpnlimchkaaGreatDoor.D1
open Go.Proofs.YtgaggpnlimchkaaGreatDoor.P1 Go.Proofs.YtgaggpnlimchkaaGreatDoor.B1
open Go.ChangeShapes Go.WideShapes Go.ChangeAt Go.RowKit
set_option linter.unusedVariables false

/-- Only block c of what was there has turned. -/
structure Only (c : Nat) (w w' : World) : Prop where
  os : w'.os = w.os
  tape : w'.tape = w.tape
  output : w'.output = w.output
  size : w.heap.size ≤ w'.heap.size
  block : ∀ k, k ≠ c → k < w.heap.size → w'.heap[k]? = w.heap[k]?

theorem Only.refl (c : Nat) (w : World) : Only c w w := ⟨rfl, rfl, rfl, Nat.le_refl _, fun _ _ _ => rfl⟩
theorem Only.trans {k : Nat} {a b c : World} (h : Only k a b) (g : Only k b c) : Only k a c :=
  ⟨g.os.trans h.os, g.tape.trans h.tape, g.output.trans h.output, Nat.le_trans h.size g.size, fun i hi hs => (g.block i hi (Nat.lt_of_lt_of_le hs h.size)).trans (h.block i hi hs)⟩
theorem Only.drew {k : Nat} {a w : World} (h : Only k a w) : Only k a w.drew := ⟨h.os, h.tape, h.output, h.size, h.block⟩
theorem Only.below {B c : Nat} {w w' : World} (h : Only c w w') (hB : B ≤ c) (hs : B ≤ w.heap.size) : Below B w w' :=
  ⟨h.os, h.tape, h.output, h.size, fun k hk => h.block k (by omega) (by omega)⟩
theorem Only.setCell {c : Nat} {a w : World} (h : Only c a w) {p : Addr} (hp : p.block = c) (u : Value) : Only c a (w.setCell p u) :=
  h.trans ⟨rfl, rfl, rfl, by simp [World.setCell], fun k hk _ => Below.heap_setCell _ _ _ _ (by omega)⟩

/-- The bytes that came in: readable below the length, in another block than c. -/
def Bytes (w : World) (c : Nat) (a : Option Addr) (len : Nat) : Prop :=
  len ≤ 4096 ∧ ∀ i, i < len → ∃ b off n, a = some ⟨b, off, none⟩ ∧ b < w.heap.size ∧ b ≠ c ∧ w.cell? ⟨b, off + i, none⟩ = some (.int .u8 n) ∧ 0 ≤ n ∧ n ≤ 255

/-- A cursor in block c: its bytes, its place, its number. -/
structure Cur (w : World) (c : Nat) (a : Option Addr) (len cap : Nat) : Prop where
  lt : c < w.heap.size
  cell0 : w.cell? ⟨c, 0, none⟩ = some (.slice a len cap)
  cell1 : ∃ i : Nat, i ≤ len ∧ w.cell? ⟨c, 1, none⟩ = some (.int .i64 i)
  cell2 : ∃ h : Int, w.cell? ⟨c, 2, none⟩ = some (.int .i64 h)
  fr1 : w.frozen? ⟨c, 1, none⟩ = false
  fr2 : w.frozen? ⟨c, 2, none⟩ = false
  bytes : Bytes w c a len

theorem Bytes.setCell {w : World} {c : Nat} {a : Option Addr} {len : Nat} (h : Bytes w c a len) (o : Nat) (v : Value) : Bytes (w.setCell ⟨c, o, none⟩ v) c a len := by
  refine ⟨h.1, fun i hi => ?_⟩
  obtain ⟨b, off, n, ha, hb, hne, hc, h0, h1⟩ := h.2 i hi
  refine ⟨b, off, n, ha, by simpa [World.setCell] using hb, hne, ?_, h0, h1⟩
  rw [World.cell?_setCell_other _ _ _ _ (by intro e; exact hne (by injection e with e1 _ _; exact e1.symm))]; exact hc

theorem Bytes.alloc {w : World} {c : Nat} {a : Option Addr} {len : Nat} (h : Bytes w c a len) (o : Obj) : Bytes (w.alloc o) c a len := by
  refine ⟨h.1, fun i hi => ?_⟩
  obtain ⟨b, off, n, ha, hb, hne, hc, h0, h1⟩ := h.2 i hi
  refine ⟨b, off, n, ha, by simp; omega, hne, ?_, h0, h1⟩
  rw [World.cell?_alloc_lt _ _ _ hb]; exact hc

theorem Bytes.drewN {w : World} {c : Nat} {a : Option Addr} {len : Nat} (h : Bytes w c a len) (k : Nat) : Bytes (w.drewN k) c a len := h
theorem Cur.drewN {w : World} {c : Nat} {a : Option Addr} {len cap : Nat} (h : Cur w c a len cap) (k : Nat) : Cur (w.drewN k) c a len cap :=
  ⟨h.lt, h.cell0, h.cell1, h.cell2, h.fr1, h.fr2, h.bytes.drewN k⟩
theorem Cur.drew {w : World} {c : Nat} {a : Option Addr} {len cap : Nat} (h : Cur w c a len cap) : Cur w.drew c a len cap :=
  ⟨h.lt, h.cell0, h.cell1, h.cell2, h.fr1, h.fr2, h.bytes⟩

theorem Cur.set2 {w : World} {c : Nat} {a : Option Addr} {len cap : Nat} (h : Cur w c a len cap) (x : Int) : Cur (w.setCell ⟨c, 2, none⟩ (.int .i64 x)) c a len cap := by
  obtain ⟨hlt, c0, ⟨i, hi, c1⟩, ⟨hh, c2⟩, f1, f2, hb⟩ := h
  refine ⟨by simpa [World.setCell] using hlt, ?_, ⟨i, hi, ?_⟩, ⟨x, World.cell?_setCell_same _ _ _ c2⟩, by simpa using f1, by simpa using f2, hb.setCell _ _⟩
  · rw [World.cell?_setCell_other _ _ _ _ (by simp)]; exact c0
  · rw [World.cell?_setCell_other _ _ _ _ (by simp)]; exact c1

theorem Cur.set1 {w : World} {c : Nat} {a : Option Addr} {len cap : Nat} (h : Cur w c a len cap) (k : Nat) (hk : k ≤ len) : Cur (w.setCell ⟨c, 1, none⟩ (.int .i64 k)) c a len cap := by
  obtain ⟨hlt, c0, ⟨i, hi, c1⟩, ⟨hh, c2⟩, f1, f2, hb⟩ := h
  refine ⟨by simpa [World.setCell] using hlt, ?_, ⟨k, hk, World.cell?_setCell_same _ _ _ c1⟩, ⟨hh, ?_⟩, by simpa using f1, by simpa using f2, hb.setCell _ _⟩
  · rw [World.cell?_setCell_other _ _ _ _ (by simp)]; exact c0
  · rw [World.cell?_setCell_other _ _ _ _ (by simp)]; exact c2

theorem Cur.alloc {w : World} {c : Nat} {a : Option Addr} {len cap : Nat} (h : Cur w c a len cap) (o : Obj) : Cur (w.alloc o) c a len cap := by
  obtain ⟨hlt, c0, ⟨i, hi, c1⟩, ⟨hh, c2⟩, f1, f2, hb⟩ := h
  refine ⟨by simp; omega, ?_, ⟨i, hi, ?_⟩, ⟨hh, ?_⟩, ?_, ?_, hb.alloc o⟩
  · rw [World.cell?_alloc_lt _ _ _ hlt]; exact c0
  · rw [World.cell?_alloc_lt _ _ _ hlt]; exact c1
  · rw [World.cell?_alloc_lt _ _ _ hlt]; exact c2
  · rw [World.frozen?_alloc_old _ _ _ (by simp; omega)]; exact f1
  · rw [World.frozen?_alloc_old _ _ _ (by simp; omega)]; exact f2

theorem Only.drewN {k : Nat} {a w : World} (h : Only k a w) (n : Nat) : Only k a (w.drewN n) := ⟨h.os, h.tape, h.output, h.size, h.block⟩

/-- What a draw leaves: a number with P; the cursor still there; only its block turned. -/
def Drawn (P : Int → Prop) (c : Nat) (a : Option Addr) (len cap : Nat) (w : World) (e : Ending) (w' : World) : Prop :=
  ∃ n : Int, P n ∧ e = .returned (.int .i64 n) ∧ Cur w' c a len cap ∧ Only c w w'

/-- The same of a bool. -/
def DrawnB (c : Nat) (a : Option Addr) (len cap : Nat) (w : World) (e : Ending) (w' : World) : Prop :=
  ∃ b : Bool, e = .returned (.bool b) ∧ Cur w' c a len cap ∧ Only c w w'

theorem and_bd (x : Int) (m : Nat) (hm : m < 9223372036854775808) : 0 ≤ bits .and .i64 x m ∧ bits .and .i64 x m ≤ m := by
  unfold bits
  have h : ((BitVec.ofInt IntKind.i64.bits x) &&& (BitVec.ofInt IntKind.i64.bits (m : Int))).toNat ≤ m := by
    rw [BitVec.toNat_and]
    refine Nat.le_trans Nat.and_le_right ?_
    simp only [BitVec.toNat_ofInt, IntKind.bits]
    omega
  show 0 ≤ IntKind.i64.wrap _ ∧ IntKind.i64.wrap _ ≤ _
  rw [IntKind.wrap_i64]
  simp only
  omega

theorem byte_bd (x : Int) : 0 ≤ bits .and .i64 x 255 ∧ bits .and .i64 x 255 ≤ 255 := and_bd x 255 (by omega)

set_option maxHeartbeats 400000 in
theorem Byte_draw (w : World) (c : Nat) (a : Option Addr) (len cap : Nat) (h : Cur w c a len cap) :
    Calls Tryz.prog 84 #[.pointer (some ⟨c, 0, none⟩)] w (Drawn (fun n => 0 ≤ n ∧ n ≤ 255) c a len cap w) := by
  have H := Lib.hid h
  obtain ⟨hlt, c0, ⟨i, hi, c1⟩, ⟨hh, c2⟩, f1, f2, hl, hb⟩ := h
  by_cases hil : i < len
  · obtain ⟨b, off, n, rfl, hbs, hne, hbc, hn0, hn1⟩ := hb i hil
    clear hb
    go_enter Tryz.func84, Tryz.ntmps84
    go_wp2
    generalize wrap64 (wrap64 (hh * 6364136223846793005) + 1442695040888963407) = h2
    go_quiet (fail)
    go_wp2
    have hx := byte_bd (bits BinOp.xor IntKind.i64 (h2 / 8589934592) (h2 / 35184372088832))
    generalize bits BinOp.and IntKind.i64 (bits BinOp.xor IntKind.i64 (h2 / 8589934592) (h2 / 35184372088832)) 255 = x at *
    go_quiet (fail)
    go_wp2
    go_quiet (fail)
    go_wp2
    go_ret
    exact ⟨_, byte_bd _, rfl, ((H.out.set2 h2).drewN _).set1 (i + 1) (by omega), (((Only.refl c w).setCell rfl _).drewN _).setCell rfl _⟩
  · clear hb
    go_enter Tryz.func84, Tryz.ntmps84
    go_wp2
    generalize wrap64 (wrap64 (hh * 6364136223846793005) + 1442695040888963407) = h2
    go_quiet (fail)
    go_wp2
    have hx := byte_bd (bits BinOp.xor IntKind.i64 (h2 / 8589934592) (h2 / 35184372088832))
    generalize bits BinOp.and IntKind.i64 (bits BinOp.xor IntKind.i64 (h2 / 8589934592) (h2 / 35184372088832)) 255 = x at *
    go_quiet (fail)
    go_wp2
    go_ret
    exact ⟨x, hx, rfl, ((H.out.set2 h2).drewN _).drewN _, ((((Only.refl c w).setCell rfl _)).drewN _).drewN _⟩

/-- What l1Below answers: from 0 on, below n where that is above 0. -/
def InBelow (n r : Int) : Prop := 0 ≤ r ∧ (0 < n → r < n) ∧ (n ≤ 0 → r = 0)

theorem mod_bd {x n : Int} (hn : 0 < n) : 0 ≤ x % n ∧ x % n < n := ⟨Int.emod_nonneg _ (by omega), Int.emod_lt_of_pos _ hn⟩

set_option maxHeartbeats 400000 in
theorem Below_draw (w : World) (c : Nat) (a : Option Addr) (len cap : Nat) (n : Int) (h : Cur w c a len cap) :
    Calls Tryz.prog 48 #[.pointer (some ⟨c, 0, none⟩), .int .i64 n] w (Drawn (InBelow n) c a len cap w) := by
  by_cases h1 : n ≤ 0
  · go_enter Tryz.func48, Tryz.ntmps48
    go_wp2
    go_ret
    exact ⟨0, ⟨by omega, by omega, fun _ => rfl⟩, rfl, h, Only.refl _ _⟩
  · by_cases h2 : n ≤ 256
    · go_enter Tryz.func48, Tryz.ntmps48
      go_wp2_with fail
      refine (Byte_draw _ c a len cap h).mono ?_
      rintro e w1 ⟨x, ⟨hx0, hx1⟩, rfl, hc1, ho1⟩
      go_wp2
      go_ret
      have := mod_bd (x := x) (n := n) (by omega)
      exact ⟨x % n, ⟨by omega, by omega, by omega⟩, rfl, hc1, ho1⟩
    · go_enter Tryz.func48, Tryz.ntmps48
      go_wp2_with fail
      refine (Byte_draw _ c a len cap h).mono ?_
      rintro e w1 ⟨x, ⟨hx0, hx1⟩, rfl, hc1, ho1⟩
      go_wp2_with fail
      refine (Byte_draw _ c a len cap hc1).mono ?_
      rintro e w2 ⟨y, ⟨hy0, hy1⟩, rfl, hc2, ho2⟩
      go_wp2_with fail
      refine (Byte_draw _ c a len cap hc2).mono ?_
      rintro e w3 ⟨z, ⟨hz0, hz1⟩, rfl, hc3, ho3⟩
      go_wp2_with fail
      refine (Byte_draw _ c a len cap hc3).mono ?_
      rintro e w4 ⟨u, ⟨hu0, hu1⟩, rfl, hc4, ho4⟩
      go_wp2
      go_ret
      have := mod_bd (x := x * 16777216 + y * 65536 + z * 256 + u) (n := n) (by omega)
      exact ⟨_, ⟨by omega, by omega, by omega⟩, rfl, hc4, ((ho1.trans ho2).trans ho3).trans ho4⟩

theorem Once_draw (w : World) (c : Nat) (a : Option Addr) (len cap : Nat) (n : Int) (h : Cur w c a len cap) :
    Calls Tryz.prog 43 #[.pointer (some ⟨c, 0, none⟩), .int .i64 n] w (DrawnB c a len cap w) := by
  go_enter Tryz.func43, Tryz.ntmps43
  go_wp2_with fail
  refine (Below_draw _ c a len cap n h).mono ?_
  rintro e w1 ⟨x, hx, rfl, hc1, ho1⟩
  go_wp2
  go_ret
  exact ⟨x == 0, rfl, hc1, ho1⟩

/-- What l1New leaves: a pointer to a cursor in a new block. -/
def NewCur (a : Option Addr) (len cap : Nat) (w : World) (e : Ending) (w' : World) : Prop :=
  e = .returned (.pointer (some ⟨w.heap.size, 0, none⟩)) ∧ Cur w' w.heap.size a len cap ∧ Only w.heap.size w w'

theorem cur_new {w : World} {a : Option Addr} {len cap : Nat} (h : Bytes w w.heap.size a len) (x : Int) (t : TypeId) :
    Cur (w.alloc (.cells #[.slice a len cap, .int .i64 0, .int .i64 x] t)) w.heap.size a len cap :=
  ⟨by simp, by simp, ⟨0, Nat.zero_le _, by simp⟩, ⟨x, by simp⟩, by simp, by simp, h.alloc _⟩

theorem only_new (w : World) (o : Obj) (k : Nat) : Only k w (w.alloc o) :=
  ⟨rfl, rfl, rfl, by simp, fun i _ hs => Below.heap_alloc _ _ _ hs⟩

set_option maxHeartbeats 400000 in
theorem New_draw (w : World) (a : Option Addr) (len cap : Nat) (h : Bytes w w.heap.size a len) :
    Calls Tryz.prog 40 #[.slice a len cap] w (NewCur a len cap w) := by
  have H := Lib.hid h
  obtain ⟨hl, hb⟩ := h
  have HB := Lib.hid hb
  clear hb
  go_enter Tryz.func40, Tryz.ntmps40
  go_wp2
  go_loop [3, 4] (fun hv i => ∃ (x : Int) (k : Nat), 0 ≤ x ∧ x ≤ 1073741823 ∧ k ≤ len ∧ hv = .int .i64 x ∧ i = .int .i64 k) (fun _ i => len - (intOf i).toNat)
  case atStart => exact ⟨_, 0, by omega, by omega, Nat.zero_le _, rfl, rfl⟩
  case round =>
    obtain ⟨x, k, hx0, hx1, hk, rfl, rfl⟩ := hrel
    by_cases hlt : k < len
    · obtain ⟨b, off, n, rfl, hbs, hne, hbc, hn0, hn1⟩ := HB.out k hlt
      go_wp2
      have hm := and_bd (x * 137 + n + 11) 1073741823 (by omega)
      go_round
      case rel => exact ⟨_, k + 1, hm.1, hm.2, by omega, rfl, by go_num⟩
      case measure => simp [intOf]; omega
    · go_wp2
      go_ret
      exact ⟨rfl, cur_new H.out x _, only_new _ _ _⟩

theorem Only.cell {c : Nat} {w w' : World} (h : Only c w w') {p : Addr} (hp : p.block ≠ c) (hs : p.block < w.heap.size) : w'.cell? p = w.cell? p := World.cell?_of_block (w := w) (h.block p.block hp hs)

/-- A cell of a short row of numbers that was made ahead of a draw, read behind it. -/
theorem made_cell {w w1 : World} {c : Nat} (l : List Int) (t : TypeId) (ho : Only c (w.alloc (.cells (l.map (Value.int .i64)).toArray t)) w1) (hc : c < w.heap.size)
    {n : Int} (h0 : 0 ≤ n) (h1 : n < l.length) : ∃ v, v ∈ l ∧ w1.cell? ⟨w.heap.size, n.toNat, none⟩ = some (.int .i64 v) := by
  have hn : n.toNat < l.length := by omega
  refine ⟨l[n.toNat], List.getElem_mem _, ?_⟩
  rw [ho.cell (p := ⟨w.heap.size, n.toNat, none⟩) (by simp; omega) (by simp), World.cell?_alloc_new]
  simp [hn]

/-- The same, the number by itself: ahead of the block, or behind it. -/
theorem made_row (l : List Int) {n : Int} (h0 : 0 ≤ n) (h1 : n < l.length) : ∃ v, v ∈ l ∧ (l.map (Value.int .i64)).toArray[n.toNat]? = some (.int .i64 v) := by
  have hn : n.toNat < l.length := by omega
  exact ⟨l[n.toNat], List.getElem_mem _, by simp [hn]⟩

theorem made_get {l : List Value} {n : Nat} {v : Value} (h : l.toArray[n]? = some v) (hh : n < l.length) : l[n] = v := by
  simp [hh] at h; exact h

theorem made_at {w w1 : World} {c : Nat} (l : List Int) (t : TypeId) (ho : Only c (w.alloc (.cells (l.map (Value.int .i64)).toArray t)).drew w1) (hc : c < w.heap.size)
    {n : Nat} {v : Value} (h : (l.map (Value.int .i64)).toArray[n]? = some v) : w1.cell? ⟨w.heap.size, n, none⟩ = some v := by
  rw [ho.cell (p := ⟨w.heap.size, n, none⟩) (by simp; omega) (by simp), World.cell?_drew, World.cell?_alloc_new]
  exact h

/-- What l1DrawPart answers: from -1 to 65537. -/
def InPart (n : Int) : Prop := -1 ≤ n ∧ n ≤ 65537

/-- Behind what makes memory alone the bytes lie as they lay. -/
theorem Bytes.below {w w' : World} {a : Option Addr} {len : Nat} (h : Bytes w w.heap.size a len) (hb : Below w.heap.size w w') : Bytes w' w'.heap.size a len := by
  refine ⟨h.1, fun i hi => ?_⟩
  obtain ⟨b, off, n, ha, hlt, hne, hc, h0, h1⟩ := h.2 i hi
  have := hb.size
  exact ⟨b, off, n, ha, by omega, by omega, by rw [hb.cell (p := ⟨b, off + i, none⟩) hlt]; exact hc, h0, h1⟩

/-- What a draw from the bytes leaves: a number with P, and nothing that was there has turned. -/
def Given (P : Int → Prop) (w : World) (e : Ending) (w' : World) : Prop := ∃ n : Int, P n ∧ e = .returned (.int .i64 n) ∧ Below w.heap.size w w'

/-- What DrawPartOf answers. -/
def InPartOf (n all : Int) : Prop := -1 ≤ n ∧ n ≤ 1000000002 ∧ 0 ≤ all ∧ all ≤ 1000000001

def Given2 (P : Int → Int → Prop) (w : World) (e : Ending) (w' : World) : Prop :=
  ∃ n m : Int, P n m ∧ e = .returned (.tuple #[.int .i64 n, .int .i64 m]) ∧ Below w.heap.size w w'

def Given3 (P : Int → Int → Int → Prop) (w : World) (e : Ending) (w' : World) : Prop :=
  ∃ n m k : Int, P n m k ∧ e = .returned (.tuple #[.int .i64 n, .int .i64 m, .int .i64 k]) ∧ Below w.heap.size w w'

/-- What DrawBetween answers. -/
def InBetween (x y p : Int) : Prop := -1000000001 ≤ x ∧ x ≤ 1000000001 ∧ -1000000 ≤ y ∧ y ≤ 1000000 ∧ -131073 ≤ p ∧ p ≤ 196609

end Go.Proofs.YtgaggpnlimchkaaGreatDoor.D1

namespace Go.Proofs.YtgaggpnlimchkaaGreatDoor.D1
open Go.ChangeShapes Go.WideShapes Go.ChangeAt Go.RowKit
set_option linter.unusedVariables false
set_option maxRecDepth 100000

theorem open_bytes {H : Type} {enc : TypeId × Value → H} {W : World} {base b0 : Nat} {spare : Nat → Bool} {held : Bool} {v : Value} {d : DataW H} {p : List MemPlace}
    (hv : Value.okWide Tryz.prog W .any b0 22 v) (h : DataW.Trod enc Tryz.prog W base spare held 22 v d p) : ∃ a len cap, v = .slice a len cap ∧ (len ≤ 4096 → Bytes W W.heap.size a len) := by
  obtain ⟨a, len, cap, rfl⟩ := okWide_slice Tryz.underlying22 hv
  refine ⟨a, len, cap, rfl, fun hl => ⟨hl, fun i hi => ?_⟩⟩
  obtain ⟨fuel, hf⟩ := h
  rcases open_ints Tryz.underlying22 Tryz.underlying5 (by kernel_rfl) hf with ⟨hcs, _⟩ | ⟨x, l, c, zs, hcs, _, hlc, hm, hz, _, hcell, hwf⟩
  · simp [Value.cells] at hcs; omega
  · simp [Value.cells] at hcs
    obtain ⟨rfl, rfl, rfl⟩ := hcs
    have hz' : len ≤ zs.length := by split at hz <;> omega
    obtain ⟨b, off, rfl, hc⟩ := ints_at hcell (by omega)
    have hci := hc i (by omega)
    have hb : b < W.heap.size := by
      apply Classical.byContradiction
      intro hn
      have : W.cell? ⟨b, off + i, none⟩ = none := by
        simp [World.cell?, Array.getElem?_eq_none (show W.heap.size ≤ b from by omega)]
      rw [this] at hci; cases hci
    refine ⟨b, off, _, rfl, hb, by omega, hci, ?_⟩
    have := range_u8 hwf i
    simpa using this

end Go.Proofs.YtgaggpnlimchkaaGreatDoor.D1

namespace Go.Proofs.YtgaggpnlimchkaaGreatDoor.D1
open Go.Proofs.YtgaggpnlimchkaaGreatDoor.P1 Go.Proofs.YtgaggpnlimchkaaGreatDoor.B1
open Go.ChangeShapes Go.WideShapes Go.ChangeAt Go.RowKit
set_option linter.unusedVariables false

theorem Only.frozen {c : Nat} {w w' : World} (h : Only c w w') {p : Addr} (hp : p.block ≠ c) (hs : p.block < w.heap.size) : w'.frozen? p = w.frozen? p := by
  have := h.block p.block hp hs
  unfold World.frozen?
  rw [this]

theorem Bytes.only {w w' : World} {c : Nat} {a : Option Addr} {len : Nat} (h : Bytes w c a len) (ho : Only c w w') : Bytes w' c a len := by
  refine ⟨h.1, fun i hi => ?_⟩
  obtain ⟨b, off, n, ha, hb, hne, hc, h0, h1⟩ := h.2 i hi
  exact ⟨b, off, n, ha, Nat.lt_of_lt_of_le hb ho.size, hne, (ho.cell hne hb).trans hc, h0, h1⟩

/-- The frame of a draw: begun in w, the world is now w'; the cursor's block is c; of what was there only that block has turned. -/
structure Fr (c : Nat) (a : Option Addr) (len cap : Nat) (w w' : World) : Prop where
  cur : Cur w' c a len cap
  only : Only c w w'
  bytes : Bytes w c a len

theorem Fr.refl {c : Nat} {a : Option Addr} {len cap : Nat} {w : World} (h : Cur w c a len cap) : Fr c a len cap w w := ⟨h, Only.refl _ _, h.bytes⟩
theorem Fr.call {c : Nat} {a : Option Addr} {len cap : Nat} {w w' w2 : World} (h : Fr c a len cap w w') (hc : Cur w2 c a len cap) (ho : Only c w' w2) : Fr c a len cap w w2 := ⟨hc, h.only.trans ho, h.bytes⟩
theorem Fr.alloc {c : Nat} {a : Option Addr} {len cap : Nat} {w w' : World} (h : Fr c a len cap w w') (o : Obj) : Fr c a len cap w (w'.alloc o) := ⟨h.cur.alloc o, h.only.trans (only_new w' o c), h.bytes⟩
theorem Fr.drew {c : Nat} {a : Option Addr} {len cap : Nat} {w w' : World} (h : Fr c a len cap w w') : Fr c a len cap w w'.drew := ⟨h.cur.drew, h.only.drew, h.bytes⟩
theorem Fr.drewN {c : Nat} {a : Option Addr} {len cap : Nat} {w w' : World} (h : Fr c a len cap w w') (n : Nat) : Fr c a len cap w (w'.drewN n) := ⟨h.cur.drewN n, h.only.drewN n, h.bytes⟩

theorem Fr.set {c : Nat} {a : Option Addr} {len cap : Nat} {w w' : World} (h : Fr c a len cap w w') {b : Nat} (hb : w.heap.size ≤ b) (hbc : b ≠ c) (o : Nat) (v : Value) : Fr c a len cap w (w'.setCell ⟨b, o, none⟩ v) := by
  have ho : Only c w (w'.setCell ⟨b, o, none⟩ v) :=
    ⟨h.only.os, h.only.tape, h.only.output, by simpa [World.setCell] using h.only.size, fun k hk hs => by
      rw [Below.heap_setCell _ _ _ _ (by show k ≠ b; omega)]; exact h.only.block k hk hs⟩
  obtain ⟨hl, c0, ⟨i, hi, c1⟩, ⟨hh, c2⟩, f1, f2, hbt⟩ := h.cur
  refine ⟨⟨by simpa [World.setCell] using hl, ?_, ⟨i, hi, ?_⟩, ⟨hh, ?_⟩, by simpa using f1, by simpa using f2, h.bytes.only ho⟩, ho, h.bytes⟩
  · rw [World.cell?_setCell_other _ _ _ _ (by simp [*])]; exact c0
  · rw [World.cell?_setCell_other _ _ _ _ (by simp [*])]; exact c1
  · rw [World.cell?_setCell_other _ _ _ _ (by simp [*])]; exact c2

/-- A local block b holds these values, each may be read and written. -/
def LBlk (w : World) (b : Nat) (vs : List Value) : Prop := b < w.heap.size ∧ ∀ i v, vs[i]? = some v → w.cell? ⟨b, i, none⟩ = some v ∧ w.frozen? ⟨b, i, none⟩ = false

theorem LBlk.only {w w' : World} {b c : Nat} {vs : List Value} (h : LBlk w b vs) (ho : Only c w w') (hb : b ≠ c) : LBlk w' b vs :=
  ⟨Nat.lt_of_lt_of_le h.1 ho.size, fun i v hv => ⟨(ho.cell hb h.1).trans (h.2 i v hv).1, (Only.frozen ho hb h.1).trans (h.2 i v hv).2⟩⟩

theorem LBlk.below {w w' : World} {b : Nat} {vs : List Value} (h : LBlk w b vs) (hb : Below w.heap.size w w') : LBlk w' b vs :=
  ⟨Nat.lt_of_lt_of_le h.1 hb.size, fun i v hv => ⟨(hb.cell (p := ⟨b, i, none⟩) h.1).trans (h.2 i v hv).1, (hb.frozen (p := ⟨b, i, none⟩) h.1).trans (h.2 i v hv).2⟩⟩

theorem LBlk.alloc {w : World} {b : Nat} {vs : List Value} (h : LBlk w b vs) (o : Obj) : LBlk (w.alloc o) b vs := h.only (only_new w o (b + 1)) (by omega)
theorem LBlk.drew {w : World} {b : Nat} {vs : List Value} (h : LBlk w b vs) : LBlk w.drew b vs := h
theorem LBlk.drewN {w : World} {b : Nat} {vs : List Value} (h : LBlk w b vs) (n : Nat) : LBlk (w.drewN n) b vs := h

theorem LBlk.new (w : World) (vs : List Value) (t : TypeId) : LBlk (w.alloc (.cells vs.toArray t)) w.heap.size vs := by
  refine ⟨by simp, fun i v hv => ⟨?_, by simp⟩⟩
  rw [World.cell?_alloc_new]
  simpa using hv

theorem LBlk.set {w : World} {b : Nat} {vs : List Value} (h : LBlk w b vs) (o : Nat) (v : Value) (ho : o < vs.length) : LBlk (w.setCell ⟨b, o, none⟩ v) b (vs.set o v) := by
  refine ⟨by simpa [World.setCell] using h.1, fun i u hu => ?_⟩
  by_cases e : i = o
  · subst e
    rw [List.getElem?_set_self ho] at hu
    cases hu
    obtain ⟨c, f⟩ := h.2 i _ (List.getElem?_eq_getElem ho)
    exact ⟨World.cell?_setCell_same _ _ _ c, by simpa using f⟩
  · rw [List.getElem?_set_ne (Ne.symm e)] at hu
    obtain ⟨c, f⟩ := h.2 i u hu
    exact ⟨by rw [World.cell?_setCell_other _ _ _ _ (by simp [*])]; exact c, by simpa using f⟩

theorem LBlk.set_other {w : World} {b : Nat} {vs : List Value} (h : LBlk w b vs) {b' : Nat} (hb : b ≠ b') (o : Nat) (v : Value) : LBlk (w.setCell ⟨b', o, none⟩ v) b vs :=
  ⟨by simpa [World.setCell] using h.1, fun i u hu => ⟨by rw [World.cell?_setCell_other _ _ _ _ (by simp [*])]; exact (h.2 i u hu).1, by simpa using (h.2 i u hu).2⟩⟩

end Go.Proofs.YtgaggpnlimchkaaGreatDoor.D1

namespace Go.Proofs.YtgaggpnlimchkaaGreatDoor.D2
open Go.Proofs.YtgaggpnlimchkaaGreatDoor.P1 Go.Proofs.YtgaggpnlimchkaaGreatDoor.B1 Go.Proofs.YtgaggpnlimchkaaGreatDoor.D1
open Go.ChangeShapes Go.WideShapes Go.ChangeAt Go.RowKit
set_option linter.unusedVariables false

/-- What l1From answers, where lo is not above hi. -/
def InFrom (lo hi r : Int) : Prop := lo ≤ r ∧ r ≤ hi

theorem From_draw (w : World) (c : Nat) (a : Option Addr) (len cap : Nat) (lo hi : Int) (h : Cur w c a len cap) (h0 : -4000000000 ≤ lo) (h1 : hi ≤ 4000000000) (hle : lo ≤ hi) :
    Calls Tryz.prog 44 #[.pointer (some ⟨c, 0, none⟩), .int .i64 lo, .int .i64 hi] w (Drawn (InFrom lo hi) c a len cap w) := by
  go_enter Tryz.func44, Tryz.ntmps44
  go_wp2_with fail
  refine (Below_draw _ c a len cap _ h).mono ?_
  rintro e w1 ⟨x, ⟨hx0, hx1, _⟩, rfl, hc1, ho1⟩
  have hx1' := hx1 (by omega)
  clear hx1
  go_wp2
  go_ret
  exact ⟨lo + x, ⟨by omega, by omega⟩, rfl, hc1, ho1⟩

/-- What l2Draw answers: a curve of some numbers. -/
def DrawnCurve (c : Nat) (a : Option Addr) (len cap : Nat) (w : World) (e : Ending) (w' : World) : Prop :=
  ∃ x1 y1 x2 y2 : Int, e = .returned (.agg #[.int .i64 x1, .int .i64 y1, .int .i64 x2, .int .i64 y2]) ∧ Cur w' c a len cap ∧ Only c w w'

/-- A local block of four numbers. -/
def Four (w : World) (b : Nat) : Prop := ∃ x1 y1 x2 y2 : Int, LBlk w b [.int .i64 x1, .int .i64 y1, .int .i64 x2, .int .i64 y2]

/-- The world between l2Draw's statements: the cursor, the answer's block r, the curve's block b. -/
structure In2 (c : Nat) (a : Option Addr) (len cap : Nat) (w : World) (r b : Nat) (w' : World) : Prop where
  fr : Fr c a len cap w w'
  ans : LBlk w' r [.int .i64 0, .int .i64 0, .int .i64 0, .int .i64 0]
  crv : Four w' b
  hr : w.heap.size ≤ r
  hb : w.heap.size ≤ b
  ne : b ≠ r
  rc : r ≠ c
  bc : b ≠ c

theorem In2.call {c : Nat} {a : Option Addr} {len cap : Nat} {w w' w2 : World} {r b : Nat} (h : In2 c a len cap w r b w') (hc : Cur w2 c a len cap) (ho : Only c w' w2) : In2 c a len cap w r b w2 := by
  obtain ⟨x1, y1, x2, y2, hf⟩ := h.crv
  exact ⟨h.fr.call hc ho, h.ans.only ho h.rc, ⟨x1, y1, x2, y2, hf.only ho h.bc⟩, h.hr, h.hb, h.ne, h.rc, h.bc⟩

theorem In2.alloc {c : Nat} {a : Option Addr} {len cap : Nat} {w w' : World} {r b : Nat} (h : In2 c a len cap w r b w') (o : Obj) : In2 c a len cap w r b (w'.alloc o) := by
  obtain ⟨x1, y1, x2, y2, hf⟩ := h.crv
  exact ⟨h.fr.alloc o, h.ans.alloc o, ⟨x1, y1, x2, y2, hf.alloc o⟩, h.hr, h.hb, h.ne, h.rc, h.bc⟩

theorem In2.set {c : Nat} {a : Option Addr} {len cap : Nat} {w w' : World} {r b : Nat} (h : In2 c a len cap w r b w') (k : Nat) (hk : k < 4) (n : Int) : In2 c a len cap w r b (w'.setCell ⟨b, k, none⟩ (.int .i64 n)) := by
  obtain ⟨x1, y1, x2, y2, hf⟩ := h.crv
  refine ⟨h.fr.set h.hb h.bc _ _, h.ans.set_other (Ne.symm h.ne) _ _, ?_, h.hr, h.hb, h.ne, h.rc, h.bc⟩
  have g := hf.set k (.int .i64 n) (by simpa using hk)
  rcases (show k = 0 ∨ k = 1 ∨ k = 2 ∨ k = 3 by omega) with rfl | rfl | rfl | rfl
  · exact ⟨n, y1, x2, y2, g⟩
  · exact ⟨x1, n, x2, y2, g⟩
  · exact ⟨x1, y1, n, y2, g⟩
  · exact ⟨x1, y1, x2, n, g⟩

/-- The cells of a local block of four numbers, one by one. -/
theorem four_cells {w : World} {b : Nat} {v0 v1 v2 v3 : Value} (h : LBlk w b [v0, v1, v2, v3]) :
    w.cell? ⟨b, 0, none⟩ = some v0 ∧ w.cell? ⟨b, 1, none⟩ = some v1 ∧ w.cell? ⟨b, 2, none⟩ = some v2 ∧ w.cell? ⟨b, 3, none⟩ = some v3 ∧
    w.frozen? ⟨b, 0, none⟩ = false ∧ w.frozen? ⟨b, 1, none⟩ = false ∧ w.frozen? ⟨b, 2, none⟩ = false ∧ w.frozen? ⟨b, 3, none⟩ = false :=
  ⟨(h.2 0 _ rfl).1, (h.2 1 _ rfl).1, (h.2 2 _ rfl).1, (h.2 3 _ rfl).1, (h.2 0 _ rfl).2, (h.2 1 _ rfl).2, (h.2 2 _ rfl).2, (h.2 3 _ rfl).2⟩

theorem below4 {n : Int} (h : InBelow 4 n) : n = 0 ∨ n = 1 ∨ n = 2 ∨ n = 3 := by
  obtain ⟨h0, h1, _⟩ := h
  have := h1 (by omega); omega
theorem below2 {n : Int} (h : InBelow 2 n) : n = 0 ∨ n = 1 := by
  obtain ⟨h0, h1, _⟩ := h
  have := h1 (by omega); omega

/-- What the draws of chapter 2 answer from the bytes: a curve and a number with P. -/
def GivenCurve (P : Int → Prop) (w : World) (e : Ending) (w' : World) : Prop :=
  ∃ x1 y1 x2 y2 p : Int, P p ∧ e = .returned (.tuple #[.agg #[.int .i64 x1, .int .i64 y1, .int .i64 x2, .int .i64 y2], .int .i64 p]) ∧ Below w.heap.size w w'

theorem bytes_next {w : World} {a : Option Addr} {len : Nat} (h : Bytes w w.heap.size a len) : Bytes w (w.heap.size + 1) a len :=
  ⟨h.1, fun i hi => by
    obtain ⟨b, off, n, ha, hb, hne, hc, h0, h1⟩ := h.2 i hi
    exact ⟨b, off, n, ha, hb, by omega, hc, h0, h1⟩⟩

/-- What laws.pick answers: a number from 0 on below n. -/
def Picked (n : Int) (w : World) (e : Ending) (w' : World) : Prop := ∃ r : Int, 0 ≤ r ∧ r < n ∧ e = .returned (.int .i64 r) ∧ w = w'

end Go.Proofs.YtgaggpnlimchkaaGreatDoor.D2

namespace Go.Proofs.YtgaggpnlimchkaaGreatDoor.B2
open Go.Proofs.YtgaggpnlimchkaaGreatDoor.P1 Go.Proofs.YtgaggpnlimchkaaGreatDoor.B1 Go.Proofs.YtgaggpnlimchkaaGreatDoor.P2
open Go.ChangeShapes Go.WideShapes Go.ChangeAt Go.RowKit
set_option linter.unusedVariables false

/-- A call that returns v and leaves all that was there. -/
def Ans (v : Value) (w : World) (e : Ending) (w' : World) : Prop := e = .returned v ∧ Below w.heap.size w w'

theorem bcell {W w1 : World} (hb : Below W.heap.size W w1) : (∀ b o, b < W.heap.size → w1.cell? ⟨b, o, none⟩ = W.cell? ⟨b, o, none⟩) ∧ (∀ b o, b < W.heap.size → w1.frozen? ⟨b, o, none⟩ = W.frozen? ⟨b, o, none⟩) :=
  ⟨fun b o h => hb.cell (p := ⟨b, o, none⟩) h, fun b o h => hb.frozen (p := ⟨b, o, none⟩) h⟩

theorem along_facts {a b t : Int} (a0 : -200 ≤ a) (a1 : a ≤ 200) (b0 : -200 ≤ b) (b1 : b ≤ 200) (t0 : 0 ≤ t) (t1 : t ≤ 1024) :
    (0 ≤ 3 * (1024 - t) * (1024 - t) ∧ 3 * (1024 - t) * (1024 - t) ≤ 3145728) ∧ (0 ≤ 3 * (1024 - t) * (1024 - t) * t ∧ 3 * (1024 - t) * (1024 - t) * t ≤ 3221225472)
    ∧ (-644245094400 ≤ 3 * (1024 - t) * (1024 - t) * t * a ∧ 3 * (1024 - t) * (1024 - t) * t * a ≤ 644245094400)
    ∧ (0 ≤ 3 * (1024 - t) * t ∧ 3 * (1024 - t) * t ≤ 3145728) ∧ (0 ≤ 3 * (1024 - t) * t * t ∧ 3 * (1024 - t) * t * t ≤ 3221225472)
    ∧ (-644245094400 ≤ 3 * (1024 - t) * t * t * b ∧ 3 * (1024 - t) * t * t * b ≤ 644245094400)
    ∧ (0 ≤ 100 * t * t ∧ 100 * t * t ≤ 104857600) ∧ (0 ≤ 100 * t * t * t ∧ 100 * t * t * t ≤ 107374182400) := by
  have h1 := mul_bd (x := 3 * (1024 - t)) (y := 1024 - t) (m := 3072) (k := 1024) (by omega) (by omega) (by omega) (by omega) (by omega) (by omega)
  have h1' := Int.mul_nonneg (show 0 ≤ 3 * (1024 - t) by omega) (show 0 ≤ 1024 - t by omega)
  have h2 := mul_bd (x := 3 * (1024 - t) * (1024 - t)) (y := t) (m := 3145728) (k := 1024) (by omega) (by omega) (by omega) (by omega) (by omega) (by omega)
  have h2' := Int.mul_nonneg h1' t0
  have h3 := mul_bd (x := 3 * (1024 - t) * (1024 - t) * t) (y := a) (m := 3221225472) (k := 200) (by omega) (by omega) (by omega) (by omega) (by omega) (by omega)
  have h4 := mul_bd (x := 3 * (1024 - t)) (y := t) (m := 3072) (k := 1024) (by omega) (by omega) (by omega) (by omega) (by omega) (by omega)
  have h4' := Int.mul_nonneg (show 0 ≤ 3 * (1024 - t) by omega) t0
  have h5 := mul_bd (x := 3 * (1024 - t) * t) (y := t) (m := 3145728) (k := 1024) (by omega) (by omega) (by omega) (by omega) (by omega) (by omega)
  have h5' := Int.mul_nonneg h4' t0
  have h6 := mul_bd (x := 3 * (1024 - t) * t * t) (y := b) (m := 3221225472) (k := 200) (by omega) (by omega) (by omega) (by omega) (by omega) (by omega)
  have h7 := mul_bd (x := 100 * t) (y := t) (m := 102400) (k := 1024) (by omega) (by omega) (by omega) (by omega) (by omega) (by omega)
  have h7' := Int.mul_nonneg (show 0 ≤ 100 * t by omega) t0
  have h8 := mul_bd (x := 100 * t * t) (y := t) (m := 104857600) (k := 1024) (by omega) (by omega) (by omega) (by omega) (by omega) (by omega)
  have h8' := Int.mul_nonneg h7' t0
  omega

theorem along_far {a b t : Int} (a0 : -200 ≤ a) (a1 : a ≤ 200) (b0 : -200 ≤ b) (b1 : b ≤ 200) (t0 : 0 ≤ t) (t1 : t ≤ 1024) : -1288490188800 ≤ along a b t ∧ along a b t ≤ 1395864371200 := by
  have := along_facts a0 a1 b0 b1 t0 t1
  unfold along; omega

theorem pull_lo {n lo hi : Int} (h : n < lo) (hh : lo ≤ hi) : lo = pull n lo hi := by unfold pull; omega
theorem pull_hi {n lo hi : Int} (h : hi < n) (hh : lo ≤ hi) : hi = pull n lo hi := by unfold pull; omega
theorem pull_in {n lo hi : Int} (h : lo ≤ n) (hh : n ≤ hi) : n = pull n lo hi := by unfold pull; omega

theorem curveOk_pull (x1 y1 x2 y2 : Int) : curveOk x1 y1 x2 y2 = (((x1 == pull x1 0 100) && (y1 == pull y1 (-100) 200)) && ((x2 == pull x2 0 100) && (y2 == pull y2 (-100) 200))) := by
  have e (n lo hi : Int) (h : lo ≤ hi) : (n == pull n lo hi) = within n lo hi := by
    rw [Bool.eq_iff_iff, beq_iff_eq]; exact pull_same h
  rw [e _ _ _ (by omega), e _ _ _ (by omega), e _ _ _ (by omega), e _ _ _ (by omega)]
  unfold curveOk
  cases within x1 0 100 <;> cases within x2 0 100 <;> cases within y1 (-100) 200 <;> cases within y2 (-100) 200 <;> rfl

/-- A block of four numbers that the call has made, and all below is as it was. -/
theorem four_new {w w1 : World} {o : Obj} (x1 y1 x2 y2 : Int) (t : TypeId) (hb : Below (w.alloc o).heap.size (w.alloc o) w1) :
    (w1.alloc (.cells #[.int .i64 x1, .int .i64 y1, .int .i64 x2, .int .i64 y2] t)).cell? ⟨w1.heap.size, 0, none⟩ = some (.int .i64 x1)
    ∧ (w1.alloc (.cells #[.int .i64 x1, .int .i64 y1, .int .i64 x2, .int .i64 y2] t)).cell? ⟨w1.heap.size, 1, none⟩ = some (.int .i64 y1)
    ∧ (w1.alloc (.cells #[.int .i64 x1, .int .i64 y1, .int .i64 x2, .int .i64 y2] t)).cell? ⟨w1.heap.size, 2, none⟩ = some (.int .i64 x2)
    ∧ (w1.alloc (.cells #[.int .i64 x1, .int .i64 y1, .int .i64 x2, .int .i64 y2] t)).cell? ⟨w1.heap.size, 3, none⟩ = some (.int .i64 y2)
    ∧ Below w.heap.size w (w1.alloc (.cells #[.int .i64 x1, .int .i64 y1, .int .i64 x2, .int .i64 y2] t))
    ∧ w1.heap.size < (w1.alloc (.cells #[.int .i64 x1, .int .i64 y1, .int .i64 x2, .int .i64 y2] t)).heap.size
    ∧ w.heap.size ≤ w1.heap.size := by
  have hs := hb.size
  simp at hs
  exact ⟨by simp, by simp, by simp, by simp, (((Below.refl _ _).alloc (Nat.le_refl _) _).trans (hb.mono (by simp))).alloc (by omega) _, by simp, by omega⟩

theorem Below.call {B : Nat} {a w w1 : World} (h : Below B a w) (g : Below w.heap.size w w1) (hB : B ≤ w.heap.size) : Below B a w1 := h.trans (g.mono hB)

theorem held4_drew {w w' : World} {c : Nat} {v0 v1 v2 v3 : Value} (c0 : w'.cell? ⟨c, 0, none⟩ = some v0) (c1 : w'.cell? ⟨c, 1, none⟩ = some v1) (c2 : w'.cell? ⟨c, 2, none⟩ = some v2) (c3 : w'.cell? ⟨c, 3, none⟩ = some v3) (hl : c < w'.heap.size) (hB : Below w.heap.size w w') :
    w'.drew.cell? ⟨c, 0, none⟩ = some v0 ∧ w'.drew.cell? ⟨c, 1, none⟩ = some v1 ∧ w'.drew.cell? ⟨c, 2, none⟩ = some v2 ∧ w'.drew.cell? ⟨c, 3, none⟩ = some v3 ∧ c < w'.drew.heap.size ∧ Below w.heap.size w w'.drew :=
  ⟨c0, c1, c2, c3, hl, ⟨hB.os, hB.tape, hB.output, hB.size, hB.block⟩⟩

theorem held4_call {w w' w2 : World} {c : Nat} {v0 v1 v2 v3 : Value} (g : Below w'.heap.size w' w2) (c0 : w'.cell? ⟨c, 0, none⟩ = some v0) (c1 : w'.cell? ⟨c, 1, none⟩ = some v1) (c2 : w'.cell? ⟨c, 2, none⟩ = some v2) (c3 : w'.cell? ⟨c, 3, none⟩ = some v3) (hl : c < w'.heap.size) (hB : Below w.heap.size w w') :
    w2.cell? ⟨c, 0, none⟩ = some v0 ∧ w2.cell? ⟨c, 1, none⟩ = some v1 ∧ w2.cell? ⟨c, 2, none⟩ = some v2 ∧ w2.cell? ⟨c, 3, none⟩ = some v3 ∧ c < w2.heap.size ∧ Below w.heap.size w w2 :=
  ⟨(g.cell (p := ⟨c, 0, none⟩) hl).trans c0, (g.cell (p := ⟨c, 1, none⟩) hl).trans c1, (g.cell (p := ⟨c, 2, none⟩) hl).trans c2, (g.cell (p := ⟨c, 3, none⟩) hl).trans c3, Nat.lt_of_lt_of_le hl g.size, hB.trans (g.mono hB.size)⟩

end Go.Proofs.YtgaggpnlimchkaaGreatDoor.B2

namespace Go.Proofs.YtgaggpnlimchkaaGreatDoor.B2
open Go.Proofs.YtgaggpnlimchkaaGreatDoor.P1 Go.Proofs.YtgaggpnlimchkaaGreatDoor.B1 Go.Proofs.YtgaggpnlimchkaaGreatDoor.P2
open Go.ChangeShapes Go.WideShapes Go.ChangeAt Go.RowKit
set_option linter.unusedVariables false

theorem Below.box {w w1 : World} {o : Obj} (hb : Below (w.alloc o).heap.size (w.alloc o) w1) : Below w.heap.size w w1 :=
  ((Below.refl _ _).alloc (Nat.le_refl _) _).trans (hb.mono (by simp))

end Go.Proofs.YtgaggpnlimchkaaGreatDoor.B2

namespace Go.Proofs.YtgaggpnlimchkaaGreatDoor.BT
open Go.Proofs.YtgaggpnlimchkaaGreatDoor.P1 Go.Proofs.YtgaggpnlimchkaaGreatDoor.B1 Go.Proofs.YtgaggpnlimchkaaGreatDoor.B2 Go.Proofs.YtgaggpnlimchkaaGreatDoor.T1
open Go.ChangeShapes Go.WideShapes Go.ChangeAt Go.RowKit
set_option linter.unusedVariables false

/-- string([]byte{d}), the byte in a block just made. -/
theorem conv1 (w : World) (d : Int) (h0 : 0 ≤ d) (h1 : d < 256) :
    (convert 22 9 (.slice (some ⟨w.heap.size, 0, none⟩) 1 1)).run Tryz.prog (w.alloc (.cells #[.int .u8 d] 5)) = .ok (.string ⟨#[UInt8.ofNat d.toNat]⟩) (w.alloc (.cells #[.int .u8 d] 5)) := by
  have hd : ((UInt8.ofNat d.toNat).toNat : Int) = d := by simp; omega
  have h := run_convert_bytes_back (P := Tryz.prog) (w.alloc (.cells #[.int .u8 d] 5)) 22 9 5 ⟨w.heap.size, 0, none⟩ 1 [UInt8.ofNat d.toNat] Tryz.underlying22 Tryz.underlying5 Tryz.underlying9 (fun j hj => by
    obtain rfl : j = 0 := by simpa using hj
    simp [Addr.add]; omega)
  exact h

/-- '+' on two texts. -/
theorem str_add (x y : List UInt8) (w : World) (h : x.length + y.length ≤ 1000000000) : (Op.stringOp .add ⟨x.toArray⟩ ⟨y.toArray⟩).run Tryz.prog w = .ok (.string ⟨(x ++ y).toArray⟩) w := by
  rw [run_string_add_sum w _ _ (by simp [ByteArray.size]; omega), ByteArray.mk_append_mk]

theorem app1 (b : UInt8) (t : List UInt8) : (ByteArray.mk #[b] ++ ByteArray.mk t.toArray) = ByteArray.mk (b :: t).toArray := ByteArray.mk_append_mk [b] t

/-- A text's byte. -/
theorem str_at (l : List UInt8) (k : Nat) (b : UInt8) (h : l[k]? = some b) (w : World) : (Instr.index 9 (.string ⟨l.toArray⟩) (.int .i64 k)).run Tryz.prog w = .ok (.int .u8 b.toNat) w := by
  obtain ⟨hk, he⟩ := List.getElem?_eq_some_iff.1 h
  rw [run_index_string (P := Tryz.prog) w 9 ⟨l.toArray⟩ .i64 k Tryz.underlying9, dif_pos (by constructor <;> simp [ByteArray.size]; omega)]
  subst he
  rfl

theorem str_len (l : List UInt8) (w : World) (t : TypeId) : (Builtin.len_ #[9] t #[.string ⟨l.toArray⟩]).run Tryz.prog w = .ok (.int .i64 l.length) w := by
  rw [run_len_string (P := Tryz.prog) w 9 t ⟨l.toArray⟩ Tryz.underlying9]
  simp [ByteArray.size, goInt]

theorem str_at0 (l : List UInt8) (c : Nat) (h : (l[0]?).map UInt8.toNat = some c) (w : World) : (Instr.index 9 (.string ⟨l.toArray⟩) (.int .i64 0)).run Tryz.prog w = .ok (.int .u8 (c : Int)) w := by
  obtain ⟨b, hb, rfl⟩ := Option.map_eq_some_iff.1 h
  exact str_at l 0 b hb w

theorem str_at1 (l : List UInt8) (c : Nat) (h : (l[1]?).map UInt8.toNat = some c) (w : World) : (Instr.index 9 (.string ⟨l.toArray⟩) (.int .i64 1)).run Tryz.prog w = .ok (.int .u8 (c : Int)) w := by
  obtain ⟨b, hb, rfl⟩ := Option.map_eq_some_iff.1 h
  exact str_at l 1 b hb w

theorem str_atN (l : List UInt8) (k c : Nat) (h : (l[k]?).map UInt8.toNat = some c) (w : World) : (Instr.index 9 (.string ⟨l.toArray⟩) (.int .i64 (k : Int))).run Tryz.prog w = .ok (.int .u8 (c : Int)) w := by
  obtain ⟨b, hb, rfl⟩ := Option.map_eq_some_iff.1 h
  exact str_at l k b hb w

theorem str_lenN (l : List UInt8) (L : Nat) (h : l.length = L) (w : World) (t : TypeId) : (Builtin.len_ #[9] t #[.string ⟨l.toArray⟩]).run Tryz.prog w = .ok (.int .i64 (L : Int)) w := h ▸ str_len l w t

theorem byte_lt (b : UInt8) : b.toNat < 256 := b.toNat_lt

/-- The last digit and the rest, whatever the sign. -/
theorem last_digit (x : Int) : ∃ k : Nat, k < 10 ∧ k = x.natAbs % 10 ∧ (0 ≤ x → x.tmod 10 = k) ∧ (x < 0 → x.tmod 10 = -(k : Int)) := by
  refine ⟨x.natAbs % 10, Nat.mod_lt _ (by decide), rfl, fun h => ?_, fun h => ?_⟩
  · rw [Int.tmod_eq_emod_of_nonneg h]; omega
  · obtain ⟨m, rfl⟩ : ∃ m : Nat, x = -(m : Int) := ⟨x.natAbs, by omega⟩
    rw [Int.neg_tmod, Int.tmod_eq_emod_of_nonneg (by omega)]; omega

theorem rest_abs (x : Int) : (x.tdiv 10).natAbs = x.natAbs / 10 := by
  rw [Int.natAbs_tdiv]; rfl

theorem itoa_neg {n : Int} (h : n < 0) : Lib.itoa n = 45 :: Lib.decDigits n.natAbs := if_pos h
theorem itoa_pos {n : Int} (h : ¬ n < 0) : Lib.itoa n = Lib.decDigits n.natAbs := by
  rw [Lib.itoa, if_neg h]; congr 1; omega

theorem shown_long {m : Nat} {t : List UInt8} {n : Nat} (h : shown m t = Lib.decDigits n) (hn : n ≤ 9223372036854775808) : t.length ≤ 20 := by
  have h1 := dec_length n 19 (Nat.lt_of_le_of_lt hn (by decide))
  rw [← h] at h1
  unfold shown at h1
  split at h1
  · exact h1
  · simp at h1; omega

theorem div_bd (x : Int) (h0 : -9223372036854775808 ≤ x) (h1 : x ≤ 9223372036854775807) : -9223372036854775808 ≤ x.tdiv 10 ∧ x.tdiv 10 ≤ 9223372036854775807 := by
  have := rest_abs x
  omega

end Go.Proofs.YtgaggpnlimchkaaGreatDoor.BT

namespace Go.Proofs.YtgaggpnlimchkaaGreatDoor.BT
open Go.Proofs.YtgaggpnlimchkaaGreatDoor.P1 Go.Proofs.YtgaggpnlimchkaaGreatDoor.B1 Go.Proofs.YtgaggpnlimchkaaGreatDoor.B2 Go.Proofs.YtgaggpnlimchkaaGreatDoor.T1
open Go.ChangeShapes Go.WideShapes Go.ChangeAt Go.RowKit
set_option linter.unusedVariables false

/-- What l1Read answers. -/
def Reads (l : List UInt8) (w : World) (e : Ending) (w' : World) : Prop := e = .returned (.tuple #[.int .i64 (numVal l), .bool (isNum l)]) ∧ w = w'

theorem reads_none {l : List UInt8} {w : World} (h : readNum l = none) : Reads l w (.returned (.tuple #[.int .i64 0, .bool false])) w := by
  obtain ⟨a, b⟩ := num_none h
  exact ⟨by rw [a, b], rfl⟩
theorem reads_some {l : List UInt8} {w : World} {n : Int} (h : readNum l = some n) : Reads l w (.returned (.tuple #[.int .i64 n, .bool true])) w := by
  obtain ⟨a, b⟩ := num_some h
  exact ⟨by rw [a, b], rfl⟩

end Go.Proofs.YtgaggpnlimchkaaGreatDoor.BT

namespace Go.Proofs.YtgaggpnlimchkaaGreatDoor.BT
open Go.Proofs.YtgaggpnlimchkaaGreatDoor.P1 Go.Proofs.YtgaggpnlimchkaaGreatDoor.B1 Go.Proofs.YtgaggpnlimchkaaGreatDoor.B2 Go.Proofs.YtgaggpnlimchkaaGreatDoor.T1
open Go.ChangeShapes Go.WideShapes Go.ChangeAt Go.RowKit
set_option linter.unusedVariables false

theorem own_below {w w' : World} {B e size n : Nat} {v : Value} {xs : List Value} (h : w.ownsRow B e size v n xs) (hb : Below w.heap.size w w') : w'.ownsRow B e size v n xs :=
  h.kept (row := none) ⟨hb.os, hb.tape, hb.output, hb.size, fun k hk _ => hb.block k hk⟩ (by cases hv : v.ownBlock <;> simp)

theorem infoStr : (Tryz.prog.info? 9).map (fun i => (i.zero, i.size, i.bytes)) = some (some (.string ByteArray.empty), 1, 16) := by kernel_rfl

/-- Texts as values. -/
def wordsV (ls : List (List UInt8)) : List Value := ls.map fun l => Value.string ⟨l.toArray⟩

theorem wordsV_one (ls : List (List UInt8)) (p : List UInt8) : wordsV ls ++ [Value.string ⟨p.toArray⟩] = wordsV (ls ++ [p]) := by simp [wordsV]

/-- A piece of a text. -/
theorem str_cut (l : List UInt8) (i j : Nat) (p : List UInt8) (hp : (l.drop i).take (j - i) = p) (h0 : i ≤ j) (h1 : j ≤ l.length) (w : World) :
    (Instr.slice 9 (.string ⟨l.toArray⟩) (some (.int .i64 (i : Int))) (some (.int .i64 (j : Int))) none).run Tryz.prog w = .ok (.string ⟨p.toArray⟩) w := by
  rw [run_slice_string (P := Tryz.prog) w 9 ⟨l.toArray⟩ .i64 .i64 i j Tryz.underlying9 (by omega) (by omega) (by simp [ByteArray.size]; omega)]
  simp only [Int.toNat_natCast]
  rw [ByteArray.extract_mk, hp]

/-- What a slice of texts is: a block of its own with these texts. -/
def Words (w : World) (v : Value) (B : Nat) (ls : List (List UInt8)) : Prop := w.ownsRow B 9 1 v ls.length (wordsV ls)

theorem words_more {w : World} {v : Value} {B : Nat} {ls : List (List UInt8)} {p : List UInt8} (h : w.ownsRow B 9 1 v (ls.length + 1) (wordsV ls ++ [Value.string ⟨p.toArray⟩])) : Words w v B (ls ++ [p]) := by
  unfold Words
  rw [List.length_append, ← wordsV_one]; exact h

/-- What l1Split answers: a new slice with the pieces. -/
def Splits (b : UInt8) (l : List UInt8) (w : World) (e : Ending) (w' : World) : Prop :=
  ∃ v, e = .returned v ∧ Words w' v w.heap.size (splitBy b l) ∧ Below w.heap.size w w'

/-- What the splitting knows at place i, the piece begun at place f. -/
def Cut (b : UInt8) (l : List UInt8) (f i : Nat) (done : List (List UInt8)) : Prop := splitBy b l = done ++ headed ((l.drop f).take (i - f)) (splitBy b (l.drop i))

theorem Cut.start (b : UInt8) (l : List UInt8) : Cut b l 0 0 [] := by
  simp [Cut, headed_nil (splitBy_ne b l)]

theorem Cut.hit {b c : UInt8} {l : List UInt8} {f i : Nat} {done : List (List UInt8)} (h : Cut b l f i done) (hc : l[i]? = some c) (he : c = b) : Cut b l (i + 1) (i + 1) (done ++ [(l.drop f).take (i - f)]) := by
  unfold Cut at *
  obtain ⟨hi, e⟩ := List.getElem?_eq_some_iff.1 hc
  rw [h, List.drop_eq_getElem_cons hi, split_hit (by rw [e]; exact he)]
  simp [headed_nil (splitBy_ne b _)]

theorem Cut.miss {b c : UInt8} {l : List UInt8} {f i : Nat} {done : List (List UInt8)} (h : Cut b l f i done) (hf : f ≤ i) (hc : l[i]? = some c) (he : c ≠ b) : Cut b l f (i + 1) done := by
  unfold Cut at *
  obtain ⟨hi, e⟩ := List.getElem?_eq_some_iff.1 hc
  rw [h, List.drop_eq_getElem_cons hi, split_miss (by rw [e]; exact he)]
  congr 2
  rw [show i + 1 - f = (i - f) + 1 by omega, List.take_add_one]
  congr 1
  rw [List.getElem?_drop, show f + (i - f) = i by omega, hc, ← e]
  rfl

theorem Cut.last {b : UInt8} {l : List UInt8} {f : Nat} {done : List (List UInt8)} (h : Cut b l f l.length done) : done ++ [(l.drop f).take (l.length - f)] = splitBy b l := by
  unfold Cut at h
  rw [h, List.drop_length]
  simp [splitBy, headed]

theorem Cut.few {b : UInt8} {l : List UInt8} {f i : Nat} {done : List (List UInt8)} (h : Cut b l f i done) : done.length ≤ l.length + 1 := by
  have := splitBy_length b l
  rw [h] at this
  simp at this; omega

theorem Words.at {w : World} {v : Value} {B : Nat} {ls : List (List UInt8)} (h : Words w v B ls) (hne : ls ≠ []) :
    ∃ g cap, v = .slice (some ⟨g, 0, none⟩) ls.length cap ∧ ls.length ≤ cap ∧ B ≤ g ∧ g < w.heap.size ∧ ∀ k l, ls[k]? = some l → w.cell? ⟨g, k, none⟩ = some (.string ⟨l.toArray⟩) := by
  rcases h.2 with ⟨_, hn⟩ | ⟨g, cap, cur, rfl, hb, hg, hnc, _⟩
  · exact absurd (List.eq_nil_of_length_eq_zero hn) hne
  · refine ⟨g, cap, rfl, hnc, hb, (Array.getElem?_eq_some_iff.1 hg).1, fun k l hk => ?_⟩
    have hkl := (List.getElem?_eq_some_iff.1 hk).1
    rw [World.ownsRow.cellAt h k (by omega)]
    simp [wordsV, hk]

/-- Equal texts, as the walk asks it. -/
theorem str_same {a b : List UInt8} (h : a = b) : (a == b) = true := by simpa using h
theorem str_other {a b : List UInt8} (h : a ≠ b) : (a == b) = false := by simpa using h

set_option maxRecDepth 20000 in
set_option maxHeartbeats 2000000 in
theorem At_spec (ls : List (List UInt8)) (s : List UInt8) (g cap : Nat) (w : World) (hn : ls.length ≤ 1000000) (hcap : ls.length ≤ cap) (hcap' : cap ≤ 9223372036854775807)
    (hc : ∀ k l, ls[k]? = some l → w.cell? ⟨g, k, none⟩ = some (.string ⟨l.toArray⟩)) :
    Calls Tryz.prog 111 #[.slice (some ⟨g, 0, none⟩) ls.length cap, .string ⟨s.toArray⟩] w fun e w' => e = .returned (.int .i64 (placeOf ls s)) ∧ w = w' := by
  obtain ⟨L, eL⟩ : ∃ L, ls.length = L := ⟨_, rfl⟩
  have HL := Lib.hid eL
  have HC := Lib.hid hc
  rw [eL] at hn hcap ⊢
  have L1 : (L : Int) ≤ 1000000 := by omega
  have L2 : (L : Int) ≤ (cap : Int) := by omega
  clear eL hc
  go_enter Tryz.func111, Tryz.ntmps111
  go_wp2
  go_loop [5] (fun s5 => ∃ i : Nat, s5 = .int .i64 (i : Int) ∧ i ≤ L ∧ Hid (∀ j, j < i → ls[j]? ≠ some s)) (fun s5 => L - (intOf s5).toNat)
  case atStart => exact ⟨0, rfl, by omega, Lib.hid fun j h => absurd h (Nat.not_lt_zero _)⟩
  case round =>
    obtain ⟨i, rfl, hi, I⟩ := hrel
    by_cases hlt : i < L
    · have hlt' : (i : Int) < (L : Int) := by omega
      obtain ⟨x, hx⟩ : ∃ x, ls[i]? = some x := ⟨ls[i]'(by rw [HL.out]; exact hlt), List.getElem?_eq_getElem _⟩
      have hcell := HC.out i x hx
      have HX := Lib.hid hx
      clear hx
      by_cases he : x = s
      · have hsame := str_same he
        have HR := Lib.hid (placeOf_at (he ▸ HX.out) I.out)
        clear he
        go_wp2
        go_ret
        exact ⟨by rw [HR.out]; rfl, rfl⟩
      · have hoth := str_other he
        have HI := Lib.hid (show ∀ j, j < i + 1 → ls[j]? ≠ some s from fun j hj => by
          rcases Nat.lt_or_eq_of_le (Nat.le_of_lt_succ hj) with h | h
          · exact I.out j h
          · rw [h, HX.out]; intro e; exact he (Option.some.inj e))
        clear he
        go_wp2
        go_round
        case rel => exact ⟨i + 1, by go_num, by omega, HI⟩
        case measure => simp [intOf]; omega
    · obtain rfl : i = L := by omega
      have HR := Lib.hid (placeOf_none (ls := ls) (s := s) (HL.out ▸ I.out))
      go_wp2
      go_ret
      exact ⟨by rw [HR.out]; rfl, rfl⟩

end Go.Proofs.YtgaggpnlimchkaaGreatDoor.BT

namespace Go.Proofs.YtgaggpnlimchkaaGreatDoor.DB
open Go.Proofs.YtgaggpnlimchkaaGreatDoor.P1 Go.Proofs.YtgaggpnlimchkaaGreatDoor.B1 Go.Proofs.YtgaggpnlimchkaaGreatDoor.B2 Go.Proofs.YtgaggpnlimchkaaGreatDoor.T1 Go.Proofs.YtgaggpnlimchkaaGreatDoor.BT Go.Proofs.YtgaggpnlimchkaaGreatDoor.D1
open Go.ChangeShapes Go.WideShapes Go.ChangeAt Go.RowKit
set_option linter.unusedVariables false

/-- A slice of bytes of the call's own. -/
def Bts (w : World) (B g cap : Nat) (bs : List UInt8) : Prop :=
  B ≤ g ∧ g < w.heap.size ∧ bs.length ≤ cap ∧ cap ≤ maxLen ∧ ∀ j b, bs[j]? = some b → w.cell? ⟨g, j, none⟩ = some (.int .u8 (b.toNat : Int)) ∧ w.frozen? ⟨g, j, none⟩ = false

theorem Bts.keep {w w' : World} {B g cap : Nat} {bs : List UInt8} (h : Bts w B g cap bs) (hs : w.heap.size ≤ w'.heap.size) (hb : w'.heap[g]? = w.heap[g]?) : Bts w' B g cap bs := by
  refine ⟨h.1, Nat.lt_of_lt_of_le h.2.1 hs, h.2.2.1, h.2.2.2.1, fun j b hj => ?_⟩
  obtain ⟨c, f⟩ := h.2.2.2.2 j b hj
  exact ⟨(World.cell?_of_block (a := ⟨g, j, none⟩) hb).trans c, (World.frozen?_of_block (a := ⟨g, j, none⟩) hb).trans f⟩

theorem Bts.only {w w' : World} {B g cap c : Nat} {bs : List UInt8} (h : Bts w B g cap bs) (ho : Only c w w') (hc : c < B) : Bts w' B g cap bs :=
  h.keep ho.size (ho.block g (by have := h.1; omega) h.2.1)

theorem Bts.alloc {w : World} {B g cap : Nat} {bs : List UInt8} (h : Bts w B g cap bs) (o : Obj) : Bts (w.alloc o) B g cap bs :=
  h.keep (by simp) (Below.heap_alloc _ _ _ h.2.1)

theorem Bts.drew {w : World} {B g cap : Nat} {bs : List UInt8} (h : Bts w B g cap bs) : Bts w.drew B g cap bs := h

theorem Bts.grown {w w' : World} {B g cap : Nat} {bs : List UInt8} {row : Option Nat} (h : Bts w B g cap bs) (hg : w.grownBy w' row) (hr : some g ≠ row) : Bts w' B g cap bs :=
  h.keep hg.size (hg.block g h.2.1 hr)

theorem Bts.take {w : World} {B g cap : Nat} {bs : List UInt8} (h : Bts w B g cap bs) (k : Nat) : Bts w B g cap (bs.take k) :=
  ⟨h.1, h.2.1, by have := h.2.2.1; simp; omega, h.2.2.2.1, fun j b hj => h.2.2.2.2 j b (by
    rw [List.getElem?_take] at hj
    split at hj
    · exact hj
    · cases hj)⟩

theorem Bts.store {w : World} {B g cap : Nat} {bs : List UInt8} (h : Bts w B g cap bs) (k : Nat) (x : UInt8) : Bts (w.setCell ⟨g, k, none⟩ (.int .u8 (x.toNat : Int))) B g cap (bs.set k x) := by
  refine ⟨h.1, by simpa [World.setCell] using h.2.1, by simpa using h.2.2.1, h.2.2.2.1, fun j b hj => ?_⟩
  by_cases e : k = j
  · subst e
    have hk : k < bs.length := by
      have := (List.getElem?_eq_some_iff.1 hj).1
      simpa using this
    rw [List.getElem?_set_self hk] at hj
    cases hj
    obtain ⟨c, f⟩ := h.2.2.2.2 k _ (List.getElem?_eq_getElem hk)
    exact ⟨World.cell?_setCell_same _ _ _ c, by simpa using f⟩
  · rw [List.getElem?_set_ne e] at hj
    obtain ⟨c, f⟩ := h.2.2.2.2 j b hj
    exact ⟨by rw [World.cell?_setCell_other _ _ _ _ (by simp [*])]; exact c, by simpa using f⟩

/-- Bytes as values. -/
def bytesV (bs : List UInt8) : List Value := bs.map fun b => Value.int .u8 (b.toNat : Int)

theorem bytesV_at {bs : List UInt8} {j : Nat} {u : Value} (h : (bytesV bs)[j]? = some u) : ∃ b, bs[j]? = some b ∧ u = .int .u8 (b.toNat : Int) := by
  unfold bytesV at h
  rw [List.getElem?_map] at h
  obtain ⟨b, hb, rfl⟩ := Option.map_eq_some_iff.1 h
  exact ⟨b, hb, rfl⟩

theorem bytesV_one (bs : List UInt8) : ∀ u ∈ bytesV bs, u.oneCell' = true := by
  intro u hu
  obtain ⟨_, _, rfl⟩ := List.mem_map.1 hu
  rfl

theorem add_zero_at (g j : Nat) : (⟨g, 0, none⟩ : Addr).add j = ⟨g, j, none⟩ := by unfold Addr.add; split <;> simp_all
theorem add_at (g k j : Nat) : (⟨g, k, none⟩ : Addr).add j = ⟨g, k + j, none⟩ := by unfold Addr.add; split <;> simp_all

/-- The bytes of such a slice's beginning, to be appended. -/
theorem Bts.srcTake {w : World} {B g cap : Nat} {bs : List UInt8} (h : Bts w B g cap bs) (K : Nat) : ∀ j u, (bytesV (bs.take K))[j]? = some u → w.cell? ((⟨g, 0, none⟩ : Addr).add j) = some u := by
  intro j u hu
  obtain ⟨b, hb, rfl⟩ := bytesV_at hu
  rw [add_zero_at]
  exact ((h.take K).2.2.2.2 j b hb).1

/-- .. and of its rest. -/
theorem Bts.srcDrop {w : World} {B g cap : Nat} {bs : List UInt8} (h : Bts w B g cap bs) (K : Nat) : ∀ j u, (bytesV (bs.drop K))[j]? = some u → w.cell? ((⟨g, K, none⟩ : Addr).add j) = some u := by
  intro j u hu
  obtain ⟨b, hb, rfl⟩ := bytesV_at hu
  rw [add_at]
  rw [List.getElem?_drop] at hb
  exact (h.2.2.2.2 (K + j) b hb).1

theorem Bts.own {w : World} {B : Nat} {v : Value} {bs : List UInt8} {n : Nat} (h : w.ownsRow B 5 1 v n (bytesV bs)) (hv : v ≠ .slice none 0 0) : ∃ g cap, v = .slice (some ⟨g, 0, none⟩) bs.length cap ∧ Bts w B g cap bs := by
  have hn : bs.length = n := by simpa [bytesV] using h.1
  subst hn
  rcases h.2 with ⟨e, _⟩ | ⟨g, cap, cur, rfl, hb, hg, hnc, hm, _⟩
  · exact absurd e hv
  · refine ⟨g, cap, rfl, hb, (Array.getElem?_eq_some_iff.1 hg).1, hnc, hm, fun j b hj => ⟨?_, World.ownsRow.frozenAt h j⟩⟩
    have hjl := (List.getElem?_eq_some_iff.1 hj).1
    rw [World.ownsRow.cellAt h j (by omega)]
    simp [bytesV, hj]

/-- The bytes of a text, as []byte(s) lays them. -/
theorem Bts.made (w : World) (l : List UInt8) (cap : Nat) (hl : l.length ≤ cap) (hc : cap ≤ maxLen) :
    Bts (w.alloc (.cells (bytesRow ⟨l.toArray⟩ cap) 5 ((bytesRow ⟨l.toArray⟩ cap).size, (bytesRow ⟨l.toArray⟩ cap).size + 1))) w.heap.size w.heap.size cap l := by
  refine ⟨Nat.le_refl _, by simp, hl, hc, fun j b hj => ?_⟩
  have hjl := (List.getElem?_eq_some_iff.1 hj)
  obtain ⟨hjl, hje⟩ := hjl
  have hsz : l.length ≤ (bytesRow ⟨l.toArray⟩ cap).size := by simp [bytesRow]
  rw [World.cell?_alloc_mark, World.frozen?_alloc_mark, bytesRow_at _ _ _ (by simpa using hjl)]
  constructor
  · simp [hje]
  · simp; omega

/-- The frame of a draw behind an append to a row of the call's own. -/
theorem fr_grown {c : Nat} {a : Option Addr} {len cap : Nat} {w w' w2 : World} {row : Option Nat} (h : Fr c a len cap w w') (hc : c < w.heap.size) (hg : w'.grownBy w2 row) (hr : ∀ k, row = some k → w.heap.size ≤ k) : Fr c a len cap w w2 := by
  have hb : w2.heap[c]? = w'.heap[c]? := hg.block c h.cur.lt (fun e => by have := hr c e.symm; omega)
  have ho : Only c w w2 := ⟨hg.os.trans h.only.os, hg.tape.trans h.only.tape, hg.output.trans h.only.output, Nat.le_trans h.only.size hg.size, fun k hk hs =>
    (hg.block k (Nat.lt_of_lt_of_le hs h.only.size) (fun e => by have := hr k e.symm; omega)).trans (h.only.block k hk hs)⟩
  obtain ⟨hl, c0, ⟨i, hi, c1⟩, ⟨hh, c2⟩, f1, f2, hbt⟩ := h.cur
  have hcell (o : Nat) : w2.cell? ⟨c, o, none⟩ = w'.cell? ⟨c, o, none⟩ := World.cell?_of_block (a := ⟨c, o, none⟩) hb
  have hfro (o : Nat) : w2.frozen? ⟨c, o, none⟩ = w'.frozen? ⟨c, o, none⟩ := World.frozen?_of_block (a := ⟨c, o, none⟩) hb
  exact ⟨⟨Nat.lt_of_lt_of_le hl hg.size, (hcell 0).trans c0, ⟨i, hi, (hcell 1).trans c1⟩, ⟨hh, (hcell 2).trans c2⟩, (hfro 1).trans f1, (hfro 2).trans f2, h.bytes.only ho⟩, ho, h.bytes⟩

/-- append onto a row of the call's own, as one step of a region that draws. -/
theorem step_append_mine {P : Program} {ops : Array Oper} {o : Oper} {a : Act} {w : World} {K : Act → World → Prop} {Q : Exit → Act → World → Prop} {E : Prop}
    (hg : o.guard = none) (s x : Operand) (t : TypeId) (hop : o.op = Op.call { callee := Callee.builtin Builtin.append, args := #[s, x], argTypes := #[t, t] })
    (base : Nat) (e : TypeId) (i : TypeInfo) (z : Value) (size bytes : Nat) (h1 : P.underlying t = some (.slice e)) (h2 : P.info? e = some i) (h3 : i.zero = some z) (h4 : i.size = size) (h5 : i.bytes = bytes) (h6 : z.cells.size = size) (h7 : 0 < size)
    (v : Value) (n : Nat) (xs : List Value) (hs : a.eval s = v) (hown : w.ownsRow base e size v n xs)
    (ad : Addr) (m c : Nat) (news : List Value) (hx : a.eval x = .slice (some ad) m c) (hn : news.length = m * size) (hc : ∀ j u, news[j]? = some u → w.cell? (ad.add j) = some u) (h1c : ∀ u ∈ news, u.oneCell' = true)
    (b1 : n + m ≤ maxLen) (b2 : (n + m) * bytes ≤ 140737488355328) (hbase : base ≤ w.heap.size)
    (hK : ∀ v' w', w'.ownsRow base e size v' (n + m) (xs ++ news) → w.grownBy w' v.ownBlock → (v' = .slice none 0 0 ↔ v = .slice none 0 0 ∧ m = 0) → K (a.put o.dst v') w') :
    if Region.wanted o (yielded ops a.tmps) = true then Oper.wp P o a w K Q else E := by
  have hw : Region.wanted o (yielded ops a.tmps) = true := by simp [Region.wanted, hg]
  rw [if_pos hw]
  obtain ⟨v', w', hrun, r1, r2, r3⟩ := run_append_own (P := P) w base t o.type e i z size bytes h1 h2 h3 h4 h5 h6 h7 v n xs hown ad m c news hn hc h1c b1 b2 hbase
  unfold Oper.wp
  simp [execOp, hop, resolve, invoke, builtin, hs, hx, hrun, Result.andThen]
  exact hK v' w' r1 r2 r3

theorem infoByte : (Tryz.prog.info? 5).map (fun i => (i.zero, i.size, i.bytes)) = some (some (.int .u8 0), 1, 1) := by kernel_rfl

/-- string(b) of such a slice. -/
theorem Bts.text {w : World} {B g cap : Nat} {bs : List UInt8} (h : Bts w B g cap bs) : (convert 22 9 (.slice (some ⟨g, 0, none⟩) bs.length cap)).run Tryz.prog w = .ok (.string ⟨bs.toArray⟩) w :=
  run_convert_bytes_back (P := Tryz.prog) w 22 9 5 ⟨g, 0, none⟩ cap bs Tryz.underlying22 Tryz.underlying5 Tryz.underlying9 (fun j hj => by
    rw [show (⟨g, 0, none⟩ : Addr).add j = ⟨g, j, none⟩ by unfold Addr.add; split <;> simp_all]
    exact (h.2.2.2.2 j _ (List.getElem?_eq_getElem hj)).1)

/-- []byte(s). -/
theorem bytes_of (w : World) (l : List UInt8) (hl : l.length ≤ 1000000) :
    ∃ C W1 o, (convert 9 22 (.string ⟨l.toArray⟩)).run Tryz.prog w = .ok (.slice (some ⟨w.heap.size, 0, none⟩) l.length C) W1 ∧ W1 = w.drew.alloc o ∧ Bts W1 w.heap.size w.heap.size C l := by
  have hr := run_bytes_of_string (P := Tryz.prog) w 9 22 5 ⟨l.toArray⟩ Tryz.underlying9 Tryz.underlying22 Tryz.underlying5
  have hs : (ByteArray.mk l.toArray).size = l.length := by simp [ByteArray.size]
  rw [hs] at hr
  exact ⟨_, _, _, hr, rfl, Bts.made w.drew l _ (grownCap_ge w _ _ _) (grownCap_le_maxLen w _ _ _ (by simp [maxLen]; omega))⟩

/-- Behind the first append: a row of the call's own, the frame, the old bytes. -/
theorem first_own {c : Nat} {a : Option Addr} {len cap : Nat} {w wA w5 : World} {N B g C : Nat} {bs xs : List UInt8} {v5 : Value} {n : Nat} (hown : w5.ownsRow B 5 1 v5 n ([] ++ bytesV xs)) (hgrow : wA.grownBy w5 (Value.ownBlock (.slice (some ⟨N, 0, none⟩) 0 0))) {m : Nat} (hnil : v5 = .slice none 0 0 ↔ (Value.slice (some ⟨N, 0, none⟩) 0 0 = .slice none 0 0 ∧ m = 0))
    (hF : Fr c a len cap w wA) (hb : Bts wA B g C bs) (hN : B ≤ N) (hB : w.heap.size = B) (hc : c < B) (hgN : g ≠ N) (M : Nat) (hM : xs.length = M) :
    ∃ g5 C5, v5 = .slice (some ⟨g5, 0, none⟩) M C5 ∧ Fr c a len cap w w5 ∧ Bts w5 B g C bs ∧ B ≤ g5 ∧ g5 < w5.heap.size ∧ True := by
  subst hM
  obtain ⟨g5, C5, rfl, hb5⟩ := Bts.own (bs := xs) (by simpa using hown) (by rw [Ne, hnil]; simp)
  refine ⟨g5, C5, rfl, fr_grown hF (by omega) hgrow (fun k hk => ?_), hb.grown hgrow (by simp [Value.ownBlock, hgN]), hb5.1, hb5.2.1, trivial⟩
  simp [Value.ownBlock] at hk
  omega

/-- Behind a further append: a slice of bytes of the call's own. -/
theorem next_own {c : Nat} {a : Option Addr} {len cap : Nat} {w w5 w6 : World} {B g5 C5 n5 : Nat} {xs : List UInt8} {v6 : Value} {n m : Nat} (hown : w6.ownsRow B 5 1 v6 n (bytesV xs)) (hgrow : w5.grownBy w6 (Value.ownBlock (.slice (some ⟨g5, 0, none⟩) n5 C5))) (hnil : v6 = .slice none 0 0 ↔ (Value.slice (some ⟨g5, 0, none⟩) n5 C5 = .slice none 0 0 ∧ m = 0))
    (hF : Fr c a len cap w w5) (hg : B ≤ g5) (hB : w.heap.size = B) (hc : c < B) (M : Nat) (hM : xs.length = M) :
    ∃ g6 C6, v6 = .slice (some ⟨g6, 0, none⟩) M C6 ∧ Fr c a len cap w w6 ∧ Bts w6 B g6 C6 xs := by
  subst hM
  obtain ⟨g6, C6, rfl, hb6⟩ := Bts.own hown (by rw [Ne, hnil]; simp)
  refine ⟨g6, C6, rfl, fr_grown hF (by omega) hgrow (fun k hk => ?_), hb6⟩
  simp [Value.ownBlock] at hk
  omega

theorem own_only {w w' : World} {B e size n c : Nat} {v : Value} {xs : List Value} (h : w.ownsRow B e size v n xs) (ho : Only c w w') (hc : c < B) : w'.ownsRow B e size v n xs :=
  h.kept (row := some c) ⟨ho.os, ho.tape, ho.output, ho.size, fun k hk hne => ho.block k (by simpa using hne) hk⟩ (by
    cases hv : v.ownBlock with
    | none => exact Or.inl rfl
    | some k =>
      right
      have := (World.ownsRow.lt h k hv).1
      simp; omega)

theorem fr_size {c : Nat} {a : Option Addr} {len cap : Nat} {w w' : World} {B : Nat} (h : Fr c a len cap w w') (hB : w.heap.size = B) : B ≤ w'.heap.size := hB ▸ h.only.size

theorem sign_at (sg : List UInt8) (R : Nat) (h : R < sg.length) : ∃ y : UInt8, ∀ w, (Instr.index 9 (.string ⟨sg.toArray⟩) (.int .i64 (R : Int))).run Tryz.prog w = .ok (.int .u8 (y.toNat : Int)) w :=
  ⟨sg[R], fun w => str_at sg R _ (List.getElem?_eq_getElem h) w⟩

/-- A block of one cell behind an append to another row. -/
theorem one_kept {w w' : World} {x : Value} {N : Nat} {row : Option Nat} (h : ∀ j u, [x][j]? = some u → w.cell? ((⟨N, 0, none⟩ : Addr).add j) = some u) (hg : w.grownBy w' row) (hN : N < w.heap.size) (hr : some N ≠ row) : ∀ j u, [x][j]? = some u → w'.cell? ((⟨N, 0, none⟩ : Addr).add j) = some u := by
  intro j u hu
  have := h j u hu
  rw [add_zero_at] at this ⊢
  exact (World.cell?_of_block (a := ⟨N, j, none⟩) (hg.block N hN hr)).trans this

theorem one_alloc {w : World} {x : Value} {N : Nat} (h : ∀ j u, [x][j]? = some u → w.cell? ((⟨N, 0, none⟩ : Addr).add j) = some u) (hN : N < w.heap.size) (o : Obj) : ∀ j u, [x][j]? = some u → (w.alloc o).cell? ((⟨N, 0, none⟩ : Addr).add j) = some u := by
  intro j u hu
  have := h j u hu
  rw [add_zero_at] at this ⊢
  rw [World.cell?_alloc_lt _ _ _ hN]; exact this

theorem Bts.mono {w : World} {B B' g cap : Nat} {bs : List UInt8} (h : Bts w B' g cap bs) (hB : B ≤ B') : Bts w B g cap bs := ⟨Nat.le_trans hB h.1, h.2⟩

/-- Behind the first append, the new row's block above all that was there. -/
theorem first_own3 {c : Nat} {a : Option Addr} {len cap : Nat} {w wA w5 : World} {N B B4 g C : Nat} {bs xs : List UInt8} {v5 : Value} {n : Nat} (hown : w5.ownsRow B4 5 1 v5 n ([] ++ bytesV xs)) (hgrow : wA.grownBy w5 (Value.ownBlock (.slice (some ⟨N, 0, none⟩) 0 0))) {m : Nat} (hnil : v5 = .slice none 0 0 ↔ (Value.slice (some ⟨N, 0, none⟩) 0 0 = .slice none 0 0 ∧ m = 0))
    (hF : Fr c a len cap w wA) (hb : Bts wA B g C bs) (hN : B4 ≤ N) (hB : w.heap.size = B) (hBB : B ≤ B4) (hc : c < B) (hg4 : g < B4) (M : Nat) (hM : xs.length = M) :
    ∃ g5 C5, v5 = .slice (some ⟨g5, 0, none⟩) M C5 ∧ Fr c a len cap w w5 ∧ Bts w5 B g C bs ∧ B4 ≤ g5 ∧ wA.heap.size ≤ w5.heap.size := by
  subst hM
  obtain ⟨g5, C5, rfl, hb5⟩ := Bts.own (bs := xs) (by simpa using hown) (by rw [Ne, hnil]; simp)
  refine ⟨g5, C5, rfl, fr_grown hF (by omega) hgrow (fun k hk => ?_), hb.grown hgrow (by simp [Value.ownBlock]; omega), hb5.1, hgrow.size⟩
  simp [Value.ownBlock] at hk
  omega

/-- Behind an append in the middle: the row, the frame, the old bytes. -/
theorem more_own {c : Nat} {a : Option Addr} {len cap : Nat} {w w5 w6 : World} {B g C g5 C5 n5 n : Nat} {bs : List UInt8} {xs : List Value} {v6 : Value} {m : Nat} {B4 : Nat} (hown : w6.ownsRow B4 5 1 v6 n xs) (hgrow : w5.grownBy w6 (Value.ownBlock (.slice (some ⟨g5, 0, none⟩) n5 C5))) (hnil : v6 = .slice none 0 0 ↔ (Value.slice (some ⟨g5, 0, none⟩) n5 C5 = .slice none 0 0 ∧ m = 0))
    (hF : Fr c a len cap w w5) (hb : Bts w5 B g C bs) (hg : B4 ≤ g5) (hB : w.heap.size = B) (hBB : B ≤ B4) (hc : c < B) (hg4 : g < B4) (M : Nat) (hM : xs.length = M) :
    ∃ g6 C6, v6 = .slice (some ⟨g6, 0, none⟩) M C6 ∧ Fr c a len cap w w6 ∧ Bts w6 B g C bs ∧ B4 ≤ g6 ∧ w5.heap.size ≤ w6.heap.size := by
  have hn : n = M := by have := hown.1; omega
  subst hn
  rcases hown.2 with ⟨e, _⟩ | ⟨g6, cap6, cur, rfl, hb6, _⟩
  · exact absurd (hnil.1 e).1 (by simp)
  · refine ⟨g6, cap6, rfl, fr_grown hF (by omega) hgrow (fun k hk => ?_), hb.grown hgrow (by simp [Value.ownBlock]; omega), hb6, hgrow.size⟩
    simp [Value.ownBlock] at hk
    omega

theorem next_own3 {c : Nat} {a : Option Addr} {len cap : Nat} {w w5 w6 : World} {B B4 g5 C5 n5 : Nat} {xs : List UInt8} {v6 : Value} {n m : Nat} (hown : w6.ownsRow B4 5 1 v6 n (bytesV xs)) (hgrow : w5.grownBy w6 (Value.ownBlock (.slice (some ⟨g5, 0, none⟩) n5 C5))) (hnil : v6 = .slice none 0 0 ↔ (Value.slice (some ⟨g5, 0, none⟩) n5 C5 = .slice none 0 0 ∧ m = 0))
    (hF : Fr c a len cap w w5) (hg : B4 ≤ g5) (hB : w.heap.size = B) (hBB : B ≤ B4) (hc : c < B) (M : Nat) (hM : xs.length = M) :
    ∃ g6 C6, v6 = .slice (some ⟨g6, 0, none⟩) M C6 ∧ Fr c a len cap w w6 ∧ Bts w6 B g6 C6 xs := by
  subst hM
  obtain ⟨g6, C6, rfl, hb6⟩ := Bts.own hown (by rw [Ne, hnil]; simp)
  refine ⟨g6, C6, rfl, fr_grown hF (by omega) hgrow (fun k hk => ?_), hb6.mono hBB⟩
  simp [Value.ownBlock] at hk
  omega

/-- b[:k] and b[k:]. -/
theorem slice_to (g L C K : Nat) (h : K ≤ C) (w : World) : (Instr.slice 22 (.slice (some ⟨g, 0, none⟩) L C) none (some (.int .i64 (K : Int))) none).run Tryz.prog w = .ok (.slice (some ⟨g, 0, none⟩) K C) w := by
  have z3 := Tryz.sizeOf5
  have h' : (K : Int) ≤ (C : Int) := by omega
  by_cases hC : C = 0
  · subst hC
    obtain rfl : K = 0 := by omega
    go_simp
  · go_simp

theorem slice_from (g L C K : Nat) (h : K ≤ L) (hC : L ≤ C) (hne : C ≠ K) (w : World) : (Instr.slice 22 (.slice (some ⟨g, 0, none⟩) L C) (some (.int .i64 (K : Int))) none none).run Tryz.prog w = .ok (.slice (some ⟨g, K, none⟩) (L - K) (C - K)) w := by
  have z3 := Tryz.sizeOf5
  have h' : (K : Int) ≤ (L : Int) := by omega
  go_simp

theorem slice_end (g L C K : Nat) (h : K ≤ L) (hC : L ≤ C) (hne : C = K) (w : World) : (Instr.slice 22 (.slice (some ⟨g, 0, none⟩) L C) (some (.int .i64 (K : Int))) none none).run Tryz.prog w = .ok (.slice (some ⟨g, 0, none⟩) 0 0) w := by
  have z3 := Tryz.sizeOf5
  subst hne
  obtain rfl : L = C := by omega
  have h' : (L : Int) ≤ (L : Int) := by omega
  go_simp

/-- What a draw of a text answers. -/
def DrawnText (most : Nat) (c : Nat) (a : Option Addr) (len cap : Nat) (w : World) (e : Ending) (w' : World) : Prop :=
  ∃ t : List UInt8, t.length ≤ most ∧ e = .returned (.string ⟨t.toArray⟩) ∧ Cur w' c a len cap ∧ Only c w w'

theorem below_nat {n : Int} {m : Nat} (h : InBelow (m : Int) n) (hm : 0 < m) : ∃ k : Nat, n = (k : Int) ∧ k < m := by
  obtain ⟨h0, h1, _⟩ := h
  have := h1 (by omega)
  exact ⟨n.toNat, by omega, by omega⟩

theorem below_four {n : Int} (h : InBelow 4 n) : n = 0 ∨ n = 1 ∨ n = 2 ∨ n = 3 := by
  obtain ⟨h0, h1, _⟩ := h
  have := h1 (by omega); omega

end Go.Proofs.YtgaggpnlimchkaaGreatDoor.DB

namespace Go.Proofs.YtgaggpnlimchkaaGreatDoor.S7
open Go.Proofs.YtgaggpnlimchkaaGreatDoor.P1 Go.Proofs.YtgaggpnlimchkaaGreatDoor.B1 Go.Proofs.YtgaggpnlimchkaaGreatDoor.P2 Go.Proofs.YtgaggpnlimchkaaGreatDoor.B2 Go.Proofs.YtgaggpnlimchkaaGreatDoor.D1
open Go.ChangeShapes Go.WideShapes Go.ChangeAt Go.RowKit
set_option linter.unusedVariables false

/-- The cells of a local block of seven numbers, one by one. -/
theorem seven_cells {w : World} {b : Nat} {v0 v1 v2 v3 v4 v5 v6 : Value} (h : LBlk w b [v0, v1, v2, v3, v4, v5, v6]) :
    w.cell? ⟨b, 0, none⟩ = some v0 ∧ w.cell? ⟨b, 1, none⟩ = some v1 ∧ w.cell? ⟨b, 2, none⟩ = some v2 ∧ w.cell? ⟨b, 3, none⟩ = some v3 ∧ w.cell? ⟨b, 4, none⟩ = some v4 ∧ w.cell? ⟨b, 5, none⟩ = some v5 ∧ w.cell? ⟨b, 6, none⟩ = some v6 ∧
    w.frozen? ⟨b, 0, none⟩ = false ∧ w.frozen? ⟨b, 1, none⟩ = false ∧ w.frozen? ⟨b, 2, none⟩ = false ∧ w.frozen? ⟨b, 3, none⟩ = false ∧ w.frozen? ⟨b, 4, none⟩ = false ∧ w.frozen? ⟨b, 5, none⟩ = false ∧ w.frozen? ⟨b, 6, none⟩ = false :=
  ⟨(h.2 0 _ rfl).1, (h.2 1 _ rfl).1, (h.2 2 _ rfl).1, (h.2 3 _ rfl).1, (h.2 4 _ rfl).1, (h.2 5 _ rfl).1, (h.2 6 _ rfl).1, (h.2 0 _ rfl).2, (h.2 1 _ rfl).2, (h.2 2 _ rfl).2, (h.2 3 _ rfl).2, (h.2 4 _ rfl).2, (h.2 5 _ rfl).2, (h.2 6 _ rfl).2⟩

/-- Seven cells of a block written one after the other. -/
def put7 (w : World) (b : Nat) (v0 v1 v2 v3 v4 v5 v6 : Value) : World := (((((((w.setCell ⟨b, 0, none⟩ v0).setCell ⟨b, 1, none⟩ v1).setCell ⟨b, 2, none⟩ v2).setCell ⟨b, 3, none⟩ v3).setCell ⟨b, 4, none⟩ v4).setCell ⟨b, 5, none⟩ v5).setCell ⟨b, 6, none⟩ v6)

theorem put7_blk {w : World} {b : Nat} {u0 u1 u2 u3 u4 u5 u6 : Value} (h : LBlk w b [u0, u1, u2, u3, u4, u5, u6]) (v0 v1 v2 v3 v4 v5 v6 : Value) : LBlk (put7 w b v0 v1 v2 v3 v4 v5 v6) b [v0, v1, v2, v3, v4, v5, v6] :=
  ((((((h.set 0 v0 (by simp)).set 1 v1 (by simp)).set 2 v2 (by simp)).set 3 v3 (by simp)).set 4 v4 (by simp)).set 5 v5 (by simp)).set 6 v6 (by simp)

theorem put7_other {w : World} {b c : Nat} {vs : List Value} (h : LBlk w c vs) (hc : c ≠ b) (v0 v1 v2 v3 v4 v5 v6 : Value) : LBlk (put7 w b v0 v1 v2 v3 v4 v5 v6) c vs :=
  ((((((h.set_other hc 0 v0).set_other hc 1 v1).set_other hc 2 v2).set_other hc 3 v3).set_other hc 4 v4).set_other hc 5 v5).set_other hc 6 v6

theorem put7_below {B : Nat} {a w : World} {b : Nat} (h : Below B a w) (hb : B ≤ b) (v0 v1 v2 v3 v4 v5 v6 : Value) : Below B a (put7 w b v0 v1 v2 v3 v4 v5 v6) :=
  ((((((h.setCell hb v0).setCell hb v1).setCell hb v2).setCell hb v3).setCell hb v4).setCell hb v5).setCell hb v6

theorem put7_cell {w : World} {b : Nat} {p : Addr} (hp : p.block ≠ b) (v0 v1 v2 v3 v4 v5 v6 : Value) : (put7 w b v0 v1 v2 v3 v4 v5 v6).cell? p = w.cell? p := by
  have h (w : World) (o : Nat) (v : Value) : (w.setCell ⟨b, o, none⟩ v).cell? p = w.cell? p := World.cell?_setCell_other _ _ _ _ (by intro e; exact hp (by rw [← e]))
  unfold put7
  rw [h, h, h, h, h, h, h]

theorem put7_size (w : World) (b : Nat) (v0 v1 v2 v3 v4 v5 v6 : Value) : (put7 w b v0 v1 v2 v3 v4 v5 v6).heap.size = w.heap.size := by
  simp [put7, World.setCell]

theorem cells2_put {w : World} {b c : Nat} {u0 u1 : Value} (hc : c ≠ b) (t0 : w.cell? ⟨c, 0, none⟩ = some u0) (t1 : w.cell? ⟨c, 1, none⟩ = some u1) (hl : c < w.heap.size) (v0 v1 v2 v3 v4 v5 v6 : Value) :
    (put7 w b v0 v1 v2 v3 v4 v5 v6).cell? ⟨c, 0, none⟩ = some u0 ∧ (put7 w b v0 v1 v2 v3 v4 v5 v6).cell? ⟨c, 1, none⟩ = some u1 ∧ c < (put7 w b v0 v1 v2 v3 v4 v5 v6).heap.size :=
  ⟨(put7_cell (p := ⟨c, 0, none⟩) hc _ _ _ _ _ _ _).trans t0, (put7_cell (p := ⟨c, 1, none⟩) hc _ _ _ _ _ _ _).trans t1, by rw [put7_size]; exact hl⟩

theorem cells2_call {w w2 : World} {c : Nat} {u0 u1 : Value} (g : Below w.heap.size w w2) (t0 : w.cell? ⟨c, 0, none⟩ = some u0) (t1 : w.cell? ⟨c, 1, none⟩ = some u1) (hl : c < w.heap.size) :
    w2.cell? ⟨c, 0, none⟩ = some u0 ∧ w2.cell? ⟨c, 1, none⟩ = some u1 ∧ c < w2.heap.size :=
  ⟨(g.cell (p := ⟨c, 0, none⟩) hl).trans t0, (g.cell (p := ⟨c, 1, none⟩) hl).trans t1, Nat.lt_of_lt_of_le hl g.size⟩

end Go.Proofs.YtgaggpnlimchkaaGreatDoor.S7

namespace Go.Proofs.YtgaggpnlimchkaaGreatDoor.RI
open Go.ChangeShapes Go.WideShapes Go.ChangeAt Go.RowKit
set_option linter.unusedVariables false

/-- The operations that are still to be done. -/
def left (n : Nat) (L : Array Bool) : List Nat := (List.range n).filter fun i => !L.getD i true

theorem left_less {n i : Nat} {L : Array Bool} (hL : L.size = n) (hi : i < n) (h : L.getD i true = false) : (left n (L.setIfInBounds i true)).length < (left n L).length := by
  have he : left n (L.setIfInBounds i true) = (left n L).filter fun j => decide (j ≠ i) := by
    unfold left
    rw [List.filter_filter]
    refine List.filter_congr fun j _ => ?_
    by_cases e : j = i
    · subst e
      simp [hL, hi]
    · simp [Array.getElem?_setIfInBounds_ne (Ne.symm e), e]
  rw [he, List.length_filter_lt_length_iff_exists]
  refine ⟨i, ?_, by simp⟩
  unfold left
  rw [List.mem_filter]
  exact ⟨by simpa using hi, by rw [h]; rfl⟩

theorem any_inv {P : Program} {ops : Array Oper} {Q : Exit → Act → World → Prop} (J : Array Bool → Act → World → Prop)
    (hs : ∀ L a w, L.size = ops.size → J L a w → ∀ i ∈ Region.ready .any ops L, wpOp P ops Q i (J (L.setIfInBounds i true)) a w)
    (he : ∀ L a w, L.size = ops.size → J L a w → Region.ready .any ops L = [] → Q .normal a w) :
    ∀ (fuel : Nat) (L : Array Bool) (a : Act) (w : World), L.size = ops.size → (left ops.size L).length ≤ fuel → J L a w → wpAny P .any ops Q fuel L a w
  | 0, L, a, w, hL, hf, hJ => by
    have hr : Region.ready .any ops L = [] := by
      have h0 : left ops.size L = [] := List.length_eq_zero_iff.1 (Nat.le_zero.1 hf)
      unfold Region.ready
      rw [List.filter_eq_nil_iff]
      intro i hi hc
      have : i ∈ left ops.size L := by
        unfold left
        rw [List.mem_filter]
        exact ⟨hi, by simp only [Bool.and_eq_true] at hc; exact hc.1⟩
      rw [h0] at this; cases this
    exact ⟨hr, he L a w hL hJ hr⟩
  | fuel + 1, L, a, w, hL, hf, hJ => by
    refine ⟨fun hr => he L a w hL hJ hr, fun i hi => ?_⟩
    refine wpOp_mono ?_ (hs L a w hL hJ i hi)
    intro a' w' hJ'
    have hi' := hi
    unfold Region.ready at hi'
    rw [List.mem_filter] at hi'
    have hlt : i < ops.size := by simpa using hi'.1
    have hnl : L.getD i true = false := by
      have := hi'.2
      simp only [Bool.and_eq_true, Bool.not_eq_true'] at this
      exact this.1
    have := left_less hL hlt hnl
    exact any_inv J hs he fuel _ a' w' (by simpa using hL) (by omega) hJ'

theorem region_inv {P : Program} {ops : Array Oper} {Q : Exit → Act → World → Prop} {id : Nat} {a : Act} {w : World} (hm : P.follows .mixedOrders = true) (J : Array Bool → Act → World → Prop)
    (h0 : J (Array.replicate ops.size false) a w.drew)
    (hs : ∀ L a w, L.size = ops.size → J L a w → ∀ i ∈ Region.ready .any ops L, wpOp P ops Q i (J (L.setIfInBounds i true)) a w)
    (he : ∀ L a w, L.size = ops.size → J L a w → Region.ready .any ops L = [] → Q .normal a w) : (Code.region id ops true).wp P Q a w :=
  wp_region_any hm (any_inv J hs he ops.size _ a _ (by simp) (by
    unfold left
    refine Nat.le_trans (List.length_filter_le _ _) ?_
    simp) h0)

/-- What an operation that is ready leans on. -/
theorem ready_of {ops : Array Oper} {L : Array Bool} {i : Nat} {o : Oper} (hL : L.size = ops.size) (ho : ops[i]? = some o) (h : i ∈ Region.ready .any ops L) : L[i]?.getD false = false ∧ ∀ e ∈ o.after, Region.binds .any e = true → L[e.on]?.getD false = true := by
  unfold Region.ready at h
  rw [List.mem_filter, ho] at h
  obtain ⟨hi, h2⟩ := h
  simp only [Bool.and_eq_true, Bool.not_eq_true', Option.map_some, Option.getD_some, Array.all_eq_true_iff_forall_mem, Bool.or_eq_true, Bool.not_eq_true'] at h2
  have hlt : i < L.size := by rw [hL]; simpa using hi
  refine ⟨?_, fun e he hb => ?_⟩
  · have := h2.1
    rw [Array.getD_eq_getD_getElem?, Array.getElem?_eq_getElem hlt] at this
    rw [Array.getElem?_eq_getElem hlt]
    exact this
  · rcases h2.2 e he with h | h
    · rw [hb] at h; cases h
    · rw [Array.getD_eq_getD_getElem?] at h; exact h

theorem wpOp_of {P : Program} {ops : Array Oper} {Q : Exit → Act → World → Prop} {i : Nat} {o : Oper} {K : Act → World → Prop} {A : Act} {W : World} (ho : ops[i]? = some o) (hg : o.guard = none) (h : o.wp P A W K Q) : wpOp P ops Q i K A W := by
  unfold wpOp
  rw [ho]
  simp only
  rw [if_pos (by simp [Region.wanted, hg])]
  exact Or.inl h

theorem wp_value {P : Program} {Q : Exit → Act → World → Prop} {o : Oper} {K : Act → World → Prop} {A : Act} {W W' : World} {v : Value} (hr : (execOp A.eval o).run P W = .ok (.value v) W') (h : K (A.put o.dst v) W') : o.wp P A W K Q := by
  unfold Oper.wp
  rw [hr]
  exact h

theorem wp_stored {P : Program} {Q : Exit → Act → World → Prop} {o : Oper} {K : Act → World → Prop} {A : Act} {W W' : World} (hr : (execOp A.eval o).run P W = .ok .skip W') (h : K (A.put o.dst undef) W') : o.wp P A W K Q := by
  unfold Oper.wp
  rw [hr]
  exact h

theorem wp_enter {P : Program} {Q : Exit → Act → World → Prop} {o : Oper} {K : Act → World → Prop} {A : Act} {W : World} {f : FuncId} {args : Array Value} (hr : (execOp A.eval o).run P W = .ok (.enter f args) W) (h : Calls P f args W fun e w' => ∃ v, e = .returned v ∧ K (A.put o.dst v) w') : o.wp P A W K Q := by
  unfold Oper.wp
  rw [hr, Oper.upon_enter]
  refine h.mono ?_
  rintro e w' ⟨v, rfl, hk⟩
  exact hk

theorem ready_all {ops : Array Oper} {L : Array Bool} (hd : ((List.range ops.size).all fun i => ((ops[i]?).map (·.after.all fun e => !Region.binds .any e || decide (e.on < i))).getD false) = true) (hL : L.size = ops.size) (hr : Region.ready .any ops L = []) : ∀ i, i < ops.size → L[i]?.getD false = true := by
  intro i
  induction i using Nat.strongRecOn with
  | _ i ih =>
    intro hi
    cases hc : L[i]?.getD false
    · exfalso
      have hm : i ∈ Region.ready .any ops L := by
        unfold Region.ready
        rw [List.mem_filter]
        have hlt : i < L.size := by omega
        rw [Array.getElem?_eq_getElem hlt] at hc
        refine ⟨by simpa using hi, ?_⟩
        rw [Array.getD_eq_getD_getElem?, Array.getElem?_eq_getElem hlt, Array.getElem?_eq_getElem hi]
        have hd' := List.all_eq_true.1 hd i (by simpa using hi)
        rw [Array.getElem?_eq_getElem hi] at hd'
        simp only [Option.map_some, Option.getD_some, Array.all_eq_true_iff_forall_mem, decide_eq_true_eq, Bool.or_eq_true, Bool.not_eq_true'] at hd' ⊢
        simp only [Option.getD_some] at hc
        simp only [hc, Bool.not_false, Bool.true_and, Array.all_eq_true_iff_forall_mem, Bool.or_eq_true, Bool.not_eq_true']
        intro e he
        rcases hd' e he with h | h
        · exact Or.inl h
        · right
          have := ih e.on h (by omega)
          rw [Array.getD_eq_getD_getElem?]; exact this
      rw [hr] at hm; cases hm
    · rfl

/-- What holds whatever of n operations have been done: of sz slots those of ks stay; B: what holds of the world, by what is done; F: what the slot of an operation that is done holds. -/
structure Inv (n sz : Nat) (dst : Nat → Option Nat) (ks : List (Nat × Value)) (B : (Nat → Bool) → World → Prop) (F : Nat → Value → World → Prop) (L : Array Bool) (a : Act) (w : World) : Prop where
  sz : a.tmps.size = sz
  df : a.defers = []
  ks : ∀ kv ∈ ks, a.tmps[kv.1]?.getD undef = kv.2
  bs : B (fun i => L[i]?.getD false) w
  fs : ∀ i, i < n → ∀ d, dst i = some d → L[i]?.getD false = true → F i (a.tmps[d]?.getD undef) w

/-- That no two operations write one slot, and none a slot that stays. -/
def okI (n sz : Nat) (dst : Nat → Option Nat) (ks : List Nat) : Bool :=
  (List.range n).all fun i => match dst i with
    | none => true
    | some d => decide (d < sz) && !ks.contains d && (List.range n).all fun j => i == j || dst j != some d

theorem Inv.step {n sz : Nat} {dst : Nat → Option Nat} {ks : List (Nat × Value)} {B : (Nat → Bool) → World → Prop} {F : Nat → Value → World → Prop} {L : Array Bool} {a : Act} {w w' : World} (hok : okI n sz dst (ks.map (·.1)) = true) (h : Inv n sz dst ks B F L a w) (hL : L.size = n) {i : Nat} (hi : i < n) {v : Value} (d : Option Nat) (hd : dst i = d)
    (hB : B (fun j => Nat.beq j i || L[j]?.getD false) w') (hk : ∀ j v, j < n → F j v w → F j v w') (hn : F i v w') : Inv n sz dst ks B F (L.setIfInBounds i true) (a.put d v) w' := by
  have hset : ∀ k, (L.setIfInBounds i true)[k]?.getD false = (Nat.beq k i || L[k]?.getD false) := fun k => by
    by_cases e : k = i
    · subst e
      rw [Array.getElem?_setIfInBounds_self_of_lt (by omega)]; simp
    · rw [Array.getElem?_setIfInBounds_ne (Ne.symm e)]
      have : Nat.beq k i = false := by
        cases hb : Nat.beq k i
        · rfl
        · exact absurd (Nat.eq_of_beq_eq_true hb) e
      rw [this, Bool.false_or]
  have hsz := h.sz
  have hin := List.all_eq_true.1 hok i (by simpa using hi)
  have hset' : (fun k => (L.setIfInBounds i true)[k]?.getD false) = fun j => Nat.beq j i || L[j]?.getD false := funext hset
  subst hd
  cases hdi : dst i with
  | none =>
    refine ⟨hsz, h.df, h.ks, by rw [hset']; exact hB, fun j hj e he hl => ?_⟩
    rw [hset] at hl
    have hne : j ≠ i := fun e' => by subst e'; rw [hdi] at he; cases he
    have hb : Nat.beq j i = false := by
      cases hb : Nat.beq j i
      · rfl
      · exact absurd (Nat.eq_of_beq_eq_true hb) hne
    rw [hb, Bool.false_or] at hl
    exact hk j _ hj (h.fs j hj e he hl)
  | some d =>
    rw [hdi] at hin
    simp only [Bool.and_eq_true, decide_eq_true_eq, Bool.not_eq_true', List.all_eq_true] at hin
    obtain ⟨⟨hlt, hnk⟩, hinj⟩ := hin
    have hput : ∀ k, (a.put (some d) v).tmps[k]?.getD undef = if k = d then v else a.tmps[k]?.getD undef := fun k => by
      show (a.tmps.setIfInBounds d v)[k]?.getD undef = _
      by_cases e : k = d
      · subst e
        rw [if_pos rfl, Array.getElem?_setIfInBounds_self_of_lt (by omega)]; rfl
      · rw [if_neg e, Array.getElem?_setIfInBounds_ne (Ne.symm e)]
    refine ⟨?_, h.df, fun kv hkv => ?_, by rw [hset']; exact hB, fun j hj e he hl => ?_⟩
    · show (a.tmps.setIfInBounds d v).size = sz
      rw [Array.size_setIfInBounds]; exact hsz
    · have hne : kv.1 ≠ d := fun e => by
        have : (ks.map (·.1)).contains d = true := by rw [List.contains_iff_mem]; exact List.mem_map.2 ⟨kv, hkv, e⟩
        rw [this] at hnk; cases hnk
      rw [hput, if_neg hne]
      exact h.ks kv hkv
    · rw [hput]
      by_cases e' : j = i
      · subst e'
        rw [hdi] at he
        cases he
        rw [if_pos rfl]; exact hn
      · have hne : e ≠ d := fun e'' => by
          subst e''
          have := hinj j (by simpa using hj)
          rw [he] at this
          simp only [Bool.or_eq_true, beq_iff_eq, bne_self_eq_false, Bool.false_eq_true, or_false] at this
          exact e' this.symm
        rw [if_neg hne]
        rw [hset] at hl
        have hb : Nat.beq j i = false := by
          cases hb : Nat.beq j i
          · rfl
          · exact absurd (Nat.eq_of_beq_eq_true hb) e'
        rw [hb, Bool.false_or] at hl
        exact hk j _ hj (h.fs j hj e he hl)

theorem Inv.start {n sz : Nat} {dst : Nat → Option Nat} {ks : List (Nat × Value)} {B : (Nat → Bool) → World → Prop} {F : Nat → Value → World → Prop} {a : Act} {w : World} (hsz : a.tmps.size = sz) (hdf : a.defers = []) (hks : ∀ kv ∈ ks, a.tmps[kv.1]?.getD undef = kv.2) (hB : B (fun _ => false) w) : Inv n sz dst ks B F (Array.replicate n false) a w := by
  have h0 : ∀ k, (Array.replicate n false)[k]?.getD false = false := fun k => by
    rw [Array.getElem?_replicate]
    split <;> rfl
  refine ⟨hsz, hdf, hks, ?_, fun i _ d _ hl => ?_⟩
  · rw [show (fun k => (Array.replicate n false)[k]?.getD false) = fun _ => false from funext h0]
    exact hB
  · rw [h0] at hl; cases hl

/-- The slot that operation j writes. -/
def dstOf (ops : Array Oper) (j : Nat) : Option Nat := (ops[j]?).bind (·.dst)

/-- That operation i comes behind operation j. -/
def behind (ops : Array Oper) (i j : Nat) : Bool := ((ops[i]?).map (·.after.any fun e => Region.binds .any e && e.on == j)).getD false

/-- That no operation of the region writes slot k. -/
def apart (ops : Array Oper) (k : Nat) : Bool := ops.all fun o => o.dst != some k

/-- The frame behind the region: ms tells of each slot which operation writes it. -/
def mergeL (val : List Value) : List (Option Nat) → List Value → List Value
  | [], xs => xs
  | _ :: _, [] => []
  | none :: ms, x :: xs => x :: mergeL val ms xs
  | some i :: ms, _ :: xs => (val[i]?.getD undef) :: mergeL val ms xs

def okM (ops : Array Oper) (ms : List (Option Nat)) : Bool :=
  ((List.range ops.size).all fun i => match dstOf ops i with
    | none => true
    | some d => ms[d]? == some (some i)) &&
  (List.range ms.length).all fun k => match ms[k]? with
    | some (some i) => dstOf ops i == some k
    | _ => true

theorem merge_len (val : List Value) : ∀ (ms : List (Option Nat)) (xs : List Value), (mergeL val ms xs).length = xs.length
  | [], xs => by cases xs <;> rfl
  | none :: ms, [] => rfl
  | some _ :: ms, [] => rfl
  | none :: ms, x :: xs => by simp [mergeL, merge_len val ms xs]
  | some i :: ms, x :: xs => by simp [mergeL, merge_len val ms xs]

theorem merge_at (val : List Value) : ∀ (ms : List (Option Nat)) (xs : List Value) (k : Nat), k < xs.length → (mergeL val ms xs)[k]? = match ms[k]? with
    | some (some i) => some (val[i]?.getD undef)
    | _ => xs[k]?
  | [], xs, k, _ => by cases xs <;> simp [mergeL]
  | _ :: ms, [], k, h => by simp at h
  | none :: ms, x :: xs, 0, _ => by simp [mergeL]
  | some i :: ms, x :: xs, 0, _ => by simp [mergeL]
  | none :: ms, x :: xs, k + 1, h => by simpa [mergeL] using merge_at val ms xs k (by simpa using h)
  | some i :: ms, x :: xs, k + 1, h => by simpa [mergeL] using merge_at val ms xs k (by simpa using h)

/-- What operation i finds. -/
structure At (R : Nat → Nat → Bool) (ops : Array Oper) (val : List Value) (a : Act) (i : Nat) (A : Act) : Prop where
  st : ∀ k, apart ops k = true → A.tmps[k]?.getD undef = a.tmps[k]?.getD undef
  on : ∀ j d, dstOf ops j = some d → R i j = true → A.tmps[d]?.getD undef = val[j]?.getD undef

/-- What holds where the operations of D have been done. -/
structure Det (ops : Array Oper) (val : List Value) (a : Act) (B : World → Prop) (D : Nat → Prop) (A : Act) (w : World) : Prop where
  sz : A.tmps.size = a.tmps.size
  rs : A = { a with tmps := A.tmps }
  st : ∀ k, apart ops k = true → A.tmps[k]?.getD undef = a.tmps[k]?.getD undef
  on : ∀ j d, dstOf ops j = some d → D j → A.tmps[d]?.getD undef = val[j]?.getD undef
  bs : B w

def okD (ops : Array Oper) (n : Nat) : Bool :=
  (List.range ops.size).all fun i => (((ops[i]?).map (·.after.all fun e => !Region.binds .any e || decide (e.on < i))).getD false) && match dstOf ops i with
    | none => true
    | some d => decide (d < n) && (List.range ops.size).all fun j => i == j || dstOf ops j != some d

theorem okD_row {ops : Array Oper} {n : Nat} (hok : okD ops n = true) (i : Nat) (hi : i < ops.size) (d : Nat) (hd : dstOf ops i = some d) : d < n ∧ ∀ j, j ≠ i → dstOf ops j ≠ some d := by
  have h1 := List.all_eq_true.1 hok i (by simpa using hi)
  rw [hd] at h1
  simp only [Bool.and_eq_true, decide_eq_true_eq, List.all_eq_true] at h1
  refine ⟨h1.2.1, fun j hj e => ?_⟩
  by_cases hj2 : j < ops.size
  · have := h1.2.2 j (by simpa using hj2)
    rw [e] at this
    simp at this
    exact hj this.symm
  · unfold dstOf at e
    rw [Array.getElem?_eq_none (by omega)] at e
    cases e

theorem Det.put {ops : Array Oper} {val : List Value} {a : Act} {B : World → Prop} {D D' : Nat → Prop} {A : Act} {w w' : World} (hok : okD ops a.tmps.size = true) (hJ : Det ops val a B D A w) {i : Nat} (hin : i < ops.size) (hB' : B w') (hD : ∀ j, D' j → j = i ∨ D j) : Det ops val a B D' (A.put (dstOf ops i) (val[i]?.getD undef)) w' := by
  obtain ⟨o, ho⟩ : ∃ o, ops[i]? = some o := ⟨_, Array.getElem?_eq_getElem hin⟩
  cases hdi : dstOf ops i with
  | none =>
    refine ⟨hJ.sz, hJ.rs, hJ.st, fun j d hd hl => hJ.on j d hd ?_, hB'⟩
    rcases hD j hl with rfl | h
    · rw [hdi] at hd; cases hd
    · exact h
  | some d =>
    obtain ⟨hdl, hdn⟩ := okD_row hok i hin d hdi
    have hsz := hJ.sz
    have hput : ∀ k, (A.put (some d) (val[i]?.getD undef)).tmps[k]?.getD undef = if k = d then val[i]?.getD undef else A.tmps[k]?.getD undef := fun k => by
      show (A.tmps.setIfInBounds d _)[k]?.getD undef = _
      by_cases e : k = d
      · subst e
        rw [if_pos rfl, Array.getElem?_setIfInBounds_self_of_lt (by omega)]; rfl
      · rw [if_neg e, Array.getElem?_setIfInBounds_ne (Ne.symm e)]
    refine ⟨?_, ?_, fun k hk => ?_, fun j e he hl => ?_, hB'⟩
    · show (A.tmps.setIfInBounds d _).size = _
      rw [Array.size_setIfInBounds]; exact hsz
    · show ({ A with tmps := A.tmps.setIfInBounds d _ } : Act) = _
      rw [hJ.rs]
      rfl
    · have hne : k ≠ d := by
        rintro rfl
        have hd' : o.dst = some k := by
          unfold dstOf at hdi
          rw [ho] at hdi
          exact hdi
        obtain ⟨hl', he'⟩ := Array.getElem?_eq_some_iff.1 ho
        have := Array.all_eq_true_iff_forall_mem.1 hk o (he' ▸ Array.getElem_mem hl')
        rw [hd'] at this
        simp at this
      rw [hput, if_neg hne]
      exact hJ.st k hk
    · rw [hput]
      by_cases e' : j = i
      · subst e'
        rw [hdi] at he
        cases he
        rw [if_pos rfl]
      · have hne : e ≠ d := fun e'' => hdn j e' (e'' ▸ he)
        rw [if_neg hne]
        rcases hD j hl with h | h
        · exact absurd h e'
        · exact hJ.on j e he h

theorem Det.frame {ops : Array Oper} {val : List Value} {a : Act} {B : World → Prop} {D : Nat → Prop} {A : Act} {w : World} {ms : List (Option Nat)} (hok : okD ops a.tmps.size = true) (hms : okM ops ms = true) (hJ : Det ops val a B D A w) (hall : ∀ j, j < ops.size → D j) : A = { a with tmps := (mergeL val ms a.tmps.toList).toArray } := by
  obtain ⟨hm1, hm2⟩ := Bool.and_eq_true_iff.1 hms
  have hTe : A.tmps = (mergeL val ms a.tmps.toList).toArray := by
    refine Array.ext (by simp [merge_len, hJ.sz]) fun k h1 h2 => ?_
    have hk : k < a.tmps.size := by have := hJ.sz; omega
    have key : A.tmps[k]?.getD undef = (mergeL val ms a.tmps.toList)[k]?.getD undef := by
      rw [merge_at val ms _ k (by simpa using hk)]
      cases hap : apart ops k with
      | true =>
        have hno : ∀ i, ms[k]? ≠ some (some i) := fun i e => by
          have hkl : k < ms.length := (List.getElem?_eq_some_iff.1 e).1
          have := List.all_eq_true.1 hm2 k (by simpa using hkl)
          rw [e] at this
          have hd : dstOf ops i = some k := by simpa using this
          unfold dstOf at hd
          cases ho : ops[i]? with
          | none => rw [ho] at hd; cases hd
          | some o =>
            rw [ho] at hd
            have hd' : o.dst = some k := hd
            obtain ⟨hlt', he'⟩ := Array.getElem?_eq_some_iff.1 ho
            have := Array.all_eq_true_iff_forall_mem.1 hap o (he' ▸ Array.getElem_mem hlt')
            rw [hd'] at this
            simp at this
        rw [hJ.st k hap]
        split
        · rename_i i e
          exact absurd e (hno i)
        · simp
      | false =>
        obtain ⟨o, ho, hok'⟩ : ∃ o ∈ ops, o.dst = some k := by
          unfold apart at hap
          obtain ⟨k', hk', hne⟩ := Array.all_eq_false.1 hap
          exact ⟨_, Array.getElem_mem hk', by simpa using hne⟩
        obtain ⟨j, hj, rfl⟩ := Array.mem_iff_getElem.1 ho
        have hdj : dstOf ops j = some k := by
          unfold dstOf
          rw [Array.getElem?_eq_getElem hj]
          exact hok'
        have := List.all_eq_true.1 hm1 j (by simpa using hj)
        rw [hdj] at this
        have hmk : ms[k]? = some (some j) := by simpa using this
        rw [hJ.on j k hdj (hall j hj), hmk]
        rfl
    have h2' : k < (mergeL val ms a.tmps.toList).length := by simpa using h2
    rw [Array.getElem?_eq_getElem h1, List.getElem?_eq_getElem h2'] at key
    simpa using key
  rw [hJ.rs, hTe]

/-- A region that draws its order, where each operation yields one and the same whatever the order: 'val' (what is not wanted yields 'undef'), and B is kept. -/
theorem region_det {P : Program} {ops : Array Oper} {Q : Exit → Act → World → Prop} {id : Nat} {a : Act} {w : World} (hm : P.follows .mixedOrders = true) (val : List Value) (B : World → Prop) (ms : List (Option Nat))
    (hok : okD ops a.tmps.size = true) (hms : okM ops ms = true) (hB : B w.drew)
    (hs : ∀ i, i < ops.size → ∀ A W, B W → At (behind ops) ops val a i A → wpOp P ops Q i (fun A' W' => A' = A.put (dstOf ops i) (val[i]?.getD undef) ∧ B W') A W)
    (he : ∀ W, B W → Q .normal { a with tmps := (mergeL val ms a.tmps.toList).toArray } W) : (Code.region id ops true).wp P Q a w := by
  refine region_inv hm (fun L => Det ops val a B fun j => L[j]?.getD false = true) ⟨rfl, rfl, fun _ _ => rfl, fun j d _ hl => ?_, hB⟩ (fun L A W hL hJ i hi => ?_) (fun L A W hL hJ hr => ?_)
  · rw [Array.getElem?_replicate] at hl
    split at hl <;> cases hl
  · have hin : i < ops.size := by
      unfold Region.ready at hi
      rw [List.mem_filter] at hi
      simpa using hi.1
    obtain ⟨o, ho⟩ : ∃ o, ops[i]? = some o := ⟨_, Array.getElem?_eq_getElem hin⟩
    have hdep := (ready_of hL ho hi).2
    refine wpOp_mono (fun A' W' hh => ?_) (hs i hin A W hJ.bs ⟨hJ.st, fun j d hd hb => hJ.on j d hd ?_⟩)
    · obtain ⟨rfl, hB'⟩ := hh
      refine hJ.put hok hin hB' fun j hl => ?_
      by_cases e : j = i
      · exact Or.inl e
      · right
        rwa [Array.getElem?_setIfInBounds_ne (Ne.symm e)] at hl
    · unfold behind at hb
      rw [ho] at hb
      simp only [Option.map_some, Option.getD_some] at hb
      obtain ⟨k, hk, hb⟩ := Array.any_eq_true.1 hb
      simp only [Bool.and_eq_true, beq_iff_eq] at hb
      obtain ⟨hbe, rfl⟩ := hb
      exact hdep _ (Array.getElem_mem hk) hbe
  · have hall := ready_all (List.all_eq_true.2 fun i hi => by
      have := List.all_eq_true.1 hok i hi
      simp only [Bool.and_eq_true] at this
      exact this.1) hL hr
    rw [hJ.frame hok hms hall]
    exact he W hJ.bs

theorem seq_det {P : Program} {ops : Array Oper} {Q : Exit → Act → World → Prop} {a : Act} {val : List Value} {B : World → Prop} {ms : List (Option Nat)} (hok : okD ops a.tmps.size = true) (hms : okM ops ms = true)
    (hs : ∀ i, i < ops.size → ∀ A W, B W → At (fun i j => Nat.blt j i) ops val a i A → wpOp P ops Q i (fun A' W' => A' = A.put (dstOf ops i) (val[i]?.getD undef) ∧ B W') A W)
    (he : ∀ W, B W → Q .normal { a with tmps := (mergeL val ms a.tmps.toList).toArray } W) : ∀ (m k : Nat) (A : Act) (W : World), k + m = ops.size → Det ops val a B (fun j => j < k) A W → wpOps P ops Q (List.range' k m) A W
  | 0, k, A, W, hk, hJ => by
    show Q .normal A W
    rw [hJ.frame hok hms fun j hj => by omega]
    exact he W hJ.bs
  | m + 1, k, A, W, hk, hJ => by
    rw [show List.range' k (m + 1) = k :: List.range' (k + 1) m from rfl, wpOps_cons]
    have hin : k < ops.size := by omega
    refine wpOp_mono (fun A' W' hh => ?_) (hs k hin A W hJ.bs ⟨hJ.st, fun j d hd hb => hJ.on j d hd ?_⟩)
    · obtain ⟨rfl, hB'⟩ := hh
      exact seq_det hok hms hs he m (k + 1) _ _ (by omega) (hJ.put hok hin hB' fun j hl => by omega)
    · simpa using hb

/-- The same of a region that does not draw its order. -/
theorem region_det1 {P : Program} {ops : Array Oper} {Q : Exit → Act → World → Prop} {id : Nat} {a : Act} {w : World} (val : List Value) (B : World → Prop) (ms : List (Option Nat))
    (hok : okD ops a.tmps.size = true) (hms : okM ops ms = true) (hB : B w)
    (hs : ∀ i, i < ops.size → ∀ A W, B W → At (fun i j => Nat.blt j i) ops val a i A → wpOp P ops Q i (fun A' W' => A' = A.put (dstOf ops i) (val[i]?.getD undef) ∧ B W') A W)
    (he : ∀ W, B W → Q .normal { a with tmps := (mergeL val ms a.tmps.toList).toArray } W) : (Code.region id ops false).wp P Q a w := by
  refine wp_region ?_
  rw [List.range_eq_range']
  exact seq_det hok hms hs he ops.size 0 a w (by omega) ⟨rfl, rfl, fun _ _ => rfl, fun j d _ hl => absurd hl (Nat.not_lt_zero _), hB⟩

theorem yielded_bool {ops : Array Oper} {t : Array Value} {j d : Nat} {b : Bool} (hd : dstOf ops j = some d) (hv : t[d]?.getD undef = .bool b) : yielded ops t j = some b := by
  unfold yielded
  unfold dstOf at hd
  rw [hd]
  cases hc : t[d]? with
  | none => rw [hc] at hv; cases hv
  | some v =>
    rw [hc] at hv
    have : v = .bool b := hv
    subst this
    simp [hc]

theorem yielded_other {ops : Array Oper} {t : Array Value} {j d : Nat} {b : Bool} (hd : dstOf ops j = some d) (hv : t[d]?.getD undef ≠ .bool b) : yielded ops t j ≠ some b := by
  unfold yielded
  unfold dstOf at hd
  rw [hd]
  cases hc : t[d]? with
  | none => simp [hc]
  | some v =>
    rw [hc] at hv
    have hv' : v ≠ .bool b := hv
    simp only [Option.bind_some, hc]
    intro h
    split at h
    · rename_i b' he
      cases he
      cases h
      exact hv' rfl
    · cases h

/-- A guarded operation that is wanted. -/
theorem wpOp_want {P : Program} {ops : Array Oper} {Q : Exit → Act → World → Prop} {i : Nat} {o : Oper} {K : Act → World → Prop} {A : Act} {W : World} {j d : Nat} {b : Bool} (ho : ops[i]? = some o) (hg : o.guard = some (j, b)) (hd : dstOf ops j = some d) (hv : A.tmps[d]?.getD undef = .bool b) (h : o.wp P A W K Q) : wpOp P ops Q i K A W := by
  unfold wpOp
  rw [ho]
  simp only
  rw [if_pos (by simp [Region.wanted, hg, yielded_bool hd hv])]
  exact Or.inl h

/-- A guarded operation that is not wanted. -/
theorem wpOp_pass {P : Program} {ops : Array Oper} {Q : Exit → Act → World → Prop} {i : Nat} {o : Oper} {K : Act → World → Prop} {A : Act} {W : World} {j d : Nat} {b : Bool} (ho : ops[i]? = some o) (hg : o.guard = some (j, b)) (hd : dstOf ops j = some d) (v : Value) (hv : A.tmps[d]?.getD undef = v) (hne : v ≠ .bool b) (h : K (A.put o.dst undef) W) : wpOp P ops Q i K A W := by
  unfold wpOp
  rw [ho]
  simp only
  rw [if_neg (by simpa [Region.wanted, hg] using yielded_other hd (fun e => hne (hv ▸ e)))]
  exact h

end Go.Proofs.YtgaggpnlimchkaaGreatDoor.RI

namespace Go.Proofs.YtgaggpnlimchkaaGreatDoor.W8
open Go.Proofs.YtgaggpnlimchkaaGreatDoor.B1 Go.Proofs.YtgaggpnlimchkaaGreatDoor.D1
open Go.ChangeShapes Go.WideShapes Go.ChangeAt Go.RowKit
set_option linter.unusedVariables false

/-- A type of n cells that is a struct or an array. -/
def wideT (P : Program) (ty : TypeId) (n : Nat) : Bool := (match P.underlying ty with | some (.struct _) => true | some (.array _ _) => true | _ => false) && (P.info? ty).map (·.size) == some n

theorem add_lit (b o j : Nat) : (⟨b, o, none⟩ : Addr).add j = ⟨b, o + j, none⟩ := by unfold Addr.add; split <;> simp_all

/-- A load of many cells. -/
theorem load_cells {P : Program} {ty : TypeId} {b o : Nat} {vs : List Value} {w : World} (ht : wideT P ty vs.length = true) (h : ∀ j v, vs[j]? = some v → w.cell? ⟨b, o + j, none⟩ = some v) : (loadVar ty ⟨b, o, none⟩).run P w = .ok (.agg vs.toArray) w := by
  unfold wideT at ht
  rw [Bool.and_eq_true] at ht
  obtain ⟨h1, h2⟩ := ht
  have hl : (loadCells ⟨b, o, none⟩ vs.length).run P w = .ok vs.toArray w := run_loadCells_list (P := P) w ⟨b, o, none⟩ vs (fun j v hv => by rw [add_lit]; exact h j v hv)
  cases hq : P.info? ty with
  | none => simp [hq] at h2
  | some i =>
    have hs : i.size = vs.length := by simpa [hq] using h2
    have hagg : (isAgg ty).run P w = .ok true w := by
      unfold isAgg
      cases hu : P.underlying ty with
      | none => rw [hu] at h1; cases h1
      | some d =>
        rw [hu] at h1
        rw [Sem.run_bind, run_underlying hu w]
        cases d <;> simp_all
    simp [loadVar, Sem.run_bind, hagg, sizeOf, typeInfo, hq, hs, hl]

/-- A load of a whole block. -/
theorem load_blk {P : Program} {ty : TypeId} {b : Nat} {vs : List Value} {w : World} (h : LBlk w b vs) (ht : wideT P ty vs.length = true) : (loadVar ty ⟨b, 0, none⟩).run P w = .ok (.agg vs.toArray) w :=
  load_cells ht fun j v hv => by rw [Nat.zero_add]; exact (h.2 j v hv).1

/-- A load of a stretch of a block. -/
theorem load_part {P : Program} {ty : TypeId} {b o : Nat} {all vs : List Value} {w : World} (h : LBlk w b all) (ht : wideT P ty vs.length = true) (hs : (all.drop o).take vs.length = vs) : (loadVar ty ⟨b, o, none⟩).run P w = .ok (.agg vs.toArray) w :=
  load_cells ht fun j v hv => by
    refine (h.2 (o + j) v ?_).1
    have hj : j < vs.length := (List.getElem?_eq_some_iff.1 hv).1
    rw [← hs, List.getElem?_take, if_pos hj, List.getElem?_drop] at hv
    exact hv

theorem store_from {P : Program} {b : Nat} : ∀ (vs : List Value) (i : Nat) (cur : List Value) (w : World), LBlk w b cur → i + vs.length ≤ cur.length → (∀ v ∈ vs, v.oneCell' = true) →
    ∃ w', (storeCells ⟨b, 0, none⟩ vs i).run P w = .ok () w' ∧ LBlk w' b (cur.take i ++ vs ++ cur.drop (i + vs.length)) ∧ Only b w w' ∧ w'.heap.size = w.heap.size
  | [], i, cur, w, h, hl, _ => ⟨w, rfl, by simpa using h, Only.refl _ _, rfl⟩
  | v :: rest, i, cur, w, h, hl, h1 => by
    have hi : i < cur.length := by simp at hl; omega
    obtain ⟨hc, hf⟩ := h.2 i cur[i] (List.getElem?_eq_getElem hi)
    have hst : (store ((⟨b, 0, none⟩ : Addr).add i) v).run P w = .ok () (w.setCell ⟨b, i, none⟩ v) := by
      rw [add_lit, Nat.zero_add, run_store P w _ v _ (h1 v (by simp)), hc]
      simp [hf]
    obtain ⟨w', e, hl', ho, hs⟩ := store_from (P := P) rest (i + 1) (cur.set i v) (w.setCell ⟨b, i, none⟩ v) (h.set i v hi) (by simp at hl ⊢; omega) (fun x hx => h1 x (by simp [hx]))
    refine ⟨w', ?_, ?_, ((Only.refl b w).setCell rfl v).trans ho, by rw [hs]; simp [World.setCell]⟩
    · simp only [storeCells, Sem.run_bind, hst, Result.andThen_ok, e]
    · have he : (cur.set i v).take (i + 1) ++ rest ++ (cur.set i v).drop (i + 1 + rest.length) = cur.take i ++ (v :: rest) ++ cur.drop (i + (v :: rest).length) := by
        apply List.ext_getElem?
        intro k
        simp only [List.length_cons, List.getElem?_append, List.length_append, List.length_take, List.length_set, List.getElem?_take, List.getElem?_set, List.getElem?_drop]
        by_cases hk : k < i
        · simp [hk, show k < i + 1 by omega, show k < min (i + 1) cur.length by omega, show k < min (i + 1) cur.length + rest.length by omega, show k < min i cur.length by omega, show k < min i cur.length + (rest.length + 1) by omega, show i ≠ k by omega]
        · by_cases hk2 : k = i
          · subst hk2
            simp [show min (k + 1) cur.length = k + 1 by omega, show min k cur.length = k by omega, hi, show k < k + 1 + rest.length by omega]
          · by_cases hk3 : k < i + 1 + rest.length
            · simp [show min (i + 1) cur.length = i + 1 by omega, show min i cur.length = i by omega, hk3, show ¬ k < i + 1 by omega, hk, show k < i + (rest.length + 1) by omega, show k - i = (k - (i + 1)) + 1 by omega]
            · simp [show min (i + 1) cur.length = i + 1 by omega, show min i cur.length = i by omega, hk3, show ¬ k < i + (rest.length + 1) by omega, show ¬ i = i + 1 + rest.length + (k - (i + 1 + rest.length)) by omega]
              congr 1
              omega
      rw [he] at hl'
      exact hl'

/-- A store over a whole block. -/
theorem store_blk {P : Program} {ty : TypeId} {b : Nat} {old vs : List Value} {w : World} (h : LBlk w b old) (ht : wideT P ty vs.length = true) (hl : old.length = vs.length) (h1 : vs.all (·.oneCell') = true) : ∃ w', (storeVar ty ⟨b, 0, none⟩ (.agg vs.toArray)).run P w = .ok () w' ∧ LBlk w' b vs ∧ Only b w w' ∧ w'.heap.size = w.heap.size := by
  obtain ⟨w', e, hl', ho, hs⟩ := store_from (P := P) vs 0 old w h (by omega) (fun v hv => List.all_eq_true.1 h1 v hv)
  rw [Nat.zero_add, List.take_zero, List.nil_append, List.drop_of_length_le (by omega), List.append_nil] at hl'
  refine ⟨w', ?_, hl', ho, hs⟩
  unfold wideT at ht
  rw [Bool.and_eq_true] at ht
  obtain ⟨_, h2⟩ := ht
  cases hq : P.info? ty with
  | none => simp [hq] at h2
  | some i =>
    have hs : vs.length = i.size := by simp [hq] at h2; omega
    simp [storeVar, sizeOf, typeInfo, hq, Value.cells, hs, e]

section
variable {P : Program} {ops : Array Oper} {Q : Exit → Act → World → Prop} {a : Act} {w w' : World} {rest : List Oper} {o : Oper}

theorem wpList_load_eq {ty : TypeId} {x : Operand} {p : Addr} {v : Value} (hr : (loadVar ty p).run P w = .ok v w') (hg : o.guard = none) (ho : o.op = .load ty x) (hx : a.eval x = .pointer (some p)) (h : wpList P ops Q rest (a.put o.dst v) w') : wpList P ops Q (o :: rest) a w := by
  refine wpList_plain hg fun K hK => ?_
  unfold Oper.wp execOp
  simp only [ho, hx, Instr.loadAt, Instr.sureAddr, Sem.run_bind, Sem.run_pure, Result.andThen_ok, hr]
  exact hK _ _ h

theorem wpList_store_eq {ty : TypeId} {x y : Operand} {p : Addr} {v : Value} (hr : (storeVar ty p v).run P w = .ok () w') (hg : o.guard = none) (ho : o.op = .store ty x y) (hx : a.eval x = .pointer (some p)) (hy : a.eval y = v) (h : wpList P ops Q rest (a.put o.dst undef) w') : wpList P ops Q (o :: rest) a w := by
  refine wpList_plain hg fun K hK => ?_
  unfold Oper.wp execOp
  simp only [ho, hx, hy, Instr.storeAt, Instr.sureAddr, Sem.run_bind, Sem.run_pure, Result.andThen_ok, hr]
  exact hK _ _ h
end

/-- A result that lies in a cell, and a second one in a slot. -/
theorem results_wide2 {P : Program} {fn : Func} {p u : Tmp} {ty : TypeId} {tmps : Array Value} {w : World} {ad : Addr} {v : Value} (hr : (loadVar ty ad).run P w = .ok v w) (h : fn.results = #[.cell p ty, .tmp u]) (hp : tmps.getD p undef = .pointer (some ad)) : (results fn tmps).run P w = .ok (.tuple #[v, tmps.getD u undef]) w := by
  rw [results_cell_tmp h, hp]
  simp [asAddr, Result.andThen, hr]

/-- One result, that lies in a cell. -/
theorem results_wide {P : Program} {fn : Func} {p : Tmp} {ty : TypeId} {tmps : Array Value} {w : World} {ad : Addr} {v : Value} (hr : (loadVar ty ad).run P w = .ok v w) (h : fn.results = #[.cell p ty]) (hp : tmps.getD p undef = .pointer (some ad)) : (results fn tmps).run P w = .ok v w := by
  have hp' : tmps[p]?.getD undef = .pointer (some ad) := by simpa using hp
  simp [results, h, hp', asAddr, hr]

end Go.Proofs.YtgaggpnlimchkaaGreatDoor.W8

namespace Go.Proofs.YtgaggpnlimchkaaGreatDoor.RC
open Go.Proofs.YtgaggpnlimchkaaGreatDoor.D1
open Go.ChangeShapes Go.WideShapes Go.ChangeAt Go.RowKit
set_option linter.unusedVariables false

/-- Block g holds these records, one behind the other. -/
structure Row (m : Nat) (w : World) (g cap : Nat) (rs : List (List Value)) : Prop where
  cells : ∀ i r, rs[i]? = some r → ∀ j v, r[j]? = some v → w.cell? ⟨g, i * m + j, none⟩ = some v
  room : rs.length ≤ cap
  top : cap ≤ 9223372036854775807
  lt : g < w.heap.size

theorem Row.on {m : Nat} {w w' : World} {g cap : Nat} {rs : List (List Value)} (h : Row m w g cap rs) (hb : Below w.heap.size w w') : Row m w' g cap rs :=
  ⟨fun i r hr j v hv => (hb.cell (p := ⟨g, i * m + j, none⟩) h.lt).trans (h.cells i r hr j v hv), h.room, h.top, Nat.lt_of_lt_of_le h.lt hb.size⟩

theorem Row.only {m c : Nat} {w w' : World} {g cap : Nat} {rs : List (List Value)} (h : Row m w g cap rs) (ho : Only c w w') (hg : g ≠ c) : Row m w' g cap rs :=
  ⟨fun i r hr j v hv => (ho.cell (p := ⟨g, i * m + j, none⟩) hg h.lt).trans (h.cells i r hr j v hv), h.room, h.top, Nat.lt_of_lt_of_le h.lt ho.size⟩

theorem flat_len {m : Nat} : ∀ {rs : List (List Value)}, (∀ r ∈ rs, r.length = m) → rs.flatten.length = rs.length * m
  | [], _ => by simp
  | r :: t, h => by
    rw [List.flatten_cons, List.length_append, h r (List.mem_cons_self ..), flat_len (fun x hx => h x (List.mem_cons_of_mem _ hx)), List.length_cons, Nat.add_mul]
    omega

theorem flat_at {m : Nat} : ∀ {rs : List (List Value)} {i : Nat} {r : List Value} {j : Nat} {v : Value}, (∀ r ∈ rs, r.length = m) → rs[i]? = some r → r[j]? = some v → rs.flatten[i * m + j]? = some v
  | [], i, r, j, v, _, hr, _ => by simp at hr
  | x :: t, 0, r, j, v, h, hr, hv => by
    obtain rfl : x = r := by simpa using hr
    rw [List.flatten_cons, Nat.zero_mul, Nat.zero_add, List.getElem?_append_left (List.getElem?_eq_some_iff.1 hv).1]
    exact hv
  | x :: t, i + 1, r, j, v, h, hr, hv => by
    have hx := h x (List.mem_cons_self ..)
    rw [List.flatten_cons, List.getElem?_append_right (by rw [hx, Nat.add_mul]; omega), hx, show (i + 1) * m + j - m = i * m + j by rw [Nat.add_mul]; omega]
    exact flat_at (fun y hy => h y (List.mem_cons_of_mem _ hy)) (by simpa using hr) hv

/-- A slice of records of the call's own. -/
def Own (e : TypeId) (m : Nat) (w : World) (v : Value) (B : Nat) (rs : List (List Value)) : Prop := w.ownsRow B e m v rs.length rs.flatten ∧ ∀ r ∈ rs, r.length = m

theorem Own.on {e : TypeId} {m : Nat} {w w' : World} {v : Value} {B : Nat} {rs : List (List Value)} (h : Own e m w v B rs) (hb : Below w.heap.size w w') : Own e m w' v B rs :=
  ⟨h.1.kept (row := none) ⟨hb.os, hb.tape, hb.output, hb.size, fun k hk _ => hb.block k hk⟩ (by cases hv : v.ownBlock <;> simp), h.2⟩

theorem Own.more {e : TypeId} {m : Nat} {w : World} {v : Value} {B : Nat} {rs : List (List Value)} {r : List Value} (hm : ∀ x ∈ rs, x.length = m) (hr : r.length = m) (h : w.ownsRow B e m v (rs.length + 1) (rs.flatten ++ r)) : Own e m w v B (rs ++ [r]) := by
  refine ⟨?_, fun x hx => ?_⟩
  · rw [List.length_append, List.flatten_append]
    simpa using h
  · rcases List.mem_append.1 hx with hx | hx
    · exact hm x hx
    · obtain rfl : x = r := by simpa using hx
      exact hr

theorem Own.row {e : TypeId} {m : Nat} {w : World} {v : Value} {B : Nat} {rs : List (List Value)} (h : Own e m w v B rs) : (v = .slice none 0 0 ∧ rs = []) ∨ ∃ g cap, v = .slice (some ⟨g, 0, none⟩) rs.length cap ∧ B ≤ g ∧ Row m w g cap rs := by
  have h' := h.1
  rcases h'.2 with ⟨hv, hn⟩ | ⟨g, cap, cur, rfl, hb, hg, hnc, hm, _⟩
  · exact Or.inl ⟨hv, List.length_eq_zero_iff.1 hn⟩
  · refine Or.inr ⟨g, cap, rfl, hb, ⟨fun i r hr j v hv => ?_, hnc, by unfold maxLen at hm; omega, (Array.getElem?_eq_some_iff.1 hg).1⟩⟩
    have hi := (List.getElem?_eq_some_iff.1 hr).1
    have hj := (List.getElem?_eq_some_iff.1 hv).1
    have hrm := h.2 r (List.mem_of_getElem? hr)
    rw [World.ownsRow.cellAt h' _ (by
      have : i * m + m ≤ rs.length * m := by rw [← Nat.succ_mul]; exact Nat.mul_le_mul_right m hi
      omega)]
    exact flat_at h.2 hr hv

/-- A slice of records, nil or not. -/
def Val (m : Nat) (w : World) (v : Value) (rs : List (List Value)) : Prop := (v = .slice none 0 0 ∧ rs = []) ∨ ∃ g cap, v = .slice (some ⟨g, 0, none⟩) rs.length cap ∧ Row m w g cap rs

theorem Own.val {e : TypeId} {m : Nat} {w : World} {v : Value} {B : Nat} {rs : List (List Value)} (h : Own e m w v B rs) : Val m w v rs := by
  rcases h.row with h | ⟨g, cap, e, _, hr⟩
  · exact Or.inl h
  · exact Or.inr ⟨g, cap, e, hr⟩

theorem Val.on {m : Nat} {w w' : World} {v : Value} {rs : List (List Value)} (h : Val m w v rs) (hb : Below w.heap.size w w') : Val m w' v rs := by
  rcases h with h | ⟨g, cap, e, hr⟩
  · exact Or.inl h
  · exact Or.inr ⟨g, cap, e, hr.on hb⟩

/-- Where it is not empty it lies in a block. -/
theorem Val.form {m : Nat} {w : World} {v : Value} {rs : List (List Value)} (h : Val m w v rs) : ∃ a cap, v = .slice a rs.length cap ∧ cap ≤ 9223372036854775807 ∧ rs.length ≤ cap ∧ (rs ≠ [] → ∃ g, a = some ⟨g, 0, none⟩ ∧ Row m w g cap rs) := by
  rcases h with ⟨rfl, rfl⟩ | ⟨g, cap, rfl, hr⟩
  · exact ⟨none, 0, rfl, by omega, Nat.le_refl _, fun h => absurd rfl h⟩
  · exact ⟨_, _, rfl, hr.top, hr.room, fun _ => ⟨g, rfl, hr⟩⟩

end Go.Proofs.YtgaggpnlimchkaaGreatDoor.RC

namespace Go.Proofs.YtgaggpnlimchkaaGreatDoor.RC
open Go.Proofs.YtgaggpnlimchkaaGreatDoor.D1 Go.Proofs.YtgaggpnlimchkaaGreatDoor.W8 Go.Proofs.YtgaggpnlimchkaaGreatDoor.B1
open Go.ChangeShapes Go.WideShapes Go.ChangeAt Go.RowKit
set_option linter.unusedVariables false

/-- From this place on these records lie, one behind the other. -/
structure At (m : Nat) (w : World) (g off : Nat) (rs : List (List Value)) : Prop where
  cells : ∀ i r, rs[i]? = some r → ∀ j v, r[j]? = some v → w.cell? ⟨g, off + i * m + j, none⟩ = some v
  lt : g < w.heap.size

theorem At.on {m : Nat} {w w' : World} {g off : Nat} {rs : List (List Value)} (h : At m w g off rs) (hb : Below w.heap.size w w') : At m w' g off rs :=
  ⟨fun i r hr j v hv => (hb.cell (p := ⟨g, off + i * m + j, none⟩) h.lt).trans (h.cells i r hr j v hv), Nat.lt_of_lt_of_le h.lt hb.size⟩

theorem At.under {m B : Nat} {w w' : World} {g off : Nat} {rs : List (List Value)} (h : At m w g off rs) (hb : Below B w w') (hg : g < B) : At m w' g off rs :=
  ⟨fun i r hr j v hv => (hb.cell (p := ⟨g, off + i * m + j, none⟩) hg).trans (h.cells i r hr j v hv), Nat.lt_of_lt_of_le h.lt hb.size⟩

theorem Row.at {m : Nat} {w : World} {g cap : Nat} {rs : List (List Value)} (h : Row m w g cap rs) : At m w g 0 rs :=
  ⟨fun i r hr j v hv => by rw [Nat.zero_add]; exact h.cells i r hr j v hv, h.lt⟩

/-- A slice of these records. -/
def Slc (m : Nat) (w : World) (v : Value) (rs : List (List Value)) : Prop := ∃ a cap, v = .slice a rs.length cap ∧ rs.length ≤ cap ∧ cap ≤ 9223372036854775807 ∧ (rs ≠ [] → ∃ g off, a = some ⟨g, off, none⟩ ∧ At m w g off rs)

theorem Slc.on {m : Nat} {w w' : World} {v : Value} {rs : List (List Value)} (h : Slc m w v rs) (hb : Below w.heap.size w w') : Slc m w' v rs := by
  obtain ⟨a, cap, e, h1, h2, h3⟩ := h
  exact ⟨a, cap, e, h1, h2, fun hne => by
    obtain ⟨g, off, ea, ha⟩ := h3 hne
    exact ⟨g, off, ea, ha.on hb⟩⟩

theorem Val.slc {m : Nat} {w : World} {v : Value} {rs : List (List Value)} (h : Val m w v rs) : Slc m w v rs := by
  obtain ⟨a, cap, e, h1, h2, h3⟩ := h.form
  exact ⟨a, cap, e, h2, h1, fun hne => by
    obtain ⟨g, ea, hr⟩ := h3 hne
    exact ⟨g, 0, ea, hr.at⟩⟩

theorem load_at {P : Program} {ty : TypeId} {m : Nat} {w : World} {g off i : Nat} {rs : List (List Value)} {r : List Value} (h : At m w g off rs) (hr : rs[i]? = some r) (ht : wideT P ty r.length = true) : (loadVar ty ⟨g, off + i * m, none⟩).run P w = .ok (.agg r.toArray) w :=
  load_cells ht fun j v hv => h.cells i r hr j v hv

/-- A local block, as records. -/
theorem at_of_blk {m : Nat} {w : World} {g : Nat} {rs : List (List Value)} (h : LBlk w g rs.flatten) (hm : ∀ r ∈ rs, r.length = m) : At m w g 0 rs :=
  ⟨fun i r hr j v hv => by rw [Nat.zero_add]; exact (h.2 _ _ (flat_at hm hr hv)).1, h.1⟩

theorem row_of_blk {m : Nat} {w : World} {g cap : Nat} {rs : List (List Value)} (h : LBlk w g rs.flatten) (hm : ∀ r ∈ rs, r.length = m) (h1 : rs.length ≤ cap) (h2 : cap ≤ 9223372036854775807) : Row m w g cap rs :=
  ⟨fun i r hr j v hv => (h.2 _ _ (flat_at hm hr hv)).1, h1, h2, h.1⟩

theorem store_fromO {P : Program} {b o : Nat} : ∀ (vs : List Value) (i : Nat) (cur : List Value) (w : World), LBlk w b cur → o + i + vs.length ≤ cur.length → (∀ v ∈ vs, v.oneCell' = true) →
    ∃ w', (storeCells ⟨b, o, none⟩ vs i).run P w = .ok () w' ∧ LBlk w' b (cur.take (o + i) ++ vs ++ cur.drop (o + i + vs.length)) ∧ Only b w w' ∧ w'.heap.size = w.heap.size
  | [], i, cur, w, h, hl, _ => ⟨w, rfl, by simpa using h, Only.refl _ _, rfl⟩
  | v :: rest, i, cur, w, h, hl, h1 => by
    have hi : o + i < cur.length := by simp at hl; omega
    obtain ⟨hc, hf⟩ := h.2 (o + i) cur[o + i] (List.getElem?_eq_getElem hi)
    have hst : (store ((⟨b, o, none⟩ : Addr).add i) v).run P w = .ok () (w.setCell ⟨b, o + i, none⟩ v) := by
      rw [add_lit, run_store P w _ v _ (h1 v (by simp)), hc]
      simp [hf]
    obtain ⟨w', e, hl', ho, hs⟩ := store_fromO (P := P) (o := o) rest (i + 1) (cur.set (o + i) v) (w.setCell ⟨b, o + i, none⟩ v) (h.set (o + i) v hi) (by simp at hl ⊢; omega) (fun x hx => h1 x (by simp [hx]))
    refine ⟨w', ?_, ?_, ((Only.refl b w).setCell rfl v).trans ho, by rw [hs]; simp [World.setCell]⟩
    · simp only [storeCells, Sem.run_bind, hst, Result.andThen_ok, e]
    · have he : (cur.set (o + i) v).take (o + (i + 1)) ++ rest ++ (cur.set (o + i) v).drop (o + (i + 1) + rest.length) = cur.take (o + i) ++ (v :: rest) ++ cur.drop (o + i + (v :: rest).length) := by
        generalize hq : o + i = q at *
        rw [show o + (i + 1) = q + 1 by omega]
        apply List.ext_getElem?
        intro k
        simp only [List.length_cons, List.getElem?_append, List.length_append, List.length_take, List.length_set, List.getElem?_take, List.getElem?_set, List.getElem?_drop]
        by_cases hk : k < q
        · simp [hk, show k < q + 1 by omega, show k < min (q + 1) cur.length by omega, show k < min (q + 1) cur.length + rest.length by omega, show k < min q cur.length by omega, show k < min q cur.length + (rest.length + 1) by omega, show q ≠ k by omega]
        · by_cases hk2 : k = q
          · subst hk2
            simp [show min (k + 1) cur.length = k + 1 by omega, show min k cur.length = k by omega, hi, show k < k + 1 + rest.length by omega]
          · by_cases hk3 : k < q + 1 + rest.length
            · simp [show min (q + 1) cur.length = q + 1 by omega, show min q cur.length = q by omega, hk3, show ¬ k < q + 1 by omega, hk, show k < q + (rest.length + 1) by omega, show k - q = (k - (q + 1)) + 1 by omega]
            · simp [show min (q + 1) cur.length = q + 1 by omega, show min q cur.length = q by omega, hk3, show ¬ k < q + (rest.length + 1) by omega, show ¬ q = q + 1 + rest.length + (k - (q + 1 + rest.length)) by omega]
              congr 1
              omega
      rw [he] at hl'
      exact hl'

/-- A store over a stretch of a block. -/
theorem store_part {P : Program} {ty : TypeId} {b o : Nat} {old vs : List Value} {w : World} (h : LBlk w b old) (ht : wideT P ty vs.length = true) (hl : o + vs.length ≤ old.length) (h1 : vs.all (·.oneCell') = true) : ∃ w', (storeVar ty ⟨b, o, none⟩ (.agg vs.toArray)).run P w = .ok () w' ∧ LBlk w' b (old.take o ++ vs ++ old.drop (o + vs.length)) ∧ Only b w w' ∧ w'.heap.size = w.heap.size := by
  obtain ⟨w', e, hl', ho, hs⟩ := store_fromO (P := P) (o := o) vs 0 old w h (by omega) (fun v hv => List.all_eq_true.1 h1 v hv)
  refine ⟨w', ?_, hl', ho, hs⟩
  unfold wideT at ht
  rw [Bool.and_eq_true] at ht
  obtain ⟨_, h2⟩ := ht
  cases hq : P.info? ty with
  | none => simp [hq] at h2
  | some i =>
    have hs : vs.length = i.size := by simp [hq] at h2; omega
    simp [storeVar, sizeOf, typeInfo, hq, Value.cells, hs, e]

/-- A record that is made and filled at one go. -/
theorem laid {P : Program} {ty : TypeId} (w : World) (zs vs : List Value) (ht : wideT P ty vs.length = true) (hl : zs.length = vs.length) (h1 : vs.all (·.oneCell') = true) : ∃ w', (storeVar ty ⟨w.heap.size, 0, none⟩ (.agg vs.toArray)).run P (w.alloc (.cells zs.toArray ty)) = .ok () w' ∧ LBlk w' w.heap.size vs ∧ Below w.heap.size w w' := by
  obtain ⟨w', e, hl', ho, hs⟩ := store_blk (P := P) (ty := ty) (LBlk.new w zs ty) ht hl h1
  exact ⟨w', e, hl', ((Below.refl _ _).alloc (Nat.le_refl _) _).trans (ho.below (Nat.le_refl _) (by simp))⟩

theorem exec_store {P : Program} {o : Oper} {A : Act} {W W' : World} {ty : TypeId} {x y : Operand} {p : Addr} {v : Value} (ho : o.op = .store ty x y) (hx : A.eval x = .pointer (some p)) (hy : A.eval y = v) (hr : (storeVar ty p v).run P W = .ok () W') : (execOp A.eval o).run P W = .ok .skip W' := by
  unfold execOp
  simp only [ho, hx, hy, Instr.storeAt, Instr.sureAddr, Sem.run_bind, Sem.run_pure, Result.andThen_ok, hr]

theorem exec_load {P : Program} {o : Oper} {A : Act} {W W' : World} {ty : TypeId} {x : Operand} {p : Addr} {v : Value} (ho : o.op = .load ty x) (hx : A.eval x = .pointer (some p)) (hr : (loadVar ty p).run P W = .ok v W') : (execOp A.eval o).run P W = .ok (.value v) W' := by
  unfold execOp
  simp only [ho, hx, Instr.loadAt, Instr.sureAddr, Sem.run_bind, Sem.run_pure, Result.andThen_ok, hr]

theorem flat_put {m : Nat} {pre post : List (List Value)} {x y : List Value} (hp : ∀ r ∈ pre, r.length = m) (hx : x.length = m) (hy : y.length = m) : (pre ++ x :: post).flatten.take (pre.length * m) ++ y ++ (pre ++ x :: post).flatten.drop (pre.length * m + y.length) = (pre ++ y :: post).flatten := by
  have hl := flat_len hp
  rw [List.flatten_append, List.flatten_append, List.flatten_cons, List.flatten_cons, ← hl, List.take_left', List.append_assoc]
  · congr 1
    congr 1
    rw [← List.drop_drop, List.drop_left' rfl, hy, ← hx, List.drop_left' rfl]
  · rfl

section
variable {P : Program} {ops : Array Oper} {Q : Exit → Act → World → Prop} {a : Act} {w w' : World} {rest : List Oper} {o : Oper}

/-- Is it a load of this type, from a place of which this holds? -/
def IsLoad (o : Oper) (ty : TypeId) (K : Operand → Prop) : Prop := o.guard = none ∧ match o.op with
  | .load t x => t = ty ∧ K x
  | _ => False

def IsStore (o : Oper) (ty : TypeId) (K : Operand → Operand → Prop) : Prop := o.guard = none ∧ match o.op with
  | .store t x y => t = ty ∧ K x y
  | _ => False

theorem wp_load_at {ty : TypeId} {p : Addr} {v : Value} (hr : (loadVar ty p).run P w = .ok v w') (hm : IsLoad o ty fun x => a.eval x = .pointer (some p)) (h : wpList P ops Q rest (a.put o.dst v) w') : wpList P ops Q (o :: rest) a w := by
  obtain ⟨hg, hm⟩ := hm
  cases ho : o.op <;> rw [ho] at hm <;> first | exact hm.elim | skip
  obtain ⟨rfl, hx⟩ := hm
  exact wpList_load_eq hr hg ho hx h

theorem wp_store_at {ty : TypeId} {p : Addr} {v : Value} (hr : (storeVar ty p v).run P w = .ok () w') (hm : IsStore o ty fun x y => a.eval x = .pointer (some p) ∧ a.eval y = v) (h : wpList P ops Q rest (a.put o.dst undef) w') : wpList P ops Q (o :: rest) a w := by
  obtain ⟨hg, hm⟩ := hm
  cases ho : o.op <;> rw [ho] at hm <;> first | exact hm.elim | skip
  obtain ⟨rfl, hx, hy⟩ := hm
  exact wpList_store_eq hr hg ho hx hy h
end

end Go.Proofs.YtgaggpnlimchkaaGreatDoor.RC
