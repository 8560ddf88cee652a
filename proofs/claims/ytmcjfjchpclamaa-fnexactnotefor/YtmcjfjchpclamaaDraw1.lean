/- The draws' cursor: contracts of l1New, l1Byte, l1Below, l1Once. -/
import Derived.Test.YtmcjfjchpclamaaBase1
import Derived.Deep.QuietTactic
import Derived.BigQuiet
import Derived.WalkLawsBesides
import Derived.Below
import Derived.Deep.RegionWith
namespace Go.Proofs.Ytmcjfjchpclamaa.D1
open Go.Proofs.Ytmcjfjchpclamaa.P1 Go.Proofs.Ytmcjfjchpclamaa.B1
open Go.ChangeShapes Go.WideShapes Go.ChangeAt Go.RowKit
set_option linter.unusedVariables false

/-- Only block c of what was there has turned. -/
structure Only (c : Nat) (w w' : World) : Prop where
  os : w'.os = w.os
  tape : w'.tape = w.tape
  output : w'.output = w.output
  size : w.heap.size ≤ w'.heap.size
  block : ∀ k, k ≠ c → k < w.heap.size → w'.heap[k]? = w.heap[k]?

theorem Only.refl (c : Nat) (w : World) : Only c w w := ⟨rfl, rfl, rfl, Nat.le_refl _, fun _ _ _ => rfl⟩
theorem Only.trans {k : Nat} {a b c : World} (h : Only k a b) (g : Only k b c) : Only k a c :=
  ⟨g.os.trans h.os, g.tape.trans h.tape, g.output.trans h.output, Nat.le_trans h.size g.size, fun i hi hs => (g.block i hi (Nat.lt_of_lt_of_le hs h.size)).trans (h.block i hi hs)⟩
theorem Only.drew {k : Nat} {a w : World} (h : Only k a w) : Only k a w.drew := ⟨h.os, h.tape, h.output, h.size, h.block⟩
theorem Only.below {B c : Nat} {w w' : World} (h : Only c w w') (hB : B ≤ c) (hs : B ≤ w.heap.size) : Below B w w' :=
  ⟨h.os, h.tape, h.output, h.size, fun k hk => h.block k (by omega) (by omega)⟩
theorem Only.setCell {c : Nat} {a w : World} (h : Only c a w) {p : Addr} (hp : p.block = c) (u : Value) : Only c a (w.setCell p u) :=
  h.trans ⟨rfl, rfl, rfl, by simp [World.setCell], fun k hk _ => Below.heap_setCell _ _ _ _ (by omega)⟩

/-- The bytes that came in: readable below the length, in another block than c. -/
def Bytes (w : World) (c : Nat) (a : Option Addr) (len : Nat) : Prop :=
  len ≤ 4096 ∧ ∀ i, i < len → ∃ b off n, a = some ⟨b, off, none⟩ ∧ b < w.heap.size ∧ b ≠ c ∧ w.cell? ⟨b, off + i, none⟩ = some (.int .u8 n) ∧ 0 ≤ n ∧ n ≤ 255

/-- A cursor in block c: its bytes, its place, its number. -/
structure Cur (w : World) (c : Nat) (a : Option Addr) (len cap : Nat) : Prop where
  lt : c < w.heap.size
  cell0 : w.cell? ⟨c, 0, none⟩ = some (.slice a len cap)
  cell1 : ∃ i : Nat, i ≤ len ∧ w.cell? ⟨c, 1, none⟩ = some (.int .i64 i)
  cell2 : ∃ h : Int, w.cell? ⟨c, 2, none⟩ = some (.int .i64 h)
  fr1 : w.frozen? ⟨c, 1, none⟩ = false
  fr2 : w.frozen? ⟨c, 2, none⟩ = false
  bytes : Bytes w c a len

theorem Bytes.setCell {w : World} {c : Nat} {a : Option Addr} {len : Nat} (h : Bytes w c a len) (o : Nat) (v : Value) : Bytes (w.setCell ⟨c, o, none⟩ v) c a len := by
  refine ⟨h.1, fun i hi => ?_⟩
  obtain ⟨b, off, n, ha, hb, hne, hc, h0, h1⟩ := h.2 i hi
  refine ⟨b, off, n, ha, by simpa [World.setCell] using hb, hne, ?_, h0, h1⟩
  rw [World.cell?_setCell_other _ _ _ _ (by intro e; exact hne (by injection e with e1 _ _; exact e1.symm))]; exact hc

theorem Bytes.alloc {w : World} {c : Nat} {a : Option Addr} {len : Nat} (h : Bytes w c a len) (o : Obj) : Bytes (w.alloc o) c a len := by
  refine ⟨h.1, fun i hi => ?_⟩
  obtain ⟨b, off, n, ha, hb, hne, hc, h0, h1⟩ := h.2 i hi
  refine ⟨b, off, n, ha, by simp; omega, hne, ?_, h0, h1⟩
  rw [World.cell?_alloc_lt _ _ _ hb]; exact hc

theorem Bytes.drewN {w : World} {c : Nat} {a : Option Addr} {len : Nat} (h : Bytes w c a len) (k : Nat) : Bytes (w.drewN k) c a len := h
theorem Cur.drewN {w : World} {c : Nat} {a : Option Addr} {len cap : Nat} (h : Cur w c a len cap) (k : Nat) : Cur (w.drewN k) c a len cap :=
  ⟨h.lt, h.cell0, h.cell1, h.cell2, h.fr1, h.fr2, h.bytes.drewN k⟩
theorem Cur.drew {w : World} {c : Nat} {a : Option Addr} {len cap : Nat} (h : Cur w c a len cap) : Cur w.drew c a len cap :=
  ⟨h.lt, h.cell0, h.cell1, h.cell2, h.fr1, h.fr2, h.bytes⟩

theorem Cur.set2 {w : World} {c : Nat} {a : Option Addr} {len cap : Nat} (h : Cur w c a len cap) (x : Int) : Cur (w.setCell ⟨c, 2, none⟩ (.int .i64 x)) c a len cap := by
  obtain ⟨hlt, c0, ⟨i, hi, c1⟩, ⟨hh, c2⟩, f1, f2, hb⟩ := h
  refine ⟨by simpa [World.setCell] using hlt, ?_, ⟨i, hi, ?_⟩, ⟨x, World.cell?_setCell_same _ _ _ c2⟩, by simpa using f1, by simpa using f2, hb.setCell _ _⟩
  · rw [World.cell?_setCell_other _ _ _ _ (by simp)]; exact c0
  · rw [World.cell?_setCell_other _ _ _ _ (by simp)]; exact c1

theorem Cur.set1 {w : World} {c : Nat} {a : Option Addr} {len cap : Nat} (h : Cur w c a len cap) (k : Nat) (hk : k ≤ len) : Cur (w.setCell ⟨c, 1, none⟩ (.int .i64 k)) c a len cap := by
  obtain ⟨hlt, c0, ⟨i, hi, c1⟩, ⟨hh, c2⟩, f1, f2, hb⟩ := h
  refine ⟨by simpa [World.setCell] using hlt, ?_, ⟨k, hk, World.cell?_setCell_same _ _ _ c1⟩, ⟨hh, ?_⟩, by simpa using f1, by simpa using f2, hb.setCell _ _⟩
  · rw [World.cell?_setCell_other _ _ _ _ (by simp)]; exact c0
  · rw [World.cell?_setCell_other _ _ _ _ (by simp)]; exact c2

theorem Cur.alloc {w : World} {c : Nat} {a : Option Addr} {len cap : Nat} (h : Cur w c a len cap) (o : Obj) : Cur (w.alloc o) c a len cap := by
  obtain ⟨hlt, c0, ⟨i, hi, c1⟩, ⟨hh, c2⟩, f1, f2, hb⟩ := h
  refine ⟨by simp; omega, ?_, ⟨i, hi, ?_⟩, ⟨hh, ?_⟩, ?_, ?_, hb.alloc o⟩
  · rw [World.cell?_alloc_lt _ _ _ hlt]; exact c0
  · rw [World.cell?_alloc_lt _ _ _ hlt]; exact c1
  · rw [World.cell?_alloc_lt _ _ _ hlt]; exact c2
  · rw [World.frozen?_alloc_old _ _ _ (by simp; omega)]; exact f1
  · rw [World.frozen?_alloc_old _ _ _ (by simp; omega)]; exact f2

theorem Only.drewN {k : Nat} {a w : World} (h : Only k a w) (n : Nat) : Only k a (w.drewN n) := ⟨h.os, h.tape, h.output, h.size, h.block⟩

/-- What a draw leaves: a number with P; the cursor still there; only its block turned. -/
def Drawn (P : Int → Prop) (c : Nat) (a : Option Addr) (len cap : Nat) (w : World) (e : Ending) (w' : World) : Prop :=
  ∃ n : Int, P n ∧ e = .returned (.int .i64 n) ∧ Cur w' c a len cap ∧ Only c w w'

/-- The same of a bool. -/
def DrawnB (c : Nat) (a : Option Addr) (len cap : Nat) (w : World) (e : Ending) (w' : World) : Prop :=
  ∃ b : Bool, e = .returned (.bool b) ∧ Cur w' c a len cap ∧ Only c w w'

theorem and_bd (x : Int) (m : Nat) (hm : m < 9223372036854775808) : 0 ≤ bits .and .i64 x m ∧ bits .and .i64 x m ≤ m := by
  unfold bits
  have h : ((BitVec.ofInt IntKind.i64.bits x) &&& (BitVec.ofInt IntKind.i64.bits (m : Int))).toNat ≤ m := by
    rw [BitVec.toNat_and]
    refine Nat.le_trans Nat.and_le_right ?_
    simp only [BitVec.toNat_ofInt, IntKind.bits]
    omega
  show 0 ≤ IntKind.i64.wrap _ ∧ IntKind.i64.wrap _ ≤ _
  rw [IntKind.wrap_i64]
  simp only
  omega

theorem byte_bd (x : Int) : 0 ≤ bits .and .i64 x 255 ∧ bits .and .i64 x 255 ≤ 255 := and_bd x 255 (by omega)

set_option maxHeartbeats 400000 in
theorem Byte_draw (w : World) (c : Nat) (a : Option Addr) (len cap : Nat) (h : Cur w c a len cap) :
    Calls Try.prog 24 #[.pointer (some ⟨c, 0, none⟩)] w (Drawn (fun n => 0 ≤ n ∧ n ≤ 255) c a len cap w) := by
  have H := Lib.hid h
  obtain ⟨hlt, c0, ⟨i, hi, c1⟩, ⟨hh, c2⟩, f1, f2, hl, hb⟩ := h
  by_cases hil : i < len
  · obtain ⟨b, off, n, rfl, hbs, hne, hbc, hn0, hn1⟩ := hb i hil
    clear hb
    go_enter Try.func24, Try.ntmps24
    go_wp2
    generalize wrap64 (wrap64 (hh * 6364136223846793005) + 1442695040888963407) = h2
    go_quiet (fail)
    go_wp2
    have hx := byte_bd (bits BinOp.xor IntKind.i64 (h2 / 8589934592) (h2 / 35184372088832))
    generalize bits BinOp.and IntKind.i64 (bits BinOp.xor IntKind.i64 (h2 / 8589934592) (h2 / 35184372088832)) 255 = x at *
    go_quiet (fail)
    go_wp2
    go_quiet (fail)
    go_wp2
    go_ret
    exact ⟨_, byte_bd _, rfl, ((H.out.set2 h2).drewN _).set1 (i + 1) (by omega), (((Only.refl c w).setCell rfl _).drewN _).setCell rfl _⟩
  · clear hb
    go_enter Try.func24, Try.ntmps24
    go_wp2
    generalize wrap64 (wrap64 (hh * 6364136223846793005) + 1442695040888963407) = h2
    go_quiet (fail)
    go_wp2
    have hx := byte_bd (bits BinOp.xor IntKind.i64 (h2 / 8589934592) (h2 / 35184372088832))
    generalize bits BinOp.and IntKind.i64 (bits BinOp.xor IntKind.i64 (h2 / 8589934592) (h2 / 35184372088832)) 255 = x at *
    go_quiet (fail)
    go_wp2
    go_ret
    exact ⟨x, hx, rfl, ((H.out.set2 h2).drewN _).drewN _, ((((Only.refl c w).setCell rfl _)).drewN _).drewN _⟩

/-- What l1Below answers: from 0 on, below n where that is above 0. -/
def InBelow (n r : Int) : Prop := 0 ≤ r ∧ (0 < n → r < n) ∧ (n ≤ 0 → r = 0)

theorem mod_bd {x n : Int} (hn : 0 < n) : 0 ≤ x % n ∧ x % n < n := ⟨Int.emod_nonneg _ (by omega), Int.emod_lt_of_pos _ hn⟩

set_option maxHeartbeats 400000 in
theorem Below_draw (w : World) (c : Nat) (a : Option Addr) (len cap : Nat) (n : Int) (h : Cur w c a len cap) :
    Calls Try.prog 16 #[.pointer (some ⟨c, 0, none⟩), .int .i64 n] w (Drawn (InBelow n) c a len cap w) := by
  by_cases h1 : n ≤ 0
  · go_enter Try.func16, Try.ntmps16
    go_wp2
    go_ret
    exact ⟨0, ⟨by omega, by omega, fun _ => rfl⟩, rfl, h, Only.refl _ _⟩
  · by_cases h2 : n ≤ 256
    · go_enter Try.func16, Try.ntmps16
      go_wp2_with fail
      refine (Byte_draw _ c a len cap h).mono ?_
      rintro e w1 ⟨x, ⟨hx0, hx1⟩, rfl, hc1, ho1⟩
      go_wp2
      go_ret
      have := mod_bd (x := x) (n := n) (by omega)
      exact ⟨x % n, ⟨by omega, by omega, by omega⟩, rfl, hc1, ho1⟩
    · go_enter Try.func16, Try.ntmps16
      go_wp2_with fail
      refine (Byte_draw _ c a len cap h).mono ?_
      rintro e w1 ⟨x, ⟨hx0, hx1⟩, rfl, hc1, ho1⟩
      go_wp2_with fail
      refine (Byte_draw _ c a len cap hc1).mono ?_
      rintro e w2 ⟨y, ⟨hy0, hy1⟩, rfl, hc2, ho2⟩
      go_wp2_with fail
      refine (Byte_draw _ c a len cap hc2).mono ?_
      rintro e w3 ⟨z, ⟨hz0, hz1⟩, rfl, hc3, ho3⟩
      go_wp2_with fail
      refine (Byte_draw _ c a len cap hc3).mono ?_
      rintro e w4 ⟨u, ⟨hu0, hu1⟩, rfl, hc4, ho4⟩
      go_wp2
      go_ret
      have := mod_bd (x := x * 16777216 + y * 65536 + z * 256 + u) (n := n) (by omega)
      exact ⟨_, ⟨by omega, by omega, by omega⟩, rfl, hc4, ((ho1.trans ho2).trans ho3).trans ho4⟩

theorem Once_draw (w : World) (c : Nat) (a : Option Addr) (len cap : Nat) (n : Int) (h : Cur w c a len cap) :
    Calls Try.prog 15 #[.pointer (some ⟨c, 0, none⟩), .int .i64 n] w (DrawnB c a len cap w) := by
  go_enter Try.func15, Try.ntmps15
  go_wp2_with fail
  refine (Below_draw _ c a len cap n h).mono ?_
  rintro e w1 ⟨x, hx, rfl, hc1, ho1⟩
  go_wp2
  go_ret
  exact ⟨x == 0, rfl, hc1, ho1⟩

/-- What l1New leaves: a pointer to a cursor in a new block. -/
def NewCur (a : Option Addr) (len cap : Nat) (w : World) (e : Ending) (w' : World) : Prop :=
  e = .returned (.pointer (some ⟨w.heap.size, 0, none⟩)) ∧ Cur w' w.heap.size a len cap ∧ Only w.heap.size w w'

theorem cur_new {w : World} {a : Option Addr} {len cap : Nat} (h : Bytes w w.heap.size a len) (x : Int) (t : TypeId) :
    Cur (w.alloc (.cells #[.slice a len cap, .int .i64 0, .int .i64 x] t)) w.heap.size a len cap :=
  ⟨by simp, by simp, ⟨0, Nat.zero_le _, by simp⟩, ⟨x, by simp⟩, by simp, by simp, h.alloc _⟩

theorem only_new (w : World) (o : Obj) (k : Nat) : Only k w (w.alloc o) :=
  ⟨rfl, rfl, rfl, by simp, fun i _ hs => Below.heap_alloc _ _ _ hs⟩

set_option maxHeartbeats 400000 in
theorem New_draw (w : World) (a : Option Addr) (len cap : Nat) (h : Bytes w w.heap.size a len) :
    Calls Try.prog 13 #[.slice a len cap] w (NewCur a len cap w) := by
  have H := Lib.hid h
  obtain ⟨hl, hb⟩ := h
  have HB := Lib.hid hb
  clear hb
  go_enter Try.func13, Try.ntmps13
  go_wp2
  go_loop [3, 4] (fun hv i => ∃ (x : Int) (k : Nat), 0 ≤ x ∧ x ≤ 1073741823 ∧ k ≤ len ∧ hv = .int .i64 x ∧ i = .int .i64 k) (fun _ i => len - (intOf i).toNat)
  case atStart => exact ⟨_, 0, by omega, by omega, Nat.zero_le _, rfl, rfl⟩
  case round =>
    obtain ⟨x, k, hx0, hx1, hk, rfl, rfl⟩ := hrel
    by_cases hlt : k < len
    · obtain ⟨b, off, n, rfl, hbs, hne, hbc, hn0, hn1⟩ := HB.out k hlt
      go_wp2
      have hm := and_bd (x * 137 + n + 11) 1073741823 (by omega)
      go_round
      case rel => exact ⟨_, k + 1, hm.1, hm.2, by omega, rfl, by go_num⟩
      case measure => simp [intOf]; omega
    · go_wp2
      go_ret
      exact ⟨rfl, cur_new H.out x _, only_new _ _ _⟩

theorem Only.cell {c : Nat} {w w' : World} (h : Only c w w') {p : Addr} (hp : p.block ≠ c) (hs : p.block < w.heap.size) : w'.cell? p = w.cell? p := World.cell?_of_block (w := w) (h.block p.block hp hs)

/-- A cell of a short row of numbers that was made ahead of a draw, read behind it. -/
theorem made_cell {w w1 : World} {c : Nat} (l : List Int) (t : TypeId) (ho : Only c (w.alloc (.cells (l.map (Value.int .i64)).toArray t)) w1) (hc : c < w.heap.size)
    {n : Int} (h0 : 0 ≤ n) (h1 : n < l.length) : ∃ v, v ∈ l ∧ w1.cell? ⟨w.heap.size, n.toNat, none⟩ = some (.int .i64 v) := by
  have hn : n.toNat < l.length := by omega
  refine ⟨l[n.toNat], List.getElem_mem _, ?_⟩
  rw [ho.cell (p := ⟨w.heap.size, n.toNat, none⟩) (by simp; omega) (by simp), World.cell?_alloc_new]
  simp [hn]

/-- The same, the number by itself: ahead of the block, or behind it. -/
theorem made_row (l : List Int) {n : Int} (h0 : 0 ≤ n) (h1 : n < l.length) : ∃ v, v ∈ l ∧ (l.map (Value.int .i64)).toArray[n.toNat]? = some (.int .i64 v) := by
  have hn : n.toNat < l.length := by omega
  exact ⟨l[n.toNat], List.getElem_mem _, by simp [hn]⟩

theorem made_get {l : List Value} {n : Nat} {v : Value} (h : l.toArray[n]? = some v) (hh : n < l.length) : l[n] = v := by
  simp [hh] at h; exact h

theorem made_at {w w1 : World} {c : Nat} (l : List Int) (t : TypeId) (ho : Only c (w.alloc (.cells (l.map (Value.int .i64)).toArray t)).drew w1) (hc : c < w.heap.size)
    {n : Nat} {v : Value} (h : (l.map (Value.int .i64)).toArray[n]? = some v) : w1.cell? ⟨w.heap.size, n, none⟩ = some v := by
  rw [ho.cell (p := ⟨w.heap.size, n, none⟩) (by simp; omega) (by simp), World.cell?_drew, World.cell?_alloc_new]
  exact h

/-- What l1DrawPart answers: from -1 to 65537. -/
def InPart (n : Int) : Prop := -1 ≤ n ∧ n ≤ 65537

/-- Behind what makes memory alone the bytes lie as they lay. -/
theorem Bytes.below {w w' : World} {a : Option Addr} {len : Nat} (h : Bytes w w.heap.size a len) (hb : Below w.heap.size w w') : Bytes w' w'.heap.size a len := by
  refine ⟨h.1, fun i hi => ?_⟩
  obtain ⟨b, off, n, ha, hlt, hne, hc, h0, h1⟩ := h.2 i hi
  have := hb.size
  exact ⟨b, off, n, ha, by omega, by omega, by rw [hb.cell (p := ⟨b, off + i, none⟩) hlt]; exact hc, h0, h1⟩

/-- What a draw from the bytes leaves: a number with P, and nothing that was there has turned. -/
def Given (P : Int → Prop) (w : World) (e : Ending) (w' : World) : Prop := ∃ n : Int, P n ∧ e = .returned (.int .i64 n) ∧ Below w.heap.size w w'

/-- What DrawPartOf answers. -/
def InPartOf (n all : Int) : Prop := -1 ≤ n ∧ n ≤ 1000000002 ∧ 0 ≤ all ∧ all ≤ 1000000001

def Given2 (P : Int → Int → Prop) (w : World) (e : Ending) (w' : World) : Prop :=
  ∃ n m : Int, P n m ∧ e = .returned (.tuple #[.int .i64 n, .int .i64 m]) ∧ Below w.heap.size w w'

def Given3 (P : Int → Int → Int → Prop) (w : World) (e : Ending) (w' : World) : Prop :=
  ∃ n m k : Int, P n m k ∧ e = .returned (.tuple #[.int .i64 n, .int .i64 m, .int .i64 k]) ∧ Below w.heap.size w w'

/-- What DrawBetween answers. -/
def InBetween (x y p : Int) : Prop := -1000000001 ≤ x ∧ x ≤ 1000000001 ∧ -1000000 ≤ y ∧ y ≤ 1000000 ∧ -131073 ≤ p ∧ p ≤ 196609

end Go.Proofs.Ytmcjfjchpclamaa.D1
