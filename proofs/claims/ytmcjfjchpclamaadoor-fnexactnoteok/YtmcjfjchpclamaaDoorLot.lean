/- Plain functions of chapter 1 (parts), and plain facts on them: no program, no model. Contracts of chapter 1's functions (parts), of the program's and of the reference's, over this seat's program. The draws' cursor: contracts of l1New, l1Byte, l1Below, l1Once. How an argument of type []byte is opened. A drawing function's own memory: the frame of a draw ('Fr'), its local blocks ('LBlk'). The draws of chapter 2: l1From, l2Draw, DrawAlongX, DrawStopOf, DrawCurveAt. Plain functions of chapter 2 (curves), and plain facts on them: no program, no model. Contracts of chapter 2's functions (curves), of the program's and of the reference's, over this seat's program. Contracts of chapter 2's functions (curves), part 2: AlongX, AlongY, StopOf, CurveAt. Plain functions on texts (numerals, reading a number, splitting, the place in a list) and plain facts on them: no program, no model. Plain facts on texts, further: a numeral read is what was written, and nothing else is; pieces joined are the text. -/
import Derived.Test.YtmcjfjchpclamaaDoorRows
import Derived.WalkKit
import Derived.ProofKit
import Derived.OpenShut
import Derived.Lib.Hide
import Derived.WalkSpells
import Derived.Deep.QuietTactic
import Derived.BigQuiet
import Derived.WalkLawsBesides
import Derived.Below
import Derived.Deep.RegionWith
import Derived.ChangeOld
import Derived.Lib.SmallJoins
import Derived.Deep.DeepCutAuto
import Derived.Deep.RegionHeld3
import Derived.Deep.LoopGhost
import Derived.Laws.StructEq
import Derived.Laws.Tables
import Derived.Laws.Cover2
import Derived.KernelRfl
import Derived.Lib.ItoaNum
import Derived.Lib.Atoi
namespace Go.Proofs.YtmcjfjchpclamaaDoor.P1

def within (n lo hi : Int) : Bool := decide (lo ≤ n) && decide (n ≤ hi)

theorem within_true {n lo hi : Int} (h : within n lo hi = true) : lo ≤ n ∧ n ≤ hi := by
  simpa [within] using h

theorem within_false {n lo hi : Int} (h : within n lo hi = false) : n < lo ∨ hi < n := by
  simp [within] at h; omega

def partOf (n all : Int) : Int := if within all 1 1000000000 = true ∧ within n 0 all = true then 65536 * n / all else -1

def between (a b p : Int) : Int :=
  if within a (-1000000000) 1000000000 = true ∧ within b (-1000000000) 1000000000 = true ∧ within p (-131072) 196608 = true then a + ((b - a) * p) / 65536 else 0

def other (p : Int) : Int := if within p 0 65536 = true then 65536 - p else -1

theorem tdiv_down (n d : Int) (hb : 0 < d) : (if n.tmod d < 0 then n.tdiv d - 1 else n.tdiv d) = n / d := by
  by_cases h : 0 ≤ n
  · rw [Int.tmod_eq_emod_of_nonneg h, Int.tdiv_eq_ediv_of_nonneg h, if_neg]
    have := Int.emod_nonneg n (by omega : d ≠ 0); omega
  · have hm := Int.tmod_add_mul_tdiv n d
    have hlt : n.tmod d ≤ 0 := by
      have := Int.tmod_nonneg d (a := -n) (by omega)
      rw [Int.neg_tmod] at this; omega
    have hgt : -d < n.tmod d := by
      have := Int.tmod_lt_of_pos (-n) hb
      rw [Int.neg_tmod] at this; omega
    split
    · next h0 =>
      symm
      rw [Int.ediv_eq_iff_of_pos hb]
      constructor
      · rw [Int.sub_mul, Int.mul_comm (n.tdiv d) d]; omega
      · have : (n.tdiv d - 1 + 1) = n.tdiv d := by omega
        rw [Int.mul_comm (n.tdiv d - 1) d, Int.mul_sub]; omega
    · next h0 =>
      symm
      rw [Int.ediv_eq_iff_of_pos hb]
      constructor
      · rw [Int.mul_comm]; omega
      · rw [Int.mul_comm]; omega

theorem partOf_bd (n all : Int) : -1 ≤ partOf n all ∧ partOf n all ≤ 65536 := by
  unfold partOf
  split
  · next h =>
    obtain ⟨h1, h2⟩ := h
    have a := within_true h1; have b := within_true h2
    have c : 0 ≤ 65536 * n / all := Int.ediv_nonneg (by omega) (by omega)
    have dd : 65536 * n / all ≤ 65536 := by
      have : 65536 * n / all < 65537 := Int.ediv_lt_of_lt_mul (by omega) (by omega)
      omega
    omega
  · omega

theorem within_mk {n lo hi : Int} (h1 : lo ≤ n) (h2 : n ≤ hi) : within n lo hi = true := by simp [within, h1, h2]

theorem within_not {n lo hi : Int} (h : n < lo ∨ hi < n) : within n lo hi = false := by
  cases e : within n lo hi
  · rfl
  · have := within_true e; omega

theorem partOf_at {n all : Int} (h1 : 1 ≤ all) (h2 : all ≤ 1000000000) (h3 : 0 ≤ n) (h4 : n ≤ all) : partOf n all = 65536 * n / all := by
  unfold partOf; rw [if_pos ⟨within_mk h1 h2, within_mk h3 h4⟩]

theorem partOf_zero {all : Int} (h1 : 1 ≤ all) (h2 : all ≤ 1000000000) : partOf 0 all = 0 := by
  rw [partOf_at h1 h2 (by omega) (by omega)]; simp

theorem partOf_all {all : Int} (h1 : 1 ≤ all) (h2 : all ≤ 1000000000) : partOf all all = 65536 := by
  rw [partOf_at h1 h2 (by omega) (by omega)]; exact Int.mul_ediv_cancel _ (by omega)

theorem partOf_mono {n all : Int} (h1 : 1 ≤ all) (h2 : all ≤ 1000000000) (h3 : 0 ≤ n) (h4 : n < all) : partOf n all ≤ partOf (n + 1) all := by
  rw [partOf_at h1 h2 (by omega) (by omega), partOf_at h1 h2 (by omega) (by omega)]
  exact Int.ediv_le_ediv (by omega) (by omega)

theorem partOf_ok {n all : Int} (h1 : 1 ≤ all) (h2 : all ≤ 1000000000) (h3 : 0 ≤ n) (h4 : n ≤ all) : 0 ≤ partOf n all ∧ partOf n all ≤ 65536 := by
  have := partOf_bd n all
  rw [partOf_at h1 h2 h3 h4] at *
  have c : 0 ≤ 65536 * n / all := Int.ediv_nonneg (by omega) (by omega)
  omega

theorem partOf_not {n all : Int} (h : all < 1 ∨ 1000000000 < all ∨ n < 0 ∨ all < n) : partOf n all = -1 := by
  unfold partOf; rw [if_neg]
  intro ⟨a, b⟩
  have := within_true a; have := within_true b; omega

theorem other_at {p : Int} (h1 : 0 ≤ p) (h2 : p ≤ 65536) : other p = 65536 - p := by unfold other; rw [if_pos (within_mk h1 h2)]
theorem other_not {p : Int} (h : p < 0 ∨ 65536 < p) : other p = -1 := by unfold other; rw [if_neg (by simp [within_not h])]

/-- Is it a number that Between takes as an end? as a place? -/
def InEnd (x : Int) : Prop := -1000000000 ≤ x ∧ x ≤ 1000000000
def InReach (p : Int) : Prop := -131072 ≤ p ∧ p ≤ 196608

theorem between_at {a b p : Int} (ha : InEnd a) (hb : InEnd b) (hp : InReach p) : between a b p = a + ((b - a) * p) / 65536 := by
  unfold between; rw [if_pos ⟨within_mk ha.1 ha.2, within_mk hb.1 hb.2, within_mk hp.1 hp.2⟩]

theorem between_not {a b p : Int} (h : ¬ InEnd a ∨ ¬ InEnd b ∨ ¬ InReach p) : between a b p = 0 := by
  unfold between; rw [if_neg]
  intro ⟨h1, h2, h3⟩
  rcases h with h | h | h
  · exact h (within_true h1)
  · exact h (within_true h2)
  · exact h (within_true h3)

theorem between_zero {a b : Int} (ha : InEnd a) (hb : InEnd b) : between a b 0 = a := by
  rw [between_at ha hb ⟨by omega, by omega⟩]; simp

theorem between_one {a b : Int} (ha : InEnd a) (hb : InEnd b) : between a b 65536 = b := by
  rw [between_at ha hb ⟨by omega, by omega⟩, Int.mul_ediv_cancel _ (by omega)]; omega

theorem between_self {a p : Int} (ha : InEnd a) (hp : InReach p) : between a a p = a := by
  rw [between_at ha ha hp]; simp

theorem between_up {a b p : Int} (ha : InEnd a) (hb : InEnd b) (hp : InReach p) (hq : InReach (p - 1)) (h : a ≤ b) : between a b (p - 1) ≤ between a b p := by
  rw [between_at ha hb hp, between_at ha hb hq]
  have : (b - a) * (p - 1) / 65536 ≤ (b - a) * p / 65536 := Int.ediv_le_ediv (by omega) (by rw [Int.mul_sub]; omega)
  omega

theorem between_down {a b p : Int} (ha : InEnd a) (hb : InEnd b) (hp : InReach p) (hq : InReach (p - 1)) (h : b ≤ a) : between a b p ≤ between a b (p - 1) := by
  rw [between_at ha hb hp, between_at ha hb hq]
  have : (b - a) * p / 65536 ≤ (b - a) * (p - 1) / 65536 := Int.ediv_le_ediv (by omega) (by rw [Int.mul_sub]; omega)
  omega

theorem between_in_up {a b p : Int} (ha : InEnd a) (hb : InEnd b) (h0 : 0 ≤ p) (h1 : p ≤ 65536) (h : a ≤ b) : a ≤ between a b p ∧ between a b p ≤ b := by
  rw [between_at ha hb ⟨by omega, by omega⟩]
  have c : 0 ≤ (b - a) * p := Int.mul_nonneg (by omega) h0
  have d : (b - a) * p ≤ (b - a) * 65536 := Int.mul_le_mul_of_nonneg_left h1 (by omega)
  omega

theorem between_in_down {a b p : Int} (ha : InEnd a) (hb : InEnd b) (h0 : 0 ≤ p) (h1 : p ≤ 65536) (h : b ≤ a) : b ≤ between a b p ∧ between a b p ≤ a := by
  rw [between_at ha hb ⟨by omega, by omega⟩]
  have e : (b - a) * p = -((a - b) * p) := by rw [← Int.neg_mul]; congr 1; omega
  have c : 0 ≤ (a - b) * p := Int.mul_nonneg (by omega) h0
  have d : (a - b) * p ≤ (a - b) * 65536 := Int.mul_le_mul_of_nonneg_left h1 (by omega)
  rw [e]
  omega

end Go.Proofs.YtmcjfjchpclamaaDoor.P1

namespace Go.Proofs.YtmcjfjchpclamaaDoor.B1
open Go.Proofs.YtmcjfjchpclamaaDoor.P1
open Go.ChangeShapes Go.WideShapes Go.ChangeAt Go.RowKit
set_option linter.unusedVariables false

/-- An int64 fits. -/
def I64 (n : Int) : Prop := -9223372036854775808 ≤ n ∧ n ≤ 9223372036854775807

theorem i64_of_wf {n : Int} (h : (Lit.int .i64 n).wf = true) : I64 n := by
  have := bounds_i64 h
  unfold I64; omega

theorem within_impl (n lo hi : Int) (w : World) :
    Calls Tryd.prog 20 #[.int .i64 n, .int .i64 lo, .int .i64 hi] w fun e w' => e = .returned (.bool (within n lo hi)) ∧ w = w' := by
  by_cases h1 : lo ≤ n <;> by_cases h2 : n ≤ hi
  all_goals
    have Hf := Lib.hid (show within n lo hi = (decide (lo ≤ n) && decide (n ≤ hi)) from rfl)
    go_enter Tryd.func20, Tryd.ntmps20
    go_wp2
    go_ret
    exact ⟨by rw [Hf.out]; simp [h1, h2], rfl⟩

theorem in_spec (n lo hi : Int) (w : World) :
    Calls Tryd.prog 13 #[.int .i64 n, .int .i64 lo, .int .i64 hi] w fun e w' => e = .returned (.bool (within n lo hi)) ∧ w = w' := by
  by_cases h1 : lo ≤ n <;> by_cases h2 : n ≤ hi
  all_goals
    have Hf := Lib.hid (show within n lo hi = (decide (lo ≤ n) && decide (n ≤ hi)) from rfl)
    go_enter Tryd.func13, Tryd.ntmps13
    go_wp2
    go_ret
    exact ⟨by rw [Hf.out]; simp [h1, h2], rfl⟩

theorem partOf_out {n all : Int} (h : within all 1 1000000000 = false ∨ within n 0 all = false) : partOf n all = -1 := by
  unfold partOf; rw [if_neg]; rcases h with h | h <;> simp [h]

theorem partOf_in {n all : Int} (h : within all 1 1000000000 = true) (h' : within n 0 all = true) : partOf n all = 65536 * n / all := by
  unfold partOf; rw [if_pos ⟨h, h'⟩]

theorem other_in {p : Int} (h : within p 0 65536 = true) : other p = 65536 - p := by unfold other; rw [if_pos h]
theorem other_out {p : Int} (h : within p 0 65536 = false) : other p = -1 := by unfold other; rw [if_neg (by simp [h])]

theorem between_out {a b p : Int} (h : within a (-1000000000) 1000000000 = false ∨ within b (-1000000000) 1000000000 = false ∨ within p (-131072) 196608 = false) : between a b p = 0 := by
  unfold between; rw [if_neg]; rcases h with h | h | h <;> simp [h]

theorem between_in {a b p : Int} (h1 : within a (-1000000000) 1000000000 = true) (h2 : within b (-1000000000) 1000000000 = true) (h3 : within p (-131072) 196608 = true) : between a b p = a + ((b - a) * p) / 65536 := by
  unfold between; rw [if_pos ⟨h1, h2, h3⟩]

/-- |x| at most m, |y| at most k: |x y| at most m k. -/
theorem mul_bd {x y m k : Int} (h1 : -m ≤ x) (h2 : x ≤ m) (h3 : -k ≤ y) (h4 : y ≤ k) (hm : 0 ≤ m) (hk : 0 ≤ k) : -(m * k) ≤ x * y ∧ x * y ≤ m * k := by
  have a : x.natAbs ≤ m.toNat := by omega
  have b : y.natAbs ≤ k.toNat := by omega
  have c := Nat.mul_le_mul a b
  rw [← Int.natAbs_mul] at c
  have d : ((m.toNat * k.toNat : Nat) : Int) = m * k := by rw [Int.natCast_mul, Int.toNat_of_nonneg hm, Int.toNat_of_nonneg hk]
  omega

end Go.Proofs.YtmcjfjchpclamaaDoor.B1

namespace Go.Proofs.YtmcjfjchpclamaaDoor.D1
open Go.Proofs.YtmcjfjchpclamaaDoor.P1 Go.Proofs.YtmcjfjchpclamaaDoor.B1
open Go.ChangeShapes Go.WideShapes Go.ChangeAt Go.RowKit
set_option linter.unusedVariables false

/-- Only block c of what was there has turned. -/
structure Only (c : Nat) (w w' : World) : Prop where
  os : w'.os = w.os
  tape : w'.tape = w.tape
  output : w'.output = w.output
  size : w.heap.size ≤ w'.heap.size
  block : ∀ k, k ≠ c → k < w.heap.size → w'.heap[k]? = w.heap[k]?

theorem Only.refl (c : Nat) (w : World) : Only c w w := ⟨rfl, rfl, rfl, Nat.le_refl _, fun _ _ _ => rfl⟩
theorem Only.trans {k : Nat} {a b c : World} (h : Only k a b) (g : Only k b c) : Only k a c :=
  ⟨g.os.trans h.os, g.tape.trans h.tape, g.output.trans h.output, Nat.le_trans h.size g.size, fun i hi hs => (g.block i hi (Nat.lt_of_lt_of_le hs h.size)).trans (h.block i hi hs)⟩
theorem Only.drew {k : Nat} {a w : World} (h : Only k a w) : Only k a w.drew := ⟨h.os, h.tape, h.output, h.size, h.block⟩
theorem Only.below {B c : Nat} {w w' : World} (h : Only c w w') (hB : B ≤ c) (hs : B ≤ w.heap.size) : Below B w w' :=
  ⟨h.os, h.tape, h.output, h.size, fun k hk => h.block k (by omega) (by omega)⟩
theorem Only.setCell {c : Nat} {a w : World} (h : Only c a w) {p : Addr} (hp : p.block = c) (u : Value) : Only c a (w.setCell p u) :=
  h.trans ⟨rfl, rfl, rfl, by simp [World.setCell], fun k hk _ => Below.heap_setCell _ _ _ _ (by omega)⟩

/-- The bytes that came in: readable below the length, in another block than c. -/
def Bytes (w : World) (c : Nat) (a : Option Addr) (len : Nat) : Prop :=
  len ≤ 4096 ∧ ∀ i, i < len → ∃ b off n, a = some ⟨b, off, none⟩ ∧ b < w.heap.size ∧ b ≠ c ∧ w.cell? ⟨b, off + i, none⟩ = some (.int .u8 n) ∧ 0 ≤ n ∧ n ≤ 255

/-- A cursor in block c: its bytes, its place, its number. -/
structure Cur (w : World) (c : Nat) (a : Option Addr) (len cap : Nat) : Prop where
  lt : c < w.heap.size
  cell0 : w.cell? ⟨c, 0, none⟩ = some (.slice a len cap)
  cell1 : ∃ i : Nat, i ≤ len ∧ w.cell? ⟨c, 1, none⟩ = some (.int .i64 i)
  cell2 : ∃ h : Int, w.cell? ⟨c, 2, none⟩ = some (.int .i64 h)
  fr1 : w.frozen? ⟨c, 1, none⟩ = false
  fr2 : w.frozen? ⟨c, 2, none⟩ = false
  bytes : Bytes w c a len

theorem Bytes.setCell {w : World} {c : Nat} {a : Option Addr} {len : Nat} (h : Bytes w c a len) (o : Nat) (v : Value) : Bytes (w.setCell ⟨c, o, none⟩ v) c a len := by
  refine ⟨h.1, fun i hi => ?_⟩
  obtain ⟨b, off, n, ha, hb, hne, hc, h0, h1⟩ := h.2 i hi
  refine ⟨b, off, n, ha, by simpa [World.setCell] using hb, hne, ?_, h0, h1⟩
  rw [World.cell?_setCell_other _ _ _ _ (by intro e; exact hne (by injection e with e1 _ _; exact e1.symm))]; exact hc

theorem Bytes.alloc {w : World} {c : Nat} {a : Option Addr} {len : Nat} (h : Bytes w c a len) (o : Obj) : Bytes (w.alloc o) c a len := by
  refine ⟨h.1, fun i hi => ?_⟩
  obtain ⟨b, off, n, ha, hb, hne, hc, h0, h1⟩ := h.2 i hi
  refine ⟨b, off, n, ha, by simp; omega, hne, ?_, h0, h1⟩
  rw [World.cell?_alloc_lt _ _ _ hb]; exact hc

theorem Bytes.drewN {w : World} {c : Nat} {a : Option Addr} {len : Nat} (h : Bytes w c a len) (k : Nat) : Bytes (w.drewN k) c a len := h
theorem Cur.drewN {w : World} {c : Nat} {a : Option Addr} {len cap : Nat} (h : Cur w c a len cap) (k : Nat) : Cur (w.drewN k) c a len cap :=
  ⟨h.lt, h.cell0, h.cell1, h.cell2, h.fr1, h.fr2, h.bytes.drewN k⟩
theorem Cur.drew {w : World} {c : Nat} {a : Option Addr} {len cap : Nat} (h : Cur w c a len cap) : Cur w.drew c a len cap :=
  ⟨h.lt, h.cell0, h.cell1, h.cell2, h.fr1, h.fr2, h.bytes⟩

theorem Cur.set2 {w : World} {c : Nat} {a : Option Addr} {len cap : Nat} (h : Cur w c a len cap) (x : Int) : Cur (w.setCell ⟨c, 2, none⟩ (.int .i64 x)) c a len cap := by
  obtain ⟨hlt, c0, ⟨i, hi, c1⟩, ⟨hh, c2⟩, f1, f2, hb⟩ := h
  refine ⟨by simpa [World.setCell] using hlt, ?_, ⟨i, hi, ?_⟩, ⟨x, World.cell?_setCell_same _ _ _ c2⟩, by simpa using f1, by simpa using f2, hb.setCell _ _⟩
  · rw [World.cell?_setCell_other _ _ _ _ (by simp)]; exact c0
  · rw [World.cell?_setCell_other _ _ _ _ (by simp)]; exact c1

theorem Cur.set1 {w : World} {c : Nat} {a : Option Addr} {len cap : Nat} (h : Cur w c a len cap) (k : Nat) (hk : k ≤ len) : Cur (w.setCell ⟨c, 1, none⟩ (.int .i64 k)) c a len cap := by
  obtain ⟨hlt, c0, ⟨i, hi, c1⟩, ⟨hh, c2⟩, f1, f2, hb⟩ := h
  refine ⟨by simpa [World.setCell] using hlt, ?_, ⟨k, hk, World.cell?_setCell_same _ _ _ c1⟩, ⟨hh, ?_⟩, by simpa using f1, by simpa using f2, hb.setCell _ _⟩
  · rw [World.cell?_setCell_other _ _ _ _ (by simp)]; exact c0
  · rw [World.cell?_setCell_other _ _ _ _ (by simp)]; exact c2

theorem Cur.alloc {w : World} {c : Nat} {a : Option Addr} {len cap : Nat} (h : Cur w c a len cap) (o : Obj) : Cur (w.alloc o) c a len cap := by
  obtain ⟨hlt, c0, ⟨i, hi, c1⟩, ⟨hh, c2⟩, f1, f2, hb⟩ := h
  refine ⟨by simp; omega, ?_, ⟨i, hi, ?_⟩, ⟨hh, ?_⟩, ?_, ?_, hb.alloc o⟩
  · rw [World.cell?_alloc_lt _ _ _ hlt]; exact c0
  · rw [World.cell?_alloc_lt _ _ _ hlt]; exact c1
  · rw [World.cell?_alloc_lt _ _ _ hlt]; exact c2
  · rw [World.frozen?_alloc_old _ _ _ (by simp; omega)]; exact f1
  · rw [World.frozen?_alloc_old _ _ _ (by simp; omega)]; exact f2

theorem Only.drewN {k : Nat} {a w : World} (h : Only k a w) (n : Nat) : Only k a (w.drewN n) := ⟨h.os, h.tape, h.output, h.size, h.block⟩

/-- What a draw leaves: a number with P; the cursor still there; only its block turned. -/
def Drawn (P : Int → Prop) (c : Nat) (a : Option Addr) (len cap : Nat) (w : World) (e : Ending) (w' : World) : Prop :=
  ∃ n : Int, P n ∧ e = .returned (.int .i64 n) ∧ Cur w' c a len cap ∧ Only c w w'

/-- The same of a bool. -/
def DrawnB (c : Nat) (a : Option Addr) (len cap : Nat) (w : World) (e : Ending) (w' : World) : Prop :=
  ∃ b : Bool, e = .returned (.bool b) ∧ Cur w' c a len cap ∧ Only c w w'

theorem and_bd (x : Int) (m : Nat) (hm : m < 9223372036854775808) : 0 ≤ bits .and .i64 x m ∧ bits .and .i64 x m ≤ m := by
  unfold bits
  have h : ((BitVec.ofInt IntKind.i64.bits x) &&& (BitVec.ofInt IntKind.i64.bits (m : Int))).toNat ≤ m := by
    rw [BitVec.toNat_and]
    refine Nat.le_trans Nat.and_le_right ?_
    simp only [BitVec.toNat_ofInt, IntKind.bits]
    omega
  show 0 ≤ IntKind.i64.wrap _ ∧ IntKind.i64.wrap _ ≤ _
  rw [IntKind.wrap_i64]
  simp only
  omega

theorem byte_bd (x : Int) : 0 ≤ bits .and .i64 x 255 ∧ bits .and .i64 x 255 ≤ 255 := and_bd x 255 (by omega)

/-- What l1Below answers: from 0 on, below n where that is above 0. -/
def InBelow (n r : Int) : Prop := 0 ≤ r ∧ (0 < n → r < n) ∧ (n ≤ 0 → r = 0)

theorem mod_bd {x n : Int} (hn : 0 < n) : 0 ≤ x % n ∧ x % n < n := ⟨Int.emod_nonneg _ (by omega), Int.emod_lt_of_pos _ hn⟩

/-- What l1New leaves: a pointer to a cursor in a new block. -/
def NewCur (a : Option Addr) (len cap : Nat) (w : World) (e : Ending) (w' : World) : Prop :=
  e = .returned (.pointer (some ⟨w.heap.size, 0, none⟩)) ∧ Cur w' w.heap.size a len cap ∧ Only w.heap.size w w'

theorem cur_new {w : World} {a : Option Addr} {len cap : Nat} (h : Bytes w w.heap.size a len) (x : Int) (t : TypeId) :
    Cur (w.alloc (.cells #[.slice a len cap, .int .i64 0, .int .i64 x] t)) w.heap.size a len cap :=
  ⟨by simp, by simp, ⟨0, Nat.zero_le _, by simp⟩, ⟨x, by simp⟩, by simp, by simp, h.alloc _⟩

theorem only_new (w : World) (o : Obj) (k : Nat) : Only k w (w.alloc o) :=
  ⟨rfl, rfl, rfl, by simp, fun i _ hs => Below.heap_alloc _ _ _ hs⟩

theorem Only.cell {c : Nat} {w w' : World} (h : Only c w w') {p : Addr} (hp : p.block ≠ c) (hs : p.block < w.heap.size) : w'.cell? p = w.cell? p := World.cell?_of_block (w := w) (h.block p.block hp hs)

/-- A cell of a short row of numbers that was made ahead of a draw, read behind it. -/
theorem made_cell {w w1 : World} {c : Nat} (l : List Int) (t : TypeId) (ho : Only c (w.alloc (.cells (l.map (Value.int .i64)).toArray t)) w1) (hc : c < w.heap.size)
    {n : Int} (h0 : 0 ≤ n) (h1 : n < l.length) : ∃ v, v ∈ l ∧ w1.cell? ⟨w.heap.size, n.toNat, none⟩ = some (.int .i64 v) := by
  have hn : n.toNat < l.length := by omega
  refine ⟨l[n.toNat], List.getElem_mem _, ?_⟩
  rw [ho.cell (p := ⟨w.heap.size, n.toNat, none⟩) (by simp; omega) (by simp), World.cell?_alloc_new]
  simp [hn]

/-- The same, the number by itself: ahead of the block, or behind it. -/
theorem made_row (l : List Int) {n : Int} (h0 : 0 ≤ n) (h1 : n < l.length) : ∃ v, v ∈ l ∧ (l.map (Value.int .i64)).toArray[n.toNat]? = some (.int .i64 v) := by
  have hn : n.toNat < l.length := by omega
  exact ⟨l[n.toNat], List.getElem_mem _, by simp [hn]⟩

theorem made_get {l : List Value} {n : Nat} {v : Value} (h : l.toArray[n]? = some v) (hh : n < l.length) : l[n] = v := by
  simp [hh] at h; exact h

theorem made_at {w w1 : World} {c : Nat} (l : List Int) (t : TypeId) (ho : Only c (w.alloc (.cells (l.map (Value.int .i64)).toArray t)).drew w1) (hc : c < w.heap.size)
    {n : Nat} {v : Value} (h : (l.map (Value.int .i64)).toArray[n]? = some v) : w1.cell? ⟨w.heap.size, n, none⟩ = some v := by
  rw [ho.cell (p := ⟨w.heap.size, n, none⟩) (by simp; omega) (by simp), World.cell?_drew, World.cell?_alloc_new]
  exact h

/-- What l1DrawPart answers: from -1 to 65537. -/
def InPart (n : Int) : Prop := -1 ≤ n ∧ n ≤ 65537

/-- Behind what makes memory alone the bytes lie as they lay. -/
theorem Bytes.below {w w' : World} {a : Option Addr} {len : Nat} (h : Bytes w w.heap.size a len) (hb : Below w.heap.size w w') : Bytes w' w'.heap.size a len := by
  refine ⟨h.1, fun i hi => ?_⟩
  obtain ⟨b, off, n, ha, hlt, hne, hc, h0, h1⟩ := h.2 i hi
  have := hb.size
  exact ⟨b, off, n, ha, by omega, by omega, by rw [hb.cell (p := ⟨b, off + i, none⟩) hlt]; exact hc, h0, h1⟩

/-- What a draw from the bytes leaves: a number with P, and nothing that was there has turned. -/
def Given (P : Int → Prop) (w : World) (e : Ending) (w' : World) : Prop := ∃ n : Int, P n ∧ e = .returned (.int .i64 n) ∧ Below w.heap.size w w'

/-- What DrawPartOf answers. -/
def InPartOf (n all : Int) : Prop := -1 ≤ n ∧ n ≤ 1000000002 ∧ 0 ≤ all ∧ all ≤ 1000000001

def Given2 (P : Int → Int → Prop) (w : World) (e : Ending) (w' : World) : Prop :=
  ∃ n m : Int, P n m ∧ e = .returned (.tuple #[.int .i64 n, .int .i64 m]) ∧ Below w.heap.size w w'

def Given3 (P : Int → Int → Int → Prop) (w : World) (e : Ending) (w' : World) : Prop :=
  ∃ n m k : Int, P n m k ∧ e = .returned (.tuple #[.int .i64 n, .int .i64 m, .int .i64 k]) ∧ Below w.heap.size w w'

/-- What DrawBetween answers. -/
def InBetween (x y p : Int) : Prop := -1000000001 ≤ x ∧ x ≤ 1000000001 ∧ -1000000 ≤ y ∧ y ≤ 1000000 ∧ -131073 ≤ p ∧ p ≤ 196609

end Go.Proofs.YtmcjfjchpclamaaDoor.D1

namespace Go.Proofs.YtmcjfjchpclamaaDoor.D1
open Go.ChangeShapes Go.WideShapes Go.ChangeAt Go.RowKit
set_option linter.unusedVariables false
set_option maxRecDepth 100000

theorem open_bytes {H : Type} {enc : TypeId × Value → H} {W : World} {base b0 : Nat} {spare : Nat → Bool} {held : Bool} {v : Value} {d : DataW H} {p : List MemPlace}
    (hv : Value.okWide Tryd.prog W .any b0 99 v) (h : DataW.Trod enc Tryd.prog W base spare held 99 v d p) : ∃ a len cap, v = .slice a len cap ∧ (len ≤ 4096 → Bytes W W.heap.size a len) := by
  obtain ⟨a, len, cap, rfl⟩ := okWide_slice Tryd.underlying99 hv
  refine ⟨a, len, cap, rfl, fun hl => ⟨hl, fun i hi => ?_⟩⟩
  obtain ⟨fuel, hf⟩ := h
  rcases open_ints Tryd.underlying99 Tryd.underlying5 (by kernel_rfl) hf with ⟨hcs, _⟩ | ⟨x, l, c, zs, hcs, _, hlc, hm, hz, _, hcell, hwf⟩
  · simp [Value.cells] at hcs; omega
  · simp [Value.cells] at hcs
    obtain ⟨rfl, rfl, rfl⟩ := hcs
    have hz' : len ≤ zs.length := by split at hz <;> omega
    obtain ⟨b, off, rfl, hc⟩ := ints_at hcell (by omega)
    have hci := hc i (by omega)
    have hb : b < W.heap.size := by
      apply Classical.byContradiction
      intro hn
      have : W.cell? ⟨b, off + i, none⟩ = none := by
        simp [World.cell?, Array.getElem?_eq_none (show W.heap.size ≤ b from by omega)]
      rw [this] at hci; cases hci
    refine ⟨b, off, _, rfl, hb, by omega, hci, ?_⟩
    have := range_u8 hwf i
    simpa using this

end Go.Proofs.YtmcjfjchpclamaaDoor.D1

namespace Go.Proofs.YtmcjfjchpclamaaDoor.D1
open Go.Proofs.YtmcjfjchpclamaaDoor.P1 Go.Proofs.YtmcjfjchpclamaaDoor.B1
open Go.ChangeShapes Go.WideShapes Go.ChangeAt Go.RowKit
set_option linter.unusedVariables false

theorem Only.frozen {c : Nat} {w w' : World} (h : Only c w w') {p : Addr} (hp : p.block ≠ c) (hs : p.block < w.heap.size) : w'.frozen? p = w.frozen? p := by
  have := h.block p.block hp hs
  unfold World.frozen?
  rw [this]

theorem Bytes.only {w w' : World} {c : Nat} {a : Option Addr} {len : Nat} (h : Bytes w c a len) (ho : Only c w w') : Bytes w' c a len := by
  refine ⟨h.1, fun i hi => ?_⟩
  obtain ⟨b, off, n, ha, hb, hne, hc, h0, h1⟩ := h.2 i hi
  exact ⟨b, off, n, ha, Nat.lt_of_lt_of_le hb ho.size, hne, (ho.cell hne hb).trans hc, h0, h1⟩

/-- The frame of a draw: begun in w, the world is now w'; the cursor's block is c; of what was there only that block has turned. -/
structure Fr (c : Nat) (a : Option Addr) (len cap : Nat) (w w' : World) : Prop where
  cur : Cur w' c a len cap
  only : Only c w w'
  bytes : Bytes w c a len

theorem Fr.refl {c : Nat} {a : Option Addr} {len cap : Nat} {w : World} (h : Cur w c a len cap) : Fr c a len cap w w := ⟨h, Only.refl _ _, h.bytes⟩
theorem Fr.call {c : Nat} {a : Option Addr} {len cap : Nat} {w w' w2 : World} (h : Fr c a len cap w w') (hc : Cur w2 c a len cap) (ho : Only c w' w2) : Fr c a len cap w w2 := ⟨hc, h.only.trans ho, h.bytes⟩
theorem Fr.alloc {c : Nat} {a : Option Addr} {len cap : Nat} {w w' : World} (h : Fr c a len cap w w') (o : Obj) : Fr c a len cap w (w'.alloc o) := ⟨h.cur.alloc o, h.only.trans (only_new w' o c), h.bytes⟩
theorem Fr.drew {c : Nat} {a : Option Addr} {len cap : Nat} {w w' : World} (h : Fr c a len cap w w') : Fr c a len cap w w'.drew := ⟨h.cur.drew, h.only.drew, h.bytes⟩
theorem Fr.drewN {c : Nat} {a : Option Addr} {len cap : Nat} {w w' : World} (h : Fr c a len cap w w') (n : Nat) : Fr c a len cap w (w'.drewN n) := ⟨h.cur.drewN n, h.only.drewN n, h.bytes⟩

theorem Fr.set {c : Nat} {a : Option Addr} {len cap : Nat} {w w' : World} (h : Fr c a len cap w w') {b : Nat} (hb : w.heap.size ≤ b) (hbc : b ≠ c) (o : Nat) (v : Value) : Fr c a len cap w (w'.setCell ⟨b, o, none⟩ v) := by
  have ho : Only c w (w'.setCell ⟨b, o, none⟩ v) :=
    ⟨h.only.os, h.only.tape, h.only.output, by simpa [World.setCell] using h.only.size, fun k hk hs => by
      rw [Below.heap_setCell _ _ _ _ (by show k ≠ b; omega)]; exact h.only.block k hk hs⟩
  obtain ⟨hl, c0, ⟨i, hi, c1⟩, ⟨hh, c2⟩, f1, f2, hbt⟩ := h.cur
  refine ⟨⟨by simpa [World.setCell] using hl, ?_, ⟨i, hi, ?_⟩, ⟨hh, ?_⟩, by simpa using f1, by simpa using f2, h.bytes.only ho⟩, ho, h.bytes⟩
  · rw [World.cell?_setCell_other _ _ _ _ (by simp [*])]; exact c0
  · rw [World.cell?_setCell_other _ _ _ _ (by simp [*])]; exact c1
  · rw [World.cell?_setCell_other _ _ _ _ (by simp [*])]; exact c2

/-- A local block b holds these values, each may be read and written. -/
def LBlk (w : World) (b : Nat) (vs : List Value) : Prop := b < w.heap.size ∧ ∀ i v, vs[i]? = some v → w.cell? ⟨b, i, none⟩ = some v ∧ w.frozen? ⟨b, i, none⟩ = false

theorem LBlk.only {w w' : World} {b c : Nat} {vs : List Value} (h : LBlk w b vs) (ho : Only c w w') (hb : b ≠ c) : LBlk w' b vs :=
  ⟨Nat.lt_of_lt_of_le h.1 ho.size, fun i v hv => ⟨(ho.cell hb h.1).trans (h.2 i v hv).1, (Only.frozen ho hb h.1).trans (h.2 i v hv).2⟩⟩

theorem LBlk.below {w w' : World} {b : Nat} {vs : List Value} (h : LBlk w b vs) (hb : Below w.heap.size w w') : LBlk w' b vs :=
  ⟨Nat.lt_of_lt_of_le h.1 hb.size, fun i v hv => ⟨(hb.cell (p := ⟨b, i, none⟩) h.1).trans (h.2 i v hv).1, (hb.frozen (p := ⟨b, i, none⟩) h.1).trans (h.2 i v hv).2⟩⟩

theorem LBlk.alloc {w : World} {b : Nat} {vs : List Value} (h : LBlk w b vs) (o : Obj) : LBlk (w.alloc o) b vs := h.only (only_new w o (b + 1)) (by omega)
theorem LBlk.drew {w : World} {b : Nat} {vs : List Value} (h : LBlk w b vs) : LBlk w.drew b vs := h
theorem LBlk.drewN {w : World} {b : Nat} {vs : List Value} (h : LBlk w b vs) (n : Nat) : LBlk (w.drewN n) b vs := h

theorem LBlk.new (w : World) (vs : List Value) (t : TypeId) : LBlk (w.alloc (.cells vs.toArray t)) w.heap.size vs := by
  refine ⟨by simp, fun i v hv => ⟨?_, by simp⟩⟩
  rw [World.cell?_alloc_new]
  simpa using hv

theorem LBlk.set {w : World} {b : Nat} {vs : List Value} (h : LBlk w b vs) (o : Nat) (v : Value) (ho : o < vs.length) : LBlk (w.setCell ⟨b, o, none⟩ v) b (vs.set o v) := by
  refine ⟨by simpa [World.setCell] using h.1, fun i u hu => ?_⟩
  by_cases e : i = o
  · subst e
    rw [List.getElem?_set_self ho] at hu
    cases hu
    obtain ⟨c, f⟩ := h.2 i _ (List.getElem?_eq_getElem ho)
    exact ⟨World.cell?_setCell_same _ _ _ c, by simpa using f⟩
  · rw [List.getElem?_set_ne (Ne.symm e)] at hu
    obtain ⟨c, f⟩ := h.2 i u hu
    exact ⟨by rw [World.cell?_setCell_other _ _ _ _ (by simp [*])]; exact c, by simpa using f⟩

theorem LBlk.set_other {w : World} {b : Nat} {vs : List Value} (h : LBlk w b vs) {b' : Nat} (hb : b ≠ b') (o : Nat) (v : Value) : LBlk (w.setCell ⟨b', o, none⟩ v) b vs :=
  ⟨by simpa [World.setCell] using h.1, fun i u hu => ⟨by rw [World.cell?_setCell_other _ _ _ _ (by simp [*])]; exact (h.2 i u hu).1, by simpa using (h.2 i u hu).2⟩⟩

end Go.Proofs.YtmcjfjchpclamaaDoor.D1

namespace Go.Proofs.YtmcjfjchpclamaaDoor.D2
open Go.Proofs.YtmcjfjchpclamaaDoor.P1 Go.Proofs.YtmcjfjchpclamaaDoor.B1 Go.Proofs.YtmcjfjchpclamaaDoor.D1
open Go.ChangeShapes Go.WideShapes Go.ChangeAt Go.RowKit
set_option linter.unusedVariables false

/-- What l1From answers, where lo is not above hi. -/
def InFrom (lo hi r : Int) : Prop := lo ≤ r ∧ r ≤ hi

/-- What l2Draw answers: a curve of some numbers. -/
def DrawnCurve (c : Nat) (a : Option Addr) (len cap : Nat) (w : World) (e : Ending) (w' : World) : Prop :=
  ∃ x1 y1 x2 y2 : Int, e = .returned (.agg #[.int .i64 x1, .int .i64 y1, .int .i64 x2, .int .i64 y2]) ∧ Cur w' c a len cap ∧ Only c w w'

/-- A local block of four numbers. -/
def Four (w : World) (b : Nat) : Prop := ∃ x1 y1 x2 y2 : Int, LBlk w b [.int .i64 x1, .int .i64 y1, .int .i64 x2, .int .i64 y2]

/-- The world between l2Draw's statements: the cursor, the answer's block r, the curve's block b. -/
structure In2 (c : Nat) (a : Option Addr) (len cap : Nat) (w : World) (r b : Nat) (w' : World) : Prop where
  fr : Fr c a len cap w w'
  ans : LBlk w' r [.int .i64 0, .int .i64 0, .int .i64 0, .int .i64 0]
  crv : Four w' b
  hr : w.heap.size ≤ r
  hb : w.heap.size ≤ b
  ne : b ≠ r
  rc : r ≠ c
  bc : b ≠ c

theorem In2.call {c : Nat} {a : Option Addr} {len cap : Nat} {w w' w2 : World} {r b : Nat} (h : In2 c a len cap w r b w') (hc : Cur w2 c a len cap) (ho : Only c w' w2) : In2 c a len cap w r b w2 := by
  obtain ⟨x1, y1, x2, y2, hf⟩ := h.crv
  exact ⟨h.fr.call hc ho, h.ans.only ho h.rc, ⟨x1, y1, x2, y2, hf.only ho h.bc⟩, h.hr, h.hb, h.ne, h.rc, h.bc⟩

theorem In2.alloc {c : Nat} {a : Option Addr} {len cap : Nat} {w w' : World} {r b : Nat} (h : In2 c a len cap w r b w') (o : Obj) : In2 c a len cap w r b (w'.alloc o) := by
  obtain ⟨x1, y1, x2, y2, hf⟩ := h.crv
  exact ⟨h.fr.alloc o, h.ans.alloc o, ⟨x1, y1, x2, y2, hf.alloc o⟩, h.hr, h.hb, h.ne, h.rc, h.bc⟩

theorem In2.set {c : Nat} {a : Option Addr} {len cap : Nat} {w w' : World} {r b : Nat} (h : In2 c a len cap w r b w') (k : Nat) (hk : k < 4) (n : Int) : In2 c a len cap w r b (w'.setCell ⟨b, k, none⟩ (.int .i64 n)) := by
  obtain ⟨x1, y1, x2, y2, hf⟩ := h.crv
  refine ⟨h.fr.set h.hb h.bc _ _, h.ans.set_other (Ne.symm h.ne) _ _, ?_, h.hr, h.hb, h.ne, h.rc, h.bc⟩
  have g := hf.set k (.int .i64 n) (by simpa using hk)
  rcases (show k = 0 ∨ k = 1 ∨ k = 2 ∨ k = 3 by omega) with rfl | rfl | rfl | rfl
  · exact ⟨n, y1, x2, y2, g⟩
  · exact ⟨x1, n, x2, y2, g⟩
  · exact ⟨x1, y1, n, y2, g⟩
  · exact ⟨x1, y1, x2, n, g⟩

/-- The cells of a local block of four numbers, one by one. -/
theorem four_cells {w : World} {b : Nat} {v0 v1 v2 v3 : Value} (h : LBlk w b [v0, v1, v2, v3]) :
    w.cell? ⟨b, 0, none⟩ = some v0 ∧ w.cell? ⟨b, 1, none⟩ = some v1 ∧ w.cell? ⟨b, 2, none⟩ = some v2 ∧ w.cell? ⟨b, 3, none⟩ = some v3 ∧
    w.frozen? ⟨b, 0, none⟩ = false ∧ w.frozen? ⟨b, 1, none⟩ = false ∧ w.frozen? ⟨b, 2, none⟩ = false ∧ w.frozen? ⟨b, 3, none⟩ = false :=
  ⟨(h.2 0 _ rfl).1, (h.2 1 _ rfl).1, (h.2 2 _ rfl).1, (h.2 3 _ rfl).1, (h.2 0 _ rfl).2, (h.2 1 _ rfl).2, (h.2 2 _ rfl).2, (h.2 3 _ rfl).2⟩

theorem below4 {n : Int} (h : InBelow 4 n) : n = 0 ∨ n = 1 ∨ n = 2 ∨ n = 3 := by
  obtain ⟨h0, h1, _⟩ := h
  have := h1 (by omega); omega
theorem below2 {n : Int} (h : InBelow 2 n) : n = 0 ∨ n = 1 := by
  obtain ⟨h0, h1, _⟩ := h
  have := h1 (by omega); omega

/-- What the draws of chapter 2 answer from the bytes: a curve and a number with P. -/
def GivenCurve (P : Int → Prop) (w : World) (e : Ending) (w' : World) : Prop :=
  ∃ x1 y1 x2 y2 p : Int, P p ∧ e = .returned (.tuple #[.agg #[.int .i64 x1, .int .i64 y1, .int .i64 x2, .int .i64 y2], .int .i64 p]) ∧ Below w.heap.size w w'

theorem bytes_next {w : World} {a : Option Addr} {len : Nat} (h : Bytes w w.heap.size a len) : Bytes w (w.heap.size + 1) a len :=
  ⟨h.1, fun i hi => by
    obtain ⟨b, off, n, ha, hb, hne, hc, h0, h1⟩ := h.2 i hi
    exact ⟨b, off, n, ha, hb, by omega, hc, h0, h1⟩⟩

/-- What laws.pick answers: a number from 0 on below n. -/
def Picked (n : Int) (w : World) (e : Ending) (w' : World) : Prop := ∃ r : Int, 0 ≤ r ∧ r < n ∧ e = .returned (.int .i64 r) ∧ w = w'

end Go.Proofs.YtmcjfjchpclamaaDoor.D2

namespace Go.Proofs.YtmcjfjchpclamaaDoor.P2
open Go.Proofs.YtmcjfjchpclamaaDoor.P1

def curveOk (x1 y1 x2 y2 : Int) : Bool := within x1 0 100 && within x2 0 100 && within y1 (-100) 200 && within y2 (-100) 200

theorem curveOk_true {x1 y1 x2 y2 : Int} (h : curveOk x1 y1 x2 y2 = true) : 0 ≤ x1 ∧ x1 ≤ 100 ∧ 0 ≤ x2 ∧ x2 ≤ 100 ∧ -100 ≤ y1 ∧ y1 ≤ 200 ∧ -100 ≤ y2 ∧ y2 ≤ 200 := by
  simp only [curveOk, Bool.and_eq_true] at h
  obtain ⟨⟨⟨h1, h2⟩, h3⟩, h4⟩ := h
  have := within_true h1; have := within_true h2; have := within_true h3; have := within_true h4
  omega

theorem curveOk_mk {x1 y1 x2 y2 : Int} (h : 0 ≤ x1 ∧ x1 ≤ 100 ∧ 0 ≤ x2 ∧ x2 ≤ 100 ∧ -100 ≤ y1 ∧ y1 ≤ 200 ∧ -100 ≤ y2 ∧ y2 ≤ 200) : curveOk x1 y1 x2 y2 = true := by
  obtain ⟨h1, h2, h3, h4, h5, h6, h7, h8⟩ := h
  simp [curveOk, within_mk h1 h2, within_mk h3 h4, within_mk h5 h6, within_mk h7 h8]

theorem curveOk_not {x1 y1 x2 y2 : Int} (h : ¬ (0 ≤ x1 ∧ x1 ≤ 100 ∧ 0 ≤ x2 ∧ x2 ≤ 100 ∧ -100 ≤ y1 ∧ y1 ≤ 200 ∧ -100 ≤ y2 ∧ y2 ≤ 200)) : curveOk x1 y1 x2 y2 = false := by
  cases e : curveOk x1 y1 x2 y2
  · rfl
  · exact absurd (curveOk_true e) h

/-- 3 r r t a + 3 r t t b + 100 t t t, r = 1024 - t. -/
def along (a b t : Int) : Int := 3 * (1024 - t) * (1024 - t) * t * a + 3 * (1024 - t) * t * t * b + 100 * t * t * t

theorem along_diff1 (a b t : Int) : 100 * (along a b (t + 1) - along a b t) = (100 - a - b) * (100 * (3 * t * t + 3 * t + 1)) + a * (100 * (3 * ((1023 - 2 * t) * (1023 - 2 * t)) + 1)) + b * (100 * (6 * (t * (1023 - t)) + 3070)) := by
  unfold along; grind

theorem along_diff2 (a b t : Int) : 100 * (along a b (t + 1) - along a b t) = (a + b - 100) * (100 * (3 * ((1024 - t) * (1023 - t)) + 1)) + (100 - b) * (100 * (3 * ((1023 - 2 * t) * (1023 - 2 * t)) + 1)) + (100 - a) * (100 * (6 * (t * (1023 - t)) + 3070)) := by
  unfold along; grind

theorem sq_nonneg (x : Int) : 0 ≤ x * x := by
  by_cases h : 0 ≤ x
  · exact Int.mul_nonneg h h
  · have := Int.mul_nonneg (show 0 ≤ -x by omega) (show 0 ≤ -x by omega)
    rw [Int.neg_mul_neg] at this; exact this

theorem along_step {a b t : Int} (a0 : 0 ≤ a) (a1 : a ≤ 100) (b0 : 0 ≤ b) (b1 : b ≤ 100) (t0 : 0 ≤ t) (t1 : t ≤ 1023) : along a b t ≤ along a b (t + 1) := by
  have e1 : 0 ≤ 100 * (3 * ((1023 - 2 * t) * (1023 - 2 * t)) + 1) := by have := sq_nonneg (1023 - 2 * t); omega
  have e2 : 0 ≤ 100 * (6 * (t * (1023 - t)) + 3070) := by have := Int.mul_nonneg t0 (show 0 ≤ 1023 - t by omega); omega
  by_cases h : a + b ≤ 100
  · have d := along_diff1 a b t
    have e3 : 0 ≤ 100 * (3 * t * t + 3 * t + 1) := by have := sq_nonneg t; rw [Int.mul_assoc]; omega
    have f1 := Int.mul_nonneg (show 0 ≤ 100 - a - b by omega) e3
    have f2 := Int.mul_nonneg a0 e1
    have f3 := Int.mul_nonneg b0 e2
    omega
  · have d := along_diff2 a b t
    have e3 : 0 ≤ 100 * (3 * ((1024 - t) * (1023 - t)) + 1) := by have := Int.mul_nonneg (show 0 ≤ 1024 - t by omega) (show 0 ≤ 1023 - t by omega); omega
    have f1 := Int.mul_nonneg (show 0 ≤ a + b - 100 by omega) e3
    have f2 := Int.mul_nonneg (show 0 ≤ 100 - b by omega) e1
    have f3 := Int.mul_nonneg (show 0 ≤ 100 - a by omega) e2
    omega

theorem along_mono' {a b : Int} (a0 : 0 ≤ a) (a1 : a ≤ 100) (b0 : 0 ≤ b) (b1 : b ≤ 100) (t : Int) (t0 : 0 ≤ t) (n : Nat) (h : t + n ≤ 1024) : along a b t ≤ along a b (t + n) := by
  induction n with
  | zero => simp
  | succ n ih =>
    have i := ih (by omega)
    have s := along_step a0 a1 b0 b1 (t := t + n) (by omega) (by omega)
    have e : t + ((n + 1 : Nat) : Int) = t + n + 1 := by omega
    rw [e]; omega

theorem along_mono {a b t u : Int} (a0 : 0 ≤ a) (a1 : a ≤ 100) (b0 : 0 ≤ b) (b1 : b ≤ 100) (t0 : 0 ≤ t) (h : t ≤ u) (u1 : u ≤ 1024) : along a b t ≤ along a b u := by
  have := along_mono' a0 a1 b0 b1 t t0 (u - t).toNat (by omega)
  rwa [show t + ((u - t).toNat : Int) = u by omega] at this

theorem along_zero (a b : Int) : along a b 0 = 0 := by simp [along]
theorem along_end (a b : Int) : along a b 1024 = 107374182400 := by simp [along]
theorem along_last {a b : Int} (a1 : a ≤ 100) (b1 : b ≤ 100) : along a b 1023 < 107374182400 := by simp [along]; omega

theorem along_bd {a b t : Int} (a0 : 0 ≤ a) (a1 : a ≤ 100) (b0 : 0 ≤ b) (b1 : b ≤ 100) (t0 : 0 ≤ t) (t1 : t ≤ 1024) : 0 ≤ along a b t ∧ along a b t ≤ 107374182400 := by
  have h1 := along_mono a0 a1 b0 b1 (Int.le_refl 0) t0 t1
  have h2 := along_mono a0 a1 b0 b1 t0 t1 (Int.le_refl 1024)
  rw [along_zero] at h1
  rw [along_end] at h2
  exact ⟨h1, h2⟩

/-- Is stop t far enough for p? -/
def far (x1 x2 p : Int) (t : Nat) : Bool := decide (107374182400 * p ≤ 65536 * along x1 x2 t)

theorem far_mono {x1 x2 p : Int} (a0 : 0 ≤ x1) (a1 : x1 ≤ 100) (b0 : 0 ≤ x2) (b1 : x2 ≤ 100) {t u : Nat} (h : t ≤ u) (hu : u ≤ 1024) (hf : far x1 x2 p t = true) : far x1 x2 p u = true := by
  have := along_mono a0 a1 b0 b1 (t := t) (u := u) (by omega) (by omega) (by omega)
  simp only [far, decide_eq_true_eq] at *
  omega

theorem far_end {x1 x2 p : Int} (h : p ≤ 65536) : far x1 x2 p 1024 = true := by
  simp only [far, decide_eq_true_eq]
  have := along_end x1 x2
  rw [show ((1024 : Nat) : Int) = 1024 by rfl, this]; omega

/-- The first one from k on, of n, at which f holds; k + n where there is none. -/
def scan (f : Nat → Bool) (k : Nat) : Nat → Nat
  | 0 => k
  | n + 1 => if f k = true then k else scan f (k + 1) n

theorem scan_le (f : Nat → Bool) (n : Nat) : ∀ k, k ≤ scan f k n ∧ scan f k n ≤ k + n := by
  induction n with
  | zero => intro k; exact ⟨Nat.le_refl _, Nat.le_refl _⟩
  | succ n ih => intro k; unfold scan; split; omega; have := ih (k + 1); omega

theorem scan_before (f : Nat → Bool) (n : Nat) : ∀ k i, k ≤ i → i < scan f k n → f i = false := by
  induction n with
  | zero => intro k i h1 h2; unfold scan at h2; omega
  | succ n ih =>
    intro k i h1 h2
    unfold scan at h2
    split at h2
    · omega
    · next hk =>
      by_cases e : i = k
      · subst e; simpa using hk
      · exact ih (k + 1) i (by omega) h2

theorem scan_at (f : Nat → Bool) (n : Nat) : ∀ k, scan f k n < k + n → f (scan f k n) = true := by
  induction n with
  | zero => intro k h; unfold scan at h; omega
  | succ n ih =>
    intro k h
    unfold scan at h ⊢
    split
    · next hk => exact hk
    · next hk => rw [if_neg hk] at h; exact ih (k + 1) (by omega)

def stop (x1 x2 p : Int) : Nat := scan (far x1 x2 p) 0 1024

theorem stop_le (x1 x2 p : Int) : stop x1 x2 p ≤ 1024 := by have := scan_le (far x1 x2 p) 1024 0; unfold stop; omega

theorem stop_before {x1 x2 p : Int} {i : Nat} (h : i < stop x1 x2 p) : far x1 x2 p i = false := scan_before _ _ 0 i (Nat.zero_le _) h

theorem stop_far {x1 x2 p : Int} (hp : p ≤ 65536) : far x1 x2 p (stop x1 x2 p) = true := by
  by_cases h : stop x1 x2 p < 1024
  · exact scan_at _ 1024 0 (by unfold stop at h; omega)
  · have : stop x1 x2 p = 1024 := by have := stop_le x1 x2 p; omega
    rw [this]; exact far_end hp

/-- Whoever is far enough, and none below is, is the stop. -/
theorem stop_eq {x1 x2 p : Int} {t : Nat} (hp : p ≤ 65536) (h1 : far x1 x2 p t = true) (h2 : ∀ i, i < t → far x1 x2 p i = false) : stop x1 x2 p = t := by
  rcases Nat.lt_trichotomy (stop x1 x2 p) t with h | h | h
  · have := h2 _ h; rw [stop_far hp] at this; cases this
  · exact h
  · have := stop_before h; rw [h1] at this; cases this

theorem stop_mono {x1 x2 p q : Int} (h : p ≤ q) (hq : q ≤ 65536) : stop x1 x2 p ≤ stop x1 x2 q := by
  apply Classical.byContradiction
  intro hn
  have a := stop_before (x1 := x1) (x2 := x2) (p := p) (i := stop x1 x2 q) (by omega)
  have b := stop_far (x1 := x1) (x2 := x2) hq
  simp only [far, decide_eq_true_eq, decide_eq_false_iff_not] at a b
  omega

theorem stop_zero (x1 x2 : Int) : stop x1 x2 0 = 0 := stop_eq (by omega) (by simp [far, along_zero]) (fun i h => by omega)

theorem stop_one {x1 x2 : Int} (a0 : 0 ≤ x1) (a1 : x1 ≤ 100) (b0 : 0 ≤ x2) (b1 : x2 ≤ 100) : stop x1 x2 65536 = 1024 := by
  refine stop_eq (by omega) (far_end (by omega)) (fun i h => ?_)
  have m := along_mono a0 a1 b0 b1 (t := i) (u := 1023) (by omega) (by omega) (by omega)
  have l := along_last a1 b1
  simp only [far, decide_eq_false_iff_not]
  omega

def stopOf (x1 y1 x2 y2 p : Int) : Int := if curveOk x1 y1 x2 y2 = true ∧ within p 0 65536 = true then (stop x1 x2 p : Int) else -1

def curveAt (x1 y1 x2 y2 p : Int) : Int := if curveOk x1 y1 x2 y2 = true ∧ within p 0 65536 = true then 65536 * along y1 y2 (stop x1 x2 p) / 107374182400 else 0

def alongX (x1 y1 x2 y2 t : Int) : Int := if curveOk x1 y1 x2 y2 = true ∧ within t 0 1024 = true then along x1 x2 t else -1
def alongY (x1 y1 x2 y2 t : Int) : Int := if curveOk x1 y1 x2 y2 = true ∧ within t 0 1024 = true then along y1 y2 t else 0

theorem stopOf_in {x1 y1 x2 y2 p : Int} (h : curveOk x1 y1 x2 y2 = true) (h' : within p 0 65536 = true) : stopOf x1 y1 x2 y2 p = stop x1 x2 p := if_pos ⟨h, h'⟩
theorem stopOf_out {x1 y1 x2 y2 p : Int} (h : curveOk x1 y1 x2 y2 = false ∨ within p 0 65536 = false) : stopOf x1 y1 x2 y2 p = -1 := if_neg (by rcases h with h | h <;> simp [h])
theorem curveAt_in {x1 y1 x2 y2 p : Int} (h : curveOk x1 y1 x2 y2 = true) (h' : within p 0 65536 = true) : curveAt x1 y1 x2 y2 p = 65536 * along y1 y2 (stop x1 x2 p) / 107374182400 := if_pos ⟨h, h'⟩
theorem curveAt_out {x1 y1 x2 y2 p : Int} (h : curveOk x1 y1 x2 y2 = false ∨ within p 0 65536 = false) : curveAt x1 y1 x2 y2 p = 0 := if_neg (by rcases h with h | h <;> simp [h])
theorem alongX_in {x1 y1 x2 y2 p : Int} (h : curveOk x1 y1 x2 y2 = true) (h' : within p 0 1024 = true) : alongX x1 y1 x2 y2 p = along x1 x2 p := if_pos ⟨h, h'⟩
theorem alongX_out {x1 y1 x2 y2 p : Int} (h : curveOk x1 y1 x2 y2 = false ∨ within p 0 1024 = false) : alongX x1 y1 x2 y2 p = -1 := if_neg (by rcases h with h | h <;> simp [h])
theorem alongY_in {x1 y1 x2 y2 p : Int} (h : curveOk x1 y1 x2 y2 = true) (h' : within p 0 1024 = true) : alongY x1 y1 x2 y2 p = along y1 y2 p := if_pos ⟨h, h'⟩
theorem alongY_out {x1 y1 x2 y2 p : Int} (h : curveOk x1 y1 x2 y2 = false ∨ within p 0 1024 = false) : alongY x1 y1 x2 y2 p = 0 := if_neg (by rcases h with h | h <;> simp [h])

/-- Corners pulled in. -/
def pull (n lo hi : Int) : Int := min (max n lo) hi

theorem pull_same {n lo hi : Int} (h : lo ≤ hi) : (n = pull n lo hi) ↔ within n lo hi = true := by
  unfold pull
  constructor
  · intro e; exact within_mk (by omega) (by omega)
  · intro e; have := within_true e; omega

theorem curve_ends {x1 y1 x2 y2 : Int} (h : curveOk x1 y1 x2 y2 = true) : curveAt x1 y1 x2 y2 0 = 0 ∧ curveAt x1 y1 x2 y2 65536 = 65536 ∧ stopOf x1 y1 x2 y2 65536 = 1024 := by
  have hb := curveOk_true h
  rw [curveAt_in h (by decide), curveAt_in h (by decide), stopOf_in h (by decide), stop_zero, stop_one hb.1 hb.2.1 hb.2.2.1 hb.2.2.2.1]
  have e1 := along_zero y1 y2
  have e2 := along_end y1 y2
  refine ⟨?_, ?_, rfl⟩
  · rw [show ((0 : Nat) : Int) = 0 from rfl, e1]; rfl
  · rw [show ((1024 : Nat) : Int) = 1024 from rfl, e2]; rfl

theorem stop_facts {x1 x2 p : Int} (hp : p ≤ 65536) : 107374182400 * p ≤ 65536 * along x1 x2 (stop x1 x2 p) ∧ (0 < stop x1 x2 p → 65536 * along x1 x2 ((stop x1 x2 p : Int) - 1) < 107374182400 * p) := by
  have a := stop_far (x1 := x1) (x2 := x2) hp
  simp only [far, decide_eq_true_eq] at a
  refine ⟨a, fun h => ?_⟩
  have b := stop_before (x1 := x1) (x2 := x2) (p := p) (i := stop x1 x2 p - 1) (by omega)
  simp only [far, decide_eq_false_iff_not] at b
  rw [show ((stop x1 x2 p : Int) - 1) = ((stop x1 x2 p - 1 : Nat) : Int) by omega]
  omega

/-- One times something from 0 to the whole way, by the whole way: a part. -/
theorem part_of_way {y : Int} (h0 : 0 ≤ y) (h1 : y ≤ 107374182400) : 0 ≤ 65536 * y / 107374182400 ∧ 65536 * y / 107374182400 ≤ 65536 := by omega

theorem straight {x1 x2 p : Int} (a0 : 0 ≤ x1) (a1 : x1 ≤ 100) (b0 : 0 ≤ x2) (b1 : x2 ≤ 100) (p0 : 0 ≤ p) (hp : p ≤ 65536) : p ≤ curveAt x1 x1 x2 x2 p ∧ curveAt x1 x1 x2 x2 p ≤ 65536 := by
  rw [curveAt_in (curveOk_mk ⟨a0, a1, b0, b1, by omega, by omega, by omega, by omega⟩) (within_mk p0 hp)]
  have f := (stop_facts (x1 := x1) (x2 := x2) hp).1
  have b := along_bd a0 a1 b0 b1 (t := stop x1 x2 p) (by omega) (by have := stop_le x1 x2 p; omega)
  generalize along x1 x2 (stop x1 x2 p) = y at *
  omega

theorem curve_between {x1 y1 x2 y2 p : Int} (h : curveOk x1 y1 x2 y2 = true) (y10 : 0 ≤ y1) (y11 : y1 ≤ 100) (y20 : 0 ≤ y2) (y21 : y2 ≤ 100) (p0 : 0 ≤ p) (hp : p ≤ 65536) : 0 ≤ curveAt x1 y1 x2 y2 p ∧ curveAt x1 y1 x2 y2 p ≤ 65536 := by
  rw [curveAt_in h (within_mk p0 hp)]
  have b := along_bd y10 y11 y20 y21 (t := stop x1 x2 p) (by omega) (by have := stop_le x1 x2 p; omega)
  exact part_of_way b.1 b.2

theorem curve_on {x1 y1 x2 y2 p q : Int} (h : curveOk x1 y1 x2 y2 = true) (y10 : 0 ≤ y1) (y11 : y1 ≤ 100) (y20 : 0 ≤ y2) (y21 : y2 ≤ 100) (p0 : 0 ≤ p) (hpq : p ≤ q) (hq : q ≤ 65536) : curveAt x1 y1 x2 y2 p ≤ curveAt x1 y1 x2 y2 q := by
  rw [curveAt_in h (within_mk p0 (by omega)), curveAt_in h (within_mk (by omega) hq)]
  have s := stop_mono (x1 := x1) (x2 := x2) hpq hq
  have m := along_mono y10 y11 y20 y21 (t := stop x1 x2 p) (u := stop x1 x2 q) (by omega) (by omega) (by have := stop_le x1 x2 q; omega)
  exact Int.ediv_le_ediv (by omega) (by omega)

/-- All that a right curve's stop tells at a part. -/
theorem stop_case {x1 y1 x2 y2 p : Int} (h : curveOk x1 y1 x2 y2 = true) (p0 : 0 ≤ p) (p1 : p ≤ 65536) :
    ∃ T A : Int, stopOf x1 y1 x2 y2 p = T ∧ 0 ≤ T ∧ T ≤ 1024 ∧ alongX x1 y1 x2 y2 T = A ∧ 0 ≤ A ∧ A ≤ 107374182400 ∧ 107374182400 * p ≤ 65536 * A
      ∧ (0 < T → ∃ B : Int, alongX x1 y1 x2 y2 (T - 1) = B ∧ 0 ≤ B ∧ B ≤ 107374182400 ∧ 65536 * B < 107374182400 * p)
      ∧ (p < 65536 → ∃ U : Int, stopOf x1 y1 x2 y2 (p + 1) = U ∧ T ≤ U ∧ U ≤ 1024) := by
  obtain ⟨a0, a1, b0, b1, _, _, _, _⟩ := curveOk_true h
  have hl := stop_le x1 x2 p
  obtain ⟨f1, f2⟩ := stop_facts (x1 := x1) (x2 := x2) p1
  have bd := along_bd a0 a1 b0 b1 (t := stop x1 x2 p) (by omega) (by omega)
  refine ⟨stop x1 x2 p, along x1 x2 (stop x1 x2 p), stopOf_in h (within_mk p0 p1), by omega, by omega, alongX_in h (within_mk (by omega) (by omega)), bd.1, bd.2, f1, fun hT => ?_, fun hp => ?_⟩
  · have bd' := along_bd a0 a1 b0 b1 (t := (stop x1 x2 p : Int) - 1) (by omega) (by omega)
    exact ⟨_, alongX_in h (within_mk (by omega) (by omega)), bd'.1, bd'.2, f2 (by omega)⟩
  · have hm := stop_mono (x1 := x1) (x2 := x2) (show p ≤ p + 1 by omega) (by omega)
    have hl' := stop_le x1 x2 (p + 1)
    exact ⟨_, stopOf_in h (within_mk (by omega) (by omega)), by omega, by omega⟩

/-- How great each piece of a curve's way may get. -/
theorem tri_bd {x y z m k l : Int} (x0 : 0 ≤ x) (x1 : x ≤ m) (y0 : 0 ≤ y) (y1 : y ≤ k) (z0 : 0 ≤ z) (z1 : z ≤ l) : 0 ≤ x * y * z ∧ x * y * z ≤ m * k * l := by
  have a := Int.mul_nonneg x0 y0
  have b : x * y ≤ m * k := Int.mul_le_mul x1 y1 y0 (by omega)
  exact ⟨Int.mul_nonneg a z0, Int.mul_le_mul b z1 z0 (by omega)⟩

end Go.Proofs.YtmcjfjchpclamaaDoor.P2

namespace Go.Proofs.YtmcjfjchpclamaaDoor.B2
open Go.Proofs.YtmcjfjchpclamaaDoor.P1 Go.Proofs.YtmcjfjchpclamaaDoor.B1 Go.Proofs.YtmcjfjchpclamaaDoor.P2
open Go.ChangeShapes Go.WideShapes Go.ChangeAt Go.RowKit
set_option linter.unusedVariables false

/-- A call that returns v and leaves all that was there. -/
def Ans (v : Value) (w : World) (e : Ending) (w' : World) : Prop := e = .returned v ∧ Below w.heap.size w w'

theorem bcell {W w1 : World} (hb : Below W.heap.size W w1) : (∀ b o, b < W.heap.size → w1.cell? ⟨b, o, none⟩ = W.cell? ⟨b, o, none⟩) ∧ (∀ b o, b < W.heap.size → w1.frozen? ⟨b, o, none⟩ = W.frozen? ⟨b, o, none⟩) :=
  ⟨fun b o h => hb.cell (p := ⟨b, o, none⟩) h, fun b o h => hb.frozen (p := ⟨b, o, none⟩) h⟩

theorem along_facts {a b t : Int} (a0 : -200 ≤ a) (a1 : a ≤ 200) (b0 : -200 ≤ b) (b1 : b ≤ 200) (t0 : 0 ≤ t) (t1 : t ≤ 1024) :
    (0 ≤ 3 * (1024 - t) * (1024 - t) ∧ 3 * (1024 - t) * (1024 - t) ≤ 3145728) ∧ (0 ≤ 3 * (1024 - t) * (1024 - t) * t ∧ 3 * (1024 - t) * (1024 - t) * t ≤ 3221225472)
    ∧ (-644245094400 ≤ 3 * (1024 - t) * (1024 - t) * t * a ∧ 3 * (1024 - t) * (1024 - t) * t * a ≤ 644245094400)
    ∧ (0 ≤ 3 * (1024 - t) * t ∧ 3 * (1024 - t) * t ≤ 3145728) ∧ (0 ≤ 3 * (1024 - t) * t * t ∧ 3 * (1024 - t) * t * t ≤ 3221225472)
    ∧ (-644245094400 ≤ 3 * (1024 - t) * t * t * b ∧ 3 * (1024 - t) * t * t * b ≤ 644245094400)
    ∧ (0 ≤ 100 * t * t ∧ 100 * t * t ≤ 104857600) ∧ (0 ≤ 100 * t * t * t ∧ 100 * t * t * t ≤ 107374182400) := by
  have h1 := mul_bd (x := 3 * (1024 - t)) (y := 1024 - t) (m := 3072) (k := 1024) (by omega) (by omega) (by omega) (by omega) (by omega) (by omega)
  have h1' := Int.mul_nonneg (show 0 ≤ 3 * (1024 - t) by omega) (show 0 ≤ 1024 - t by omega)
  have h2 := mul_bd (x := 3 * (1024 - t) * (1024 - t)) (y := t) (m := 3145728) (k := 1024) (by omega) (by omega) (by omega) (by omega) (by omega) (by omega)
  have h2' := Int.mul_nonneg h1' t0
  have h3 := mul_bd (x := 3 * (1024 - t) * (1024 - t) * t) (y := a) (m := 3221225472) (k := 200) (by omega) (by omega) (by omega) (by omega) (by omega) (by omega)
  have h4 := mul_bd (x := 3 * (1024 - t)) (y := t) (m := 3072) (k := 1024) (by omega) (by omega) (by omega) (by omega) (by omega) (by omega)
  have h4' := Int.mul_nonneg (show 0 ≤ 3 * (1024 - t) by omega) t0
  have h5 := mul_bd (x := 3 * (1024 - t) * t) (y := t) (m := 3145728) (k := 1024) (by omega) (by omega) (by omega) (by omega) (by omega) (by omega)
  have h5' := Int.mul_nonneg h4' t0
  have h6 := mul_bd (x := 3 * (1024 - t) * t * t) (y := b) (m := 3221225472) (k := 200) (by omega) (by omega) (by omega) (by omega) (by omega) (by omega)
  have h7 := mul_bd (x := 100 * t) (y := t) (m := 102400) (k := 1024) (by omega) (by omega) (by omega) (by omega) (by omega) (by omega)
  have h7' := Int.mul_nonneg (show 0 ≤ 100 * t by omega) t0
  have h8 := mul_bd (x := 100 * t * t) (y := t) (m := 104857600) (k := 1024) (by omega) (by omega) (by omega) (by omega) (by omega) (by omega)
  have h8' := Int.mul_nonneg h7' t0
  omega

theorem along_far {a b t : Int} (a0 : -200 ≤ a) (a1 : a ≤ 200) (b0 : -200 ≤ b) (b1 : b ≤ 200) (t0 : 0 ≤ t) (t1 : t ≤ 1024) : -1288490188800 ≤ along a b t ∧ along a b t ≤ 1395864371200 := by
  have := along_facts a0 a1 b0 b1 t0 t1
  unfold along; omega

theorem pull_lo {n lo hi : Int} (h : n < lo) (hh : lo ≤ hi) : lo = pull n lo hi := by unfold pull; omega
theorem pull_hi {n lo hi : Int} (h : hi < n) (hh : lo ≤ hi) : hi = pull n lo hi := by unfold pull; omega
theorem pull_in {n lo hi : Int} (h : lo ≤ n) (hh : n ≤ hi) : n = pull n lo hi := by unfold pull; omega

theorem curveOk_pull (x1 y1 x2 y2 : Int) : curveOk x1 y1 x2 y2 = (((x1 == pull x1 0 100) && (y1 == pull y1 (-100) 200)) && ((x2 == pull x2 0 100) && (y2 == pull y2 (-100) 200))) := by
  have e (n lo hi : Int) (h : lo ≤ hi) : (n == pull n lo hi) = within n lo hi := by
    rw [Bool.eq_iff_iff, beq_iff_eq]; exact pull_same h
  rw [e _ _ _ (by omega), e _ _ _ (by omega), e _ _ _ (by omega), e _ _ _ (by omega)]
  unfold curveOk
  cases within x1 0 100 <;> cases within x2 0 100 <;> cases within y1 (-100) 200 <;> cases within y2 (-100) 200 <;> rfl

/-- A block of four numbers that the call has made, and all below is as it was. -/
theorem four_new {w w1 : World} {o : Obj} (x1 y1 x2 y2 : Int) (t : TypeId) (hb : Below (w.alloc o).heap.size (w.alloc o) w1) :
    (w1.alloc (.cells #[.int .i64 x1, .int .i64 y1, .int .i64 x2, .int .i64 y2] t)).cell? ⟨w1.heap.size, 0, none⟩ = some (.int .i64 x1)
    ∧ (w1.alloc (.cells #[.int .i64 x1, .int .i64 y1, .int .i64 x2, .int .i64 y2] t)).cell? ⟨w1.heap.size, 1, none⟩ = some (.int .i64 y1)
    ∧ (w1.alloc (.cells #[.int .i64 x1, .int .i64 y1, .int .i64 x2, .int .i64 y2] t)).cell? ⟨w1.heap.size, 2, none⟩ = some (.int .i64 x2)
    ∧ (w1.alloc (.cells #[.int .i64 x1, .int .i64 y1, .int .i64 x2, .int .i64 y2] t)).cell? ⟨w1.heap.size, 3, none⟩ = some (.int .i64 y2)
    ∧ Below w.heap.size w (w1.alloc (.cells #[.int .i64 x1, .int .i64 y1, .int .i64 x2, .int .i64 y2] t))
    ∧ w1.heap.size < (w1.alloc (.cells #[.int .i64 x1, .int .i64 y1, .int .i64 x2, .int .i64 y2] t)).heap.size
    ∧ w.heap.size ≤ w1.heap.size := by
  have hs := hb.size
  simp at hs
  exact ⟨by simp, by simp, by simp, by simp, (((Below.refl _ _).alloc (Nat.le_refl _) _).trans (hb.mono (by simp))).alloc (by omega) _, by simp, by omega⟩

theorem Below.call {B : Nat} {a w w1 : World} (h : Below B a w) (g : Below w.heap.size w w1) (hB : B ≤ w.heap.size) : Below B a w1 := h.trans (g.mono hB)

theorem held4_drew {w w' : World} {c : Nat} {v0 v1 v2 v3 : Value} (c0 : w'.cell? ⟨c, 0, none⟩ = some v0) (c1 : w'.cell? ⟨c, 1, none⟩ = some v1) (c2 : w'.cell? ⟨c, 2, none⟩ = some v2) (c3 : w'.cell? ⟨c, 3, none⟩ = some v3) (hl : c < w'.heap.size) (hB : Below w.heap.size w w') :
    w'.drew.cell? ⟨c, 0, none⟩ = some v0 ∧ w'.drew.cell? ⟨c, 1, none⟩ = some v1 ∧ w'.drew.cell? ⟨c, 2, none⟩ = some v2 ∧ w'.drew.cell? ⟨c, 3, none⟩ = some v3 ∧ c < w'.drew.heap.size ∧ Below w.heap.size w w'.drew :=
  ⟨c0, c1, c2, c3, hl, ⟨hB.os, hB.tape, hB.output, hB.size, hB.block⟩⟩

theorem held4_call {w w' w2 : World} {c : Nat} {v0 v1 v2 v3 : Value} (g : Below w'.heap.size w' w2) (c0 : w'.cell? ⟨c, 0, none⟩ = some v0) (c1 : w'.cell? ⟨c, 1, none⟩ = some v1) (c2 : w'.cell? ⟨c, 2, none⟩ = some v2) (c3 : w'.cell? ⟨c, 3, none⟩ = some v3) (hl : c < w'.heap.size) (hB : Below w.heap.size w w') :
    w2.cell? ⟨c, 0, none⟩ = some v0 ∧ w2.cell? ⟨c, 1, none⟩ = some v1 ∧ w2.cell? ⟨c, 2, none⟩ = some v2 ∧ w2.cell? ⟨c, 3, none⟩ = some v3 ∧ c < w2.heap.size ∧ Below w.heap.size w w2 :=
  ⟨(g.cell (p := ⟨c, 0, none⟩) hl).trans c0, (g.cell (p := ⟨c, 1, none⟩) hl).trans c1, (g.cell (p := ⟨c, 2, none⟩) hl).trans c2, (g.cell (p := ⟨c, 3, none⟩) hl).trans c3, Nat.lt_of_lt_of_le hl g.size, hB.trans (g.mono hB.size)⟩

end Go.Proofs.YtmcjfjchpclamaaDoor.B2

namespace Go.Proofs.YtmcjfjchpclamaaDoor.B2
open Go.Proofs.YtmcjfjchpclamaaDoor.P1 Go.Proofs.YtmcjfjchpclamaaDoor.B1 Go.Proofs.YtmcjfjchpclamaaDoor.P2
open Go.ChangeShapes Go.WideShapes Go.ChangeAt Go.RowKit
set_option linter.unusedVariables false

theorem Below.box {w w1 : World} {o : Obj} (hb : Below (w.alloc o).heap.size (w.alloc o) w1) : Below w.heap.size w w1 :=
  ((Below.refl _ _).alloc (Nat.le_refl _) _).trans (hb.mono (by simp))

end Go.Proofs.YtmcjfjchpclamaaDoor.B2

namespace Go.Proofs.YtmcjfjchpclamaaDoor.T1
open Go.Lib

theorem dec_small {m : Nat} (h : m < 10) : decDigits m = [UInt8.ofNat (48 + m)] := by rw [decDigits, dif_pos h]
theorem dec_big {m : Nat} (h : ¬ m < 10) : decDigits m = decDigits (m / 10) ++ [UInt8.ofNat (48 + m % 10)] := by rw [decDigits, dif_neg h]

theorem dec_ne (m : Nat) : decDigits m ≠ [] := by
  by_cases h : m < 10
  · rw [dec_small h]; simp
  · rw [dec_big h]; simp

/-- What a numeral will be when its last digits t are there and m is still to come. -/
def shown (m : Nat) (t : List UInt8) : List UInt8 := if m = 0 ∧ t ≠ [] then t else decDigits m ++ t

theorem shown_start (m : Nat) : shown m [] = decDigits m := by simp [shown]
theorem shown_done {t : List UInt8} (h : t ≠ []) : shown 0 t = t := if_pos ⟨rfl, h⟩
theorem shown_step {m : Nat} {t : List UInt8} (h : m ≠ 0 ∨ t = []) : shown (m / 10) (UInt8.ofNat (48 + m % 10) :: t) = shown m t := by
  rw [show shown m t = decDigits m ++ t from if_neg (by rcases h with h | h <;> simp [h])]
  unfold shown
  by_cases hm : m < 10
  · rw [if_pos ⟨by omega, by simp⟩, dec_small hm, Nat.mod_eq_of_lt hm]; rfl
  · rw [if_neg (by omega), dec_big hm]; simp

theorem dec_length (m : Nat) (k : Nat) (h : m < 10 ^ (k + 1)) : (decDigits m).length ≤ k + 1 := by
  induction k generalizing m with
  | zero => rw [dec_small (by simpa using h)]; simp
  | succ k ih =>
    by_cases hm : m < 10
    · rw [dec_small hm]; simp
    · rw [dec_big hm]
      have := ih (m / 10) (by rw [Nat.pow_succ] at h; omega)
      simp; omega

/-- The letter of a digit. -/
theorem digit_ofNat {d : Nat} (h : d < 10) : (UInt8.ofNat (48 + d)).toNat = 48 + d := by simp; omega

/-- What is read behind the sign. -/
def numBody (neg : Bool) (r : List UInt8) : Option Int :=
  if r.length < 1 ∨ 9 < r.length then none else
  match decFrom 0 r with
  | none => none
  | some n => if r.head? = some 48 ∧ (neg = true ∨ 1 < r.length) then none else some (if neg = true then -(n : Int) else n)

/-- A number as the document writes them: digits, at most nine, without noughts ahead; a sign below 0. -/
def readNum (l : List UInt8) : Option Int := if l.head? = some 45 then numBody true l.tail else numBody false l

def numVal (l : List UInt8) : Int := (readNum l).getD 0
def isNum (l : List UInt8) : Bool := (readNum l).isSome

theorem body_short {neg : Bool} {r : List UInt8} (h : r.length < 1 ∨ 9 < r.length) : numBody neg r = none := if_pos h
theorem body_bad {neg : Bool} {r : List UInt8} (h : decFrom 0 r = none) : numBody neg r = none := by
  unfold numBody; split
  · rfl
  · rw [h]
theorem body_nought {neg : Bool} {r : List UInt8} (h : r.head? = some 48 ∧ (neg = true ∨ 1 < r.length)) : numBody neg r = none := by
  unfold numBody; split
  · rfl
  · cases decFrom 0 r with
    | none => rfl
    | some n => rfl
theorem body_good {neg : Bool} {r : List UInt8} {n : Nat} (h1 : ¬ (r.length < 1 ∨ 9 < r.length)) (h2 : decFrom 0 r = some n) (h3 : ¬ (r.head? = some 48 ∧ (neg = true ∨ 1 < r.length))) : numBody neg r = some (if neg = true then -(n : Int) else n) := by
  unfold numBody; rw [if_neg h1, h2]; exact if_neg h3

theorem read_neg (r : List UInt8) : readNum (45 :: r) = numBody true r := rfl
theorem read_pos {l : List UInt8} (h : l.head? ≠ some 45) : readNum l = numBody false l := if_neg h

theorem num_none {l : List UInt8} (h : readNum l = none) : numVal l = 0 ∧ isNum l = false := by simp [numVal, isNum, h]
theorem num_some {l : List UInt8} {n : Int} (h : readNum l = some n) : numVal l = n ∧ isNum l = true := by simp [numVal, isNum, h]

theorem digit_yes {b : UInt8} (h0 : 48 ≤ b.toNat) (h1 : b.toNat ≤ 57) : digitVal b = some (b.toNat - 48) := if_pos ⟨h0, h1⟩
theorem digit_no {b : UInt8} (h : b.toNat < 48 ∨ 57 < b.toNat) : digitVal b = none := if_neg (by omega)

theorem dec_bad {r : List UInt8} {k : Nat} {b : UInt8} (h : r[k]? = some b) (hb : b.toNat < 48 ∨ 57 < b.toNat) : decFrom 0 r = none := by
  cases e : decFrom 0 r with
  | none => rfl
  | some n =>
    obtain ⟨d, hd⟩ := digit_of_decFrom r 0 n e k b h
    rw [digit_no hb] at hd; cases hd

theorem dec_step {r : List UInt8} {k n : Nat} {b : UInt8} (h : decFrom 0 (r.take k) = some n) (hb : r[k]? = some b) (h0 : 48 ≤ b.toNat) (h1 : b.toNat ≤ 57) : decFrom 0 (r.take (k + 1)) = some (n * 10 + (b.toNat - 48)) :=
  decFrom_take r k 0 n b _ h hb (digit_yes h0 h1)

theorem eq_of_nat {b : UInt8} {n : Nat} (hn : n < 256) (h : b.toNat = n) : b = UInt8.ofNat n := by
  rw [← UInt8.toNat_inj, h]; simp; omega

theorem head_is {l : List UInt8} {c : Nat} (h : (l[0]?).map UInt8.toNat = some c) (n : Nat) (hn : n < 256) : l.head? = some (UInt8.ofNat n) ↔ c = n := by
  cases l with
  | nil => cases h
  | cons b r =>
    have hb : b.toNat = c := by simpa using h
    constructor
    · intro e
      have e' : b = UInt8.ofNat n := by simpa using e
      rw [← hb, e']; simp; omega
    · intro e
      simp [eq_of_nat hn (hb.trans e)]

theorem read_neg' {l : List UInt8} (h : (l[0]?).map UInt8.toNat = some 45) : readNum l = numBody true l.tail := if_pos ((head_is h 45 (by decide)).2 rfl)
theorem read_pos' {l : List UInt8} {c : Nat} (h : (l[0]?).map UInt8.toNat = some c) (hc : c ≠ 45) : readNum l = numBody false l := if_neg fun e => hc ((head_is h 45 (by decide)).1 e)

theorem body_end_bad {neg : Bool} {r : List UInt8} {d : Nat} (h3 : (r[0]?).map UInt8.toNat = some d) (hd : d = 48) (h : neg = true ∨ 1 < r.length) : numBody neg r = none :=
  body_nought ⟨(head_is h3 48 (by decide)).2 hd, h⟩
theorem body_end_good {neg : Bool} {r : List UInt8} {n d : Nat} (h1 : 1 ≤ r.length) (h1' : r.length ≤ 9) (h2 : decFrom 0 (r.take r.length) = some n) (h3 : (r[0]?).map UInt8.toNat = some d) (h : ¬ (d = 48 ∧ (neg = true ∨ 1 < r.length))) :
    numBody neg r = some (if neg = true then -(n : Int) else n) := by
  rw [List.take_length] at h2
  exact body_good (by omega) h2 fun e => h ⟨(head_is h3 48 (by decide)).1 e.1, e.2⟩

theorem dec_badN {r : List UInt8} {k c : Nat} (h : (r[k]?).map UInt8.toNat = some c) (hb : c < 48 ∨ 57 < c) : decFrom 0 r = none := by
  obtain ⟨b, h', rfl⟩ := Option.map_eq_some_iff.1 h
  exact dec_bad h' hb
theorem dec_stepN {r : List UInt8} {k n c : Nat} (h : decFrom 0 (r.take k) = some n) (hb : (r[k]?).map UInt8.toNat = some c) (h0 : 48 ≤ c) (h1 : c ≤ 57) : decFrom 0 (r.take (k + 1)) = some (n * 10 + (c - 48)) := by
  obtain ⟨b, hb', rfl⟩ := Option.map_eq_some_iff.1 hb
  exact dec_step h hb' h0 h1

/-- What the reading of digits knows behind k of them. -/
def DecTo (r : List UInt8) (k n : Nat) : Prop := decFrom 0 (r.take k) = some n ∧ n < 10 ^ k

theorem DecTo.start (r : List UInt8) : DecTo r 0 0 := ⟨by simp [decFrom], by decide⟩
theorem DecTo.step {r : List UInt8} {k n c : Nat} (h : DecTo r k n) (hb : (r[k]?).map UInt8.toNat = some c) (h0 : 48 ≤ c) (h1 : c ≤ 57) : DecTo r (k + 1) (n * 10 + (c - 48)) := by
  refine ⟨dec_stepN h.1 hb h0 h1, ?_⟩
  have := h.2
  rw [Nat.pow_succ]
  omega
theorem DecTo.small {r : List UInt8} {k n : Nat} (h : DecTo r k n) (hk : k ≤ 9) : n ≤ 999999999 := by
  have := Nat.lt_of_lt_of_le h.2 (Nat.pow_le_pow_right (by decide) hk)
  omega

/-- A text cut at each byte b. -/
def splitBy (b : UInt8) : List UInt8 → List (List UInt8)
  | [] => [[]]
  | x :: r => if x = b then [] :: splitBy b r else match splitBy b r with
    | [] => [[x]]
    | h :: t => (x :: h) :: t

theorem splitBy_ne (b : UInt8) (l : List UInt8) : splitBy b l ≠ [] := by
  cases l with
  | nil => simp [splitBy]
  | cons x r =>
    rw [splitBy]
    split
    · simp
    · split <;> simp

/-- Bytes ahead of the first piece. -/
def headed (p : List UInt8) : List (List UInt8) → List (List UInt8)
  | [] => [p]
  | h :: t => (p ++ h) :: t

theorem headed_nil {ls : List (List UInt8)} (h : ls ≠ []) : headed [] ls = ls := by
  cases ls with
  | nil => exact absurd rfl h
  | cons h t => rfl

theorem split_hit {b x : UInt8} {p r : List UInt8} (h : x = b) : headed p (splitBy b (x :: r)) = p :: splitBy b r := by
  rw [splitBy, if_pos h]; simp [headed]

theorem split_miss {b x : UInt8} {p r : List UInt8} (h : x ≠ b) : headed p (splitBy b (x :: r)) = headed (p ++ [x]) (splitBy b r) := by
  rw [splitBy, if_neg h]
  cases hs : splitBy b r with
  | nil => exact absurd hs (splitBy_ne b r)
  | cons h t => simp [headed]

theorem splitBy_length (b : UInt8) (l : List UInt8) : (splitBy b l).length ≤ l.length + 1 := by
  induction l with
  | nil => simp [splitBy]
  | cons x r ih =>
    rw [splitBy]
    split
    · simpa using ih
    · cases hs : splitBy b r with
      | nil => simp
      | cons h t => rw [hs] at ih; simp at ih ⊢; omega

/-- The place of s in a list, -1 where it is not there. -/
def placeOf : List (List UInt8) → List UInt8 → Int
  | [], _ => -1
  | a :: r, s => if a = s then 0 else if placeOf r s < 0 then -1 else placeOf r s + 1

theorem placeOf_range (ls : List (List UInt8)) (s : List UInt8) : placeOf ls s = -1 ∨ (0 ≤ placeOf ls s ∧ placeOf ls s < ls.length) := by
  induction ls with
  | nil => left; rfl
  | cons a r ih =>
    rw [placeOf]
    split
    · right; simp
    · split
      · left; rfl
      · right; simp; omega

theorem placeOf_at {ls : List (List UInt8)} {s : List UInt8} {i : Nat} (h : ls[i]? = some s) (hb : ∀ j, j < i → ls[j]? ≠ some s) : placeOf ls s = i := by
  induction ls generalizing i with
  | nil => cases h
  | cons a r ih =>
    cases i with
    | zero =>
      rw [placeOf, if_pos (by simpa using h)]; rfl
    | succ i =>
      have h0 : a ≠ s := fun e => hb 0 (by omega) (by simp [e])
      have := ih (i := i) (by simpa using h) (fun j hj => by have := hb (j + 1) (by omega); simpa using this)
      rw [placeOf, if_neg h0, this, if_neg (by omega)]; omega

theorem placeOf_none {ls : List (List UInt8)} {s : List UInt8} (hb : ∀ j, j < ls.length → ls[j]? ≠ some s) : placeOf ls s = -1 := by
  induction ls with
  | nil => rfl
  | cons a r ih =>
    have h0 : a ≠ s := fun e => hb 0 (by simp) (by simp [e])
    have := ih (fun j hj => by have := hb (j + 1) (by simpa using hj); simpa using this)
    rw [placeOf, if_neg h0, this, if_pos (by omega)]

end Go.Proofs.YtmcjfjchpclamaaDoor.T1

namespace Go.Proofs.YtmcjfjchpclamaaDoor.T1
open Go.Lib

theorem decFrom_snoc (l : List UInt8) (b : UInt8) : ∀ acc, decFrom acc (l ++ [b]) = (decFrom acc l).bind fun n => (digitVal b).map fun d => n * 10 + d := by
  induction l with
  | nil => intro acc; simp only [List.nil_append, decFrom]; cases digitVal b <;> rfl
  | cons x r ih =>
    intro acc
    simp only [List.cons_append, decFrom]
    cases digitVal x with
    | none => rfl
    | some d => exact ih _

theorem digit_of {d : Nat} (h : d < 10) : digitVal (UInt8.ofNat (48 + d)) = some d := by
  rw [digit_yes (by rw [digit_ofNat h]; omega) (by rw [digit_ofNat h]; omega), digit_ofNat h]
  congr 1; omega

theorem dec_reads (m : Nat) : decFrom 0 (decDigits m) = some m := by
  induction m using Nat.strongRecOn with
  | _ m ih =>
    by_cases h : m < 10
    · rw [dec_small h]
      show decFrom 0 ([] ++ [UInt8.ofNat (48 + m)]) = some m
      rw [decFrom_snoc, digit_of h]; simp [decFrom]
    · rw [dec_big h, decFrom_snoc, ih (m / 10) (by omega), digit_of (by omega)]
      simp; omega

theorem dec_head {m : Nat} (h : (decDigits m).head? = some 48) : m = 0 := by
  induction m using Nat.strongRecOn with
  | _ m ih =>
    by_cases hm : m < 10
    · rw [dec_small hm] at h
      have : UInt8.ofNat (48 + m) = 48 := by simpa using h
      have := congrArg UInt8.toNat this
      rw [digit_ofNat hm] at this
      simp at this; omega
    · rw [dec_big hm] at h
      have hne := dec_ne (m / 10)
      have h' : (decDigits (m / 10)).head? = some 48 := by
        cases e : decDigits (m / 10) with
        | nil => exact absurd e hne
        | cons x r => rw [e] at h; simpa using h
      have := ih (m / 10) (by omega) h'
      omega

theorem dec_first (m : Nat) : (decDigits m).head? ≠ some 45 := by
  induction m using Nat.strongRecOn with
  | _ m ih =>
    by_cases hm : m < 10
    · rw [dec_small hm]
      intro h
      have : UInt8.ofNat (48 + m) = 45 := by simpa using h
      have := congrArg UInt8.toNat this
      rw [digit_ofNat hm] at this
      simp at this; omega
    · rw [dec_big hm]
      intro h
      have hne := dec_ne (m / 10)
      refine ih (m / 10) (by omega) ?_
      cases e : decDigits (m / 10) with
      | nil => exact absurd e hne
      | cons x r => rw [e] at h; simpa using h

theorem dec_pos (m : Nat) : 1 ≤ (decDigits m).length := by
  cases e : decDigits m with
  | nil => exact absurd e (dec_ne m)
  | cons x r => simp

theorem dec_nine {m : Nat} (h : m ≤ 999999999) : (decDigits m).length ≤ 9 := dec_length m 8 (by omega)

theorem read_itoa {n : Int} (h0 : -999999999 ≤ n) (h1 : n ≤ 999999999) : readNum (itoa n) = some n := by
  unfold itoa
  split
  · rw [read_neg, body_good (n := n.natAbs) (by have := dec_pos n.natAbs; have := dec_nine (m := n.natAbs) (by omega); omega) (dec_reads _) (fun e => by have := dec_head e.1; omega)]
    simp; omega
  · rw [read_pos (dec_first _), body_good (n := n.toNat) (by have := dec_pos n.toNat; have := dec_nine (m := n.toNat) (by omega); omega) (dec_reads _) (fun e => by
      rcases e.2 with e2 | e2
      · cases e2
      · have := dec_head e.1
        rw [this] at e2
        rw [dec_small (by decide)] at e2; simp at e2)]
    simp; omega

theorem dec_back {r : List UInt8} {m : Nat} (hr : decFrom 0 r = some m) (hne : r ≠ []) (hz : ¬ (r.head? = some 48 ∧ 1 < r.length)) : r = decDigits m := by
  generalize hl : r.length = k
  induction k using Nat.strongRecOn generalizing r m with
  | _ k ih =>
    have hsp := List.dropLast_concat_getLast hne
    rw [← hsp, decFrom_snoc] at hr
    cases hd : digitVal (r.getLast hne) with
    | none =>
      rw [hd] at hr
      cases e : decFrom 0 r.dropLast <;> rw [e] at hr <;> cases hr
    | some d =>
      have hdl : d < 10 ∧ (r.getLast hne).toNat = 48 + d := by
        unfold digitVal at hd
        split at hd
        · cases hd; omega
        · cases hd
      have hb : r.getLast hne = UInt8.ofNat (48 + d) := by
        rw [← UInt8.toNat_inj, digit_ofNat hdl.1]; exact hdl.2
      rw [hd] at hr
      cases e : decFrom 0 r.dropLast with
      | none => rw [e] at hr; cases hr
      | some m' =>
        rw [e] at hr
        have hm : m' * 10 + d = m := by simpa using hr
        by_cases hnil : r.dropLast = []
        · rw [hnil] at e hsp
          have : m' = 0 := by simpa [decFrom] using e.symm
          rw [← hsp, hb, show m = d by omega, dec_small hdl.1]; rfl
        · have hlen : 1 < r.length := by
            have := List.length_dropLast (xs := r)
            have : 0 < r.dropLast.length := List.length_pos_iff.2 hnil
            omega
          have hh : r.dropLast.head? = r.head? := by
            cases hd2 : r.dropLast with
            | nil => exact absurd hd2 hnil
            | cons x t => rw [← hsp, hd2]; rfl
          have h48 : r.dropLast.head? ≠ some 48 := fun h => hz ⟨hh ▸ h, hlen⟩
          have := ih r.dropLast.length (by rw [List.length_dropLast]; omega) e hnil (fun h => h48 h.1) rfl
          have hm0 : m' ≠ 0 := fun h => h48 (by rw [this, h, dec_small (by decide)]; rfl)
          rw [dec_big (show ¬ m < 10 by omega), show m / 10 = m' by omega, show m % 10 = d by omega, ← this, ← hb]
          exact hsp.symm

theorem dec_lt' (r : List UInt8) : ∀ acc m, decFrom acc r = some m → m < (acc + 1) * 10 ^ r.length := by
  induction r with
  | nil => intro acc m h; simp [decFrom] at h; simp; omega
  | cons x t ih =>
    intro acc m h
    simp only [decFrom] at h
    cases hd : digitVal x with
    | none => rw [hd] at h; cases h
    | some d =>
      rw [hd] at h
      have hd10 : d < 10 := by
        unfold digitVal at hd
        split at hd
        · cases hd; omega
        · cases hd
      have := ih _ _ h
      have h2 : (acc * 10 + d + 1) * 10 ^ t.length ≤ (acc * 10 + 10) * 10 ^ t.length := Nat.mul_le_mul_right _ (by omega)
      rw [List.length_cons, Nat.pow_succ]
      have h3 : (acc + 1) * (10 ^ t.length * 10) = (acc * 10 + 10) * 10 ^ t.length := by
        rw [Nat.mul_comm (10 ^ t.length) 10, ← Nat.mul_assoc]; congr 1; omega
      omega

theorem dec_lt {r : List UInt8} {m : Nat} (h : decFrom 0 r = some m) : m < 10 ^ r.length := by
  have := dec_lt' r 0 m h
  simpa using this

theorem body_back {neg : Bool} {r : List UInt8} {n : Int} (h : numBody neg r = some n) : ∃ m : Nat, r = decDigits m ∧ m ≤ 999999999 ∧ n = (if neg = true then -(m : Int) else m) ∧ (neg = true → m ≠ 0) := by
  unfold numBody at h
  split at h
  · cases h
  · next hl =>
    cases e : decFrom 0 r with
    | none => rw [e] at h; cases h
    | some m =>
      rw [e] at h
      simp only at h
      split at h
      · cases h
      · next hz =>
        have hr := dec_back e (fun h => by simp [h] at hl) (fun h => hz ⟨h.1, Or.inr h.2⟩)
        refine ⟨m, hr, ?_, by simpa using h.symm, fun hn h0 => hz ⟨?_, Or.inl hn⟩⟩
        · have hlt := (show DecTo r r.length m from ⟨by rw [List.take_length]; exact e, by
            exact dec_lt e⟩).small (by omega)
          exact hlt
        · rw [hr, h0, dec_small (by decide)]; rfl

/-- Nothing but a numeral is read. -/
theorem read_back {l : List UInt8} {n : Int} (h : readNum l = some n) : l = itoa n ∧ -999999999 ≤ n ∧ n ≤ 999999999 := by
  unfold readNum at h
  split at h
  · next h45 =>
    obtain ⟨m, hr, hm, hn, h0⟩ := body_back h
    have hm0 := h0 rfl
    have hn' : n = -(m : Int) := by simpa using hn
    refine ⟨?_, by omega, by omega⟩
    cases l with
    | nil => cases h45
    | cons x t =>
      obtain rfl : x = 45 := by simpa using h45
      have : t = decDigits m := hr
      rw [itoa, if_pos (by omega), this, hn']
      congr 2; omega
  · obtain ⟨m, hr, hm, hn, _⟩ := body_back h
    have hn' : n = (m : Int) := by simpa using hn
    refine ⟨?_, by omega, by omega⟩
    rw [itoa, if_neg (by omega), hr, hn']
    congr 1

/-- Pieces with b between. -/
def joinBy (b : UInt8) : List (List UInt8) → List UInt8
  | [] => []
  | [p] => p
  | p :: q :: r => p ++ b :: joinBy b (q :: r)

theorem join_split (b : UInt8) (l : List UInt8) : joinBy b (splitBy b l) = l := by
  induction l with
  | nil => rfl
  | cons x r ih =>
    rw [splitBy]
    split
    · next hx =>
      subst hx
      cases e : splitBy x r with
      | nil => exact absurd e (splitBy_ne x r)
      | cons p t => rw [e] at ih; simp [joinBy, ih]
    · cases e : splitBy b r with
      | nil => exact absurd e (splitBy_ne b r)
      | cons p t =>
        rw [e] at ih
        cases t with
        | nil => simp [joinBy] at ih ⊢; exact ih
        | cons q t => simp [joinBy] at ih ⊢; exact ih

/-- A piece without b, then b. -/
theorem split_piece {b : UInt8} {p : List UInt8} (hp : b ∉ p) (r : List UInt8) : splitBy b (p ++ b :: r) = p :: splitBy b r := by
  induction p with
  | nil => simp [splitBy]
  | cons x t ih =>
    rw [List.cons_append, splitBy, if_neg (fun e => hp (by simp [e])), ih (fun h => hp (by simp [h]))]

theorem split_last {b : UInt8} {p : List UInt8} (hp : b ∉ p) : splitBy b p = [p] := by
  induction p with
  | nil => rfl
  | cons x t ih =>
    rw [splitBy, if_neg (fun e => hp (by simp [e])), ih (fun h => hp (by simp [h]))]

theorem dec_digits (m : Nat) : ∀ b ∈ decDigits m, 48 ≤ b.toNat ∧ b.toNat ≤ 57 := by
  induction m using Nat.strongRecOn with
  | _ m ih =>
    intro b hb
    by_cases h : m < 10
    · rw [dec_small h] at hb
      have : b = UInt8.ofNat (48 + m) := by simpa using hb
      rw [this, digit_ofNat h]; omega
    · rw [dec_big h] at hb
      rcases List.mem_append.1 hb with hb | hb
      · exact ih _ (by omega) b hb
      · have : b = UInt8.ofNat (48 + m % 10) := by simpa using hb
        rw [this, digit_ofNat (by omega)]; omega

/-- A numeral has no byte but digits and the sign. -/
theorem itoa_bytes (n : Int) : ∀ b ∈ itoa n, b = 45 ∨ (48 ≤ b.toNat ∧ b.toNat ≤ 57) := by
  intro b hb
  unfold itoa at hb
  split at hb
  · rcases List.mem_cons.1 hb with h | h
    · exact Or.inl h
    · exact Or.inr (dec_digits _ b h)
  · exact Or.inr (dec_digits _ b hb)

theorem itoa_no_blank (n : Int) : (32 : UInt8) ∉ itoa n := by
  intro h
  rcases itoa_bytes n 32 h with h | h
  · cases h
  · simp at h

end Go.Proofs.YtmcjfjchpclamaaDoor.T1
