/- A drawing function's own memory: the frame of a draw ('Fr'), its local blocks ('LBlk'). -/
import Derived.Test.YtmcjfjchpclamaaDraw1
import Derived.OpenShut
import Derived.ChangeOld
import Derived.Deep.DeepCutAuto
import Derived.Deep.RegionHeld3
namespace Go.Proofs.Ytmcjfjchpclamaa.D1
open Go.Proofs.Ytmcjfjchpclamaa.P1 Go.Proofs.Ytmcjfjchpclamaa.B1
open Go.ChangeShapes Go.WideShapes Go.ChangeAt Go.RowKit
set_option linter.unusedVariables false

theorem Only.frozen {c : Nat} {w w' : World} (h : Only c w w') {p : Addr} (hp : p.block ≠ c) (hs : p.block < w.heap.size) : w'.frozen? p = w.frozen? p := by
  have := h.block p.block hp hs
  unfold World.frozen?
  rw [this]

theorem Bytes.only {w w' : World} {c : Nat} {a : Option Addr} {len : Nat} (h : Bytes w c a len) (ho : Only c w w') : Bytes w' c a len := by
  refine ⟨h.1, fun i hi => ?_⟩
  obtain ⟨b, off, n, ha, hb, hne, hc, h0, h1⟩ := h.2 i hi
  exact ⟨b, off, n, ha, Nat.lt_of_lt_of_le hb ho.size, hne, (ho.cell hne hb).trans hc, h0, h1⟩

/-- The frame of a draw: begun in w, the world is now w'; the cursor's block is c; of what was there only that block has turned. -/
structure Fr (c : Nat) (a : Option Addr) (len cap : Nat) (w w' : World) : Prop where
  cur : Cur w' c a len cap
  only : Only c w w'
  bytes : Bytes w c a len

theorem Fr.refl {c : Nat} {a : Option Addr} {len cap : Nat} {w : World} (h : Cur w c a len cap) : Fr c a len cap w w := ⟨h, Only.refl _ _, h.bytes⟩
theorem Fr.call {c : Nat} {a : Option Addr} {len cap : Nat} {w w' w2 : World} (h : Fr c a len cap w w') (hc : Cur w2 c a len cap) (ho : Only c w' w2) : Fr c a len cap w w2 := ⟨hc, h.only.trans ho, h.bytes⟩
theorem Fr.alloc {c : Nat} {a : Option Addr} {len cap : Nat} {w w' : World} (h : Fr c a len cap w w') (o : Obj) : Fr c a len cap w (w'.alloc o) := ⟨h.cur.alloc o, h.only.trans (only_new w' o c), h.bytes⟩
theorem Fr.drew {c : Nat} {a : Option Addr} {len cap : Nat} {w w' : World} (h : Fr c a len cap w w') : Fr c a len cap w w'.drew := ⟨h.cur.drew, h.only.drew, h.bytes⟩
theorem Fr.drewN {c : Nat} {a : Option Addr} {len cap : Nat} {w w' : World} (h : Fr c a len cap w w') (n : Nat) : Fr c a len cap w (w'.drewN n) := ⟨h.cur.drewN n, h.only.drewN n, h.bytes⟩

theorem Fr.set {c : Nat} {a : Option Addr} {len cap : Nat} {w w' : World} (h : Fr c a len cap w w') {b : Nat} (hb : w.heap.size ≤ b) (hbc : b ≠ c) (o : Nat) (v : Value) : Fr c a len cap w (w'.setCell ⟨b, o, none⟩ v) := by
  have ho : Only c w (w'.setCell ⟨b, o, none⟩ v) :=
    ⟨h.only.os, h.only.tape, h.only.output, by simpa [World.setCell] using h.only.size, fun k hk hs => by
      rw [Below.heap_setCell _ _ _ _ (by show k ≠ b; omega)]; exact h.only.block k hk hs⟩
  obtain ⟨hl, c0, ⟨i, hi, c1⟩, ⟨hh, c2⟩, f1, f2, hbt⟩ := h.cur
  refine ⟨⟨by simpa [World.setCell] using hl, ?_, ⟨i, hi, ?_⟩, ⟨hh, ?_⟩, by simpa using f1, by simpa using f2, h.bytes.only ho⟩, ho, h.bytes⟩
  · rw [World.cell?_setCell_other _ _ _ _ (by simp [*])]; exact c0
  · rw [World.cell?_setCell_other _ _ _ _ (by simp [*])]; exact c1
  · rw [World.cell?_setCell_other _ _ _ _ (by simp [*])]; exact c2

/-- A local block b holds these values, each may be read and written. -/
def LBlk (w : World) (b : Nat) (vs : List Value) : Prop := b < w.heap.size ∧ ∀ i v, vs[i]? = some v → w.cell? ⟨b, i, none⟩ = some v ∧ w.frozen? ⟨b, i, none⟩ = false

theorem LBlk.only {w w' : World} {b c : Nat} {vs : List Value} (h : LBlk w b vs) (ho : Only c w w') (hb : b ≠ c) : LBlk w' b vs :=
  ⟨Nat.lt_of_lt_of_le h.1 ho.size, fun i v hv => ⟨(ho.cell hb h.1).trans (h.2 i v hv).1, (Only.frozen ho hb h.1).trans (h.2 i v hv).2⟩⟩

theorem LBlk.below {w w' : World} {b : Nat} {vs : List Value} (h : LBlk w b vs) (hb : Below w.heap.size w w') : LBlk w' b vs :=
  ⟨Nat.lt_of_lt_of_le h.1 hb.size, fun i v hv => ⟨(hb.cell (p := ⟨b, i, none⟩) h.1).trans (h.2 i v hv).1, (hb.frozen (p := ⟨b, i, none⟩) h.1).trans (h.2 i v hv).2⟩⟩

theorem LBlk.alloc {w : World} {b : Nat} {vs : List Value} (h : LBlk w b vs) (o : Obj) : LBlk (w.alloc o) b vs := h.only (only_new w o (b + 1)) (by omega)
theorem LBlk.drew {w : World} {b : Nat} {vs : List Value} (h : LBlk w b vs) : LBlk w.drew b vs := h
theorem LBlk.drewN {w : World} {b : Nat} {vs : List Value} (h : LBlk w b vs) (n : Nat) : LBlk (w.drewN n) b vs := h

theorem LBlk.new (w : World) (vs : List Value) (t : TypeId) : LBlk (w.alloc (.cells vs.toArray t)) w.heap.size vs := by
  refine ⟨by simp, fun i v hv => ⟨?_, by simp⟩⟩
  rw [World.cell?_alloc_new]
  simpa using hv

theorem LBlk.set {w : World} {b : Nat} {vs : List Value} (h : LBlk w b vs) (o : Nat) (v : Value) (ho : o < vs.length) : LBlk (w.setCell ⟨b, o, none⟩ v) b (vs.set o v) := by
  refine ⟨by simpa [World.setCell] using h.1, fun i u hu => ?_⟩
  by_cases e : i = o
  · subst e
    rw [List.getElem?_set_self ho] at hu
    cases hu
    obtain ⟨c, f⟩ := h.2 i _ (List.getElem?_eq_getElem ho)
    exact ⟨World.cell?_setCell_same _ _ _ c, by simpa using f⟩
  · rw [List.getElem?_set_ne (Ne.symm e)] at hu
    obtain ⟨c, f⟩ := h.2 i u hu
    exact ⟨by rw [World.cell?_setCell_other _ _ _ _ (by simp [*])]; exact c, by simpa using f⟩

theorem LBlk.set_other {w : World} {b : Nat} {vs : List Value} (h : LBlk w b vs) {b' : Nat} (hb : b ≠ b') (o : Nat) (v : Value) : LBlk (w.setCell ⟨b', o, none⟩ v) b vs :=
  ⟨by simpa [World.setCell] using h.1, fun i u hu => ⟨by rw [World.cell?_setCell_other _ _ _ _ (by simp [*])]; exact (h.2 i u hu).1, by simpa using (h.2 i u hu).2⟩⟩

end Go.Proofs.Ytmcjfjchpclamaa.D1
