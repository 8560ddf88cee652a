/- Contracts of chapter 4's functions (ease): the reference's ReadEase. -/
import Derived.Test.YtmaagcmbofedhaaBase4b
import Derived.Test.YtmaagcmbofedhaaBaseTr
import Derived.Test.YtmaagcmbofedhaaLoc
namespace Go.Proofs.Ytmaagcmbofedhaa.B4
open Go.Proofs.Ytmaagcmbofedhaa.P1 Go.Proofs.Ytmaagcmbofedhaa.B1 Go.Proofs.Ytmaagcmbofedhaa.P2 Go.Proofs.Ytmaagcmbofedhaa.B2 Go.Proofs.Ytmaagcmbofedhaa.P3 Go.Proofs.Ytmaagcmbofedhaa.B3 Go.Proofs.Ytmaagcmbofedhaa.T1 Go.Proofs.Ytmaagcmbofedhaa.BT Go.Proofs.Ytmaagcmbofedhaa.P4 Go.Proofs.Ytmaagcmbofedhaa.D1
open Go.ChangeShapes Go.WideShapes Go.ChangeAt Go.RowKit
set_option linter.unusedVariables false

/-- An ease's value. -/
def easeV (e : Es) : Value := .agg #[.int .i64 e.k, .int .i64 e.x1, .int .i64 e.y1, .int .i64 e.x2, .int .i64 e.y2, .int .i64 e.c, .int .i64 e.j]

/-- What ReadEase answers. -/
def ReadsEase (s : List UInt8) (w : World) (e : Ending) (w' : World) : Prop := e = .returned (.tuple #[easeV (easeOf s), .bool (isEase s)]) ∧ Below w.heap.size w w'

/-- The cells of a local block of seven numbers, one by one. -/
theorem seven_cells {w : World} {b : Nat} {v0 v1 v2 v3 v4 v5 v6 : Value} (h : LBlk w b [v0, v1, v2, v3, v4, v5, v6]) :
    w.cell? ⟨b, 0, none⟩ = some v0 ∧ w.cell? ⟨b, 1, none⟩ = some v1 ∧ w.cell? ⟨b, 2, none⟩ = some v2 ∧ w.cell? ⟨b, 3, none⟩ = some v3 ∧ w.cell? ⟨b, 4, none⟩ = some v4 ∧ w.cell? ⟨b, 5, none⟩ = some v5 ∧ w.cell? ⟨b, 6, none⟩ = some v6 ∧
    w.frozen? ⟨b, 0, none⟩ = false ∧ w.frozen? ⟨b, 1, none⟩ = false ∧ w.frozen? ⟨b, 2, none⟩ = false ∧ w.frozen? ⟨b, 3, none⟩ = false ∧ w.frozen? ⟨b, 4, none⟩ = false ∧ w.frozen? ⟨b, 5, none⟩ = false ∧ w.frozen? ⟨b, 6, none⟩ = false :=
  ⟨(h.2 0 _ rfl).1, (h.2 1 _ rfl).1, (h.2 2 _ rfl).1, (h.2 3 _ rfl).1, (h.2 4 _ rfl).1, (h.2 5 _ rfl).1, (h.2 6 _ rfl).1, (h.2 0 _ rfl).2, (h.2 1 _ rfl).2, (h.2 2 _ rfl).2, (h.2 3 _ rfl).2, (h.2 4 _ rfl).2, (h.2 5 _ rfl).2, (h.2 6 _ rfl).2⟩

/-- Seven cells of a block written one after the other. -/
def put7 (w : World) (b : Nat) (v0 v1 v2 v3 v4 v5 v6 : Value) : World := (((((((w.setCell ⟨b, 0, none⟩ v0).setCell ⟨b, 1, none⟩ v1).setCell ⟨b, 2, none⟩ v2).setCell ⟨b, 3, none⟩ v3).setCell ⟨b, 4, none⟩ v4).setCell ⟨b, 5, none⟩ v5).setCell ⟨b, 6, none⟩ v6)

theorem put7_blk {w : World} {b : Nat} {u0 u1 u2 u3 u4 u5 u6 : Value} (h : LBlk w b [u0, u1, u2, u3, u4, u5, u6]) (v0 v1 v2 v3 v4 v5 v6 : Value) : LBlk (put7 w b v0 v1 v2 v3 v4 v5 v6) b [v0, v1, v2, v3, v4, v5, v6] :=
  ((((((h.set 0 v0 (by simp)).set 1 v1 (by simp)).set 2 v2 (by simp)).set 3 v3 (by simp)).set 4 v4 (by simp)).set 5 v5 (by simp)).set 6 v6 (by simp)

theorem put7_other {w : World} {b c : Nat} {vs : List Value} (h : LBlk w c vs) (hc : c ≠ b) (v0 v1 v2 v3 v4 v5 v6 : Value) : LBlk (put7 w b v0 v1 v2 v3 v4 v5 v6) c vs :=
  ((((((h.set_other hc 0 v0).set_other hc 1 v1).set_other hc 2 v2).set_other hc 3 v3).set_other hc 4 v4).set_other hc 5 v5).set_other hc 6 v6

theorem put7_below {B : Nat} {a w : World} {b : Nat} (h : Below B a w) (hb : B ≤ b) (v0 v1 v2 v3 v4 v5 v6 : Value) : Below B a (put7 w b v0 v1 v2 v3 v4 v5 v6) :=
  ((((((h.setCell hb v0).setCell hb v1).setCell hb v2).setCell hb v3).setCell hb v4).setCell hb v5).setCell hb v6

theorem put7_cell {w : World} {b : Nat} {p : Addr} (hp : p.block ≠ b) (v0 v1 v2 v3 v4 v5 v6 : Value) : (put7 w b v0 v1 v2 v3 v4 v5 v6).cell? p = w.cell? p := by
  have h (w : World) (o : Nat) (v : Value) : (w.setCell ⟨b, o, none⟩ v).cell? p = w.cell? p := World.cell?_setCell_other _ _ _ _ (by intro e; exact hp (by rw [← e]))
  unfold put7
  rw [h, h, h, h, h, h, h]

theorem put7_size (w : World) (b : Nat) (v0 v1 v2 v3 v4 v5 v6 : Value) : (put7 w b v0 v1 v2 v3 v4 v5 v6).heap.size = w.heap.size := by
  simp [put7, World.setCell]

def easeCells (e : Es) : List Value := [.int .i64 e.k, .int .i64 e.x1, .int .i64 e.y1, .int .i64 e.x2, .int .i64 e.y2, .int .i64 e.c, .int .i64 e.j]

/-- The world between ReadEase's statements: the words, the answer's block rb, the ease's block eb that holds e. -/
structure InR (w : World) (ls : List (List UInt8)) (g rb eb : Nat) (e : Es) (w' : World) : Prop where
  words : ∀ k l, ls[k]? = some l → w'.cell? ⟨g, k, none⟩ = some (.string ⟨l.toArray⟩)
  ans : LBlk w' rb (easeCells Es.zero)
  ease : LBlk w' eb (easeCells e)
  below : Below w.heap.size w w'
  hr : w.heap.size ≤ rb
  he : w.heap.size ≤ eb
  ne : eb ≠ rb
  ge : g ≠ eb
  gl : g < w'.heap.size

theorem InR.call {w w' w2 : World} {ls : List (List UInt8)} {g rb eb : Nat} {e : Es} (h : InR w ls g rb eb e w') (hb : Below w'.heap.size w' w2) : InR w ls g rb eb e w2 :=
  ⟨fun k l hk => (hb.cell (p := ⟨g, k, none⟩) h.gl).trans (h.words k l hk), h.ans.below hb, h.ease.below hb, h.below.trans (hb.mono h.below.size), h.hr, h.he, h.ne, h.ge, Nat.lt_of_lt_of_le h.gl hb.size⟩

theorem InR.put {w w' : World} {ls : List (List UInt8)} {g rb eb : Nat} {e0 : Es} (h : InR w ls g rb eb e0 w') (e : Es) : InR w ls g rb eb e (put7 w' eb (.int .i64 e.k) (.int .i64 e.x1) (.int .i64 e.y1) (.int .i64 e.x2) (.int .i64 e.y2) (.int .i64 e.c) (.int .i64 e.j)) :=
  ⟨fun k l hk => (put7_cell (p := ⟨g, k, none⟩) h.ge _ _ _ _ _ _ _).trans (h.words k l hk), put7_other h.ans (Ne.symm h.ne) _ _ _ _ _ _ _, put7_blk h.ease _ _ _ _ _ _ _, put7_below h.below h.he _ _ _ _ _ _ _, h.hr, h.he, h.ne, h.ge, by rw [put7_size]; exact h.gl⟩

/-- A row of four numbers that the call has made. -/
theorem four_own {w : World} {B : Nat} {v : Value} {a b c d : Int} (h : w.ownsRow B 2 1 v [a, b, c, d].length ([a, b, c, d].map (Value.int .i64))) :
    ∃ g cap, v = .slice (some ⟨g, 0, none⟩) 4 cap ∧ B ≤ g ∧ g < w.heap.size ∧ 4 ≤ cap ∧ w.cell? ⟨g, 0, none⟩ = some (.int .i64 a) ∧ w.cell? ⟨g, 1, none⟩ = some (.int .i64 b) ∧ w.cell? ⟨g, 2, none⟩ = some (.int .i64 c) ∧ w.cell? ⟨g, 3, none⟩ = some (.int .i64 d) := by
  rcases h.2 with ⟨_, hn⟩ | ⟨g, cap, cur, rfl, hb, hg, hnc, _⟩
  · simp at hn
  · refine ⟨g, cap, rfl, hb, (Array.getElem?_eq_some_iff.1 hg).1, hnc, ?_, ?_, ?_, ?_⟩
    · rw [World.ownsRow.cellAt h 0 (by simp)]; rfl
    · rw [World.ownsRow.cellAt h 1 (by simp)]; rfl
    · rw [World.ownsRow.cellAt h 2 (by simp)]; rfl
    · rw [World.ownsRow.cellAt h 3 (by simp)]; rfl

theorem cells4_call {w w2 : World} {h : Nat} {v0 v1 v2 v3 : Value} (g : Below w.heap.size w w2) (c0 : w.cell? ⟨h, 0, none⟩ = some v0) (c1 : w.cell? ⟨h, 1, none⟩ = some v1) (c2 : w.cell? ⟨h, 2, none⟩ = some v2) (c3 : w.cell? ⟨h, 3, none⟩ = some v3) (hl : h < w.heap.size) :
    w2.cell? ⟨h, 0, none⟩ = some v0 ∧ w2.cell? ⟨h, 1, none⟩ = some v1 ∧ w2.cell? ⟨h, 2, none⟩ = some v2 ∧ w2.cell? ⟨h, 3, none⟩ = some v3 ∧ h < w2.heap.size :=
  ⟨(g.cell (p := ⟨h, 0, none⟩) hl).trans c0, (g.cell (p := ⟨h, 1, none⟩) hl).trans c1, (g.cell (p := ⟨h, 2, none⟩) hl).trans c2, (g.cell (p := ⟨h, 3, none⟩) hl).trans c3, Nat.lt_of_lt_of_le hl g.size⟩

theorem cells4_put {w : World} {h b : Nat} {v0 v1 v2 v3 : Value} (hb : h ≠ b) (c0 : w.cell? ⟨h, 0, none⟩ = some v0) (c1 : w.cell? ⟨h, 1, none⟩ = some v1) (c2 : w.cell? ⟨h, 2, none⟩ = some v2) (c3 : w.cell? ⟨h, 3, none⟩ = some v3) (hl : h < w.heap.size) (u0 u1 u2 u3 u4 u5 u6 : Value) :
    (put7 w b u0 u1 u2 u3 u4 u5 u6).cell? ⟨h, 0, none⟩ = some v0 ∧ (put7 w b u0 u1 u2 u3 u4 u5 u6).cell? ⟨h, 1, none⟩ = some v1 ∧ (put7 w b u0 u1 u2 u3 u4 u5 u6).cell? ⟨h, 2, none⟩ = some v2 ∧ (put7 w b u0 u1 u2 u3 u4 u5 u6).cell? ⟨h, 3, none⟩ = some v3 ∧ h < (put7 w b u0 u1 u2 u3 u4 u5 u6).heap.size :=
  ⟨(put7_cell (p := ⟨h, 0, none⟩) hb _ _ _ _ _ _ _).trans c0, (put7_cell (p := ⟨h, 1, none⟩) hb _ _ _ _ _ _ _).trans c1, (put7_cell (p := ⟨h, 2, none⟩) hb _ _ _ _ _ _ _).trans c2, (put7_cell (p := ⟨h, 3, none⟩) hb _ _ _ _ _ _ _).trans c3, by rw [put7_size]; exact hl⟩

theorem InR.start {w w1 : World} {o : Obj} {ls : List (List UInt8)} {g : Nat} {t t' : TypeId} (ho : o = .cells (easeCells Es.zero).toArray t') (hb : Below (w.alloc o).heap.size (w.alloc o) w1) (hw : ∀ k l, ls[k]? = some l → w1.cell? ⟨g, k, none⟩ = some (.string ⟨l.toArray⟩)) (hg : g < w1.heap.size) :
    InR w ls g w.heap.size w1.heap.size Es.zero (w1.alloc (.cells (easeCells Es.zero).toArray t)) := by
  subst ho
  have hs := hb.size
  simp at hs
  exact ⟨fun k l hk => by rw [World.cell?_alloc_lt _ _ _ hg]; exact hw k l hk, ((LBlk.new w (easeCells Es.zero) t').below hb).alloc _, LBlk.new w1 _ _, (Below.box hb).alloc (by omega) _, Nat.le_refl _, by omega, by omega, by omega, by simp; omega⟩

theorem piece_len (b : UInt8) (l : List UInt8) : ∀ p ∈ splitBy b l, p.length ≤ l.length := by
  induction l with
  | nil => intro p hp; simp [splitBy] at hp; simp [hp]
  | cons x r ih =>
    intro p hp
    rw [splitBy] at hp
    split at hp
    · rcases List.mem_cons.1 hp with rfl | hp
      · simp
      · have := ih p hp; simp; omega
    · cases hs : splitBy b r with
      | nil => exact absurd hs (splitBy_ne b r)
      | cons h t =>
        rw [hs] at hp ih
        rcases List.mem_cons.1 hp with rfl | hp
        · have := ih h (by simp); simp; omega
        · have := ih p (by simp [hp]); simp; omega

theorem infoInt : (Try.prog.info? 2).map (fun i => (i.zero, i.size, i.bytes)) = some (some (.int .i64 0), 1, 8) := by kernel_rfl

end Go.Proofs.Ytmaagcmbofedhaa.B4
