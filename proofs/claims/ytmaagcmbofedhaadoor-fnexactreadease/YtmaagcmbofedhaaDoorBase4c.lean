/- Contracts of chapter 4's functions (ease): the reference's ReadEase. -/
import Derived.Test.YtmaagcmbofedhaaDoorBase4b
import Derived.Test.YtmaagcmbofedhaaDoorBaseTr
import Derived.Test.YtmaagcmbofedhaaDoorLoc
namespace Go.Proofs.YtmaagcmbofedhaaDoor.B4
open Go.Proofs.YtmaagcmbofedhaaDoor.P1 Go.Proofs.YtmaagcmbofedhaaDoor.B1 Go.Proofs.YtmaagcmbofedhaaDoor.P2 Go.Proofs.YtmaagcmbofedhaaDoor.B2 Go.Proofs.YtmaagcmbofedhaaDoor.P3 Go.Proofs.YtmaagcmbofedhaaDoor.B3 Go.Proofs.YtmaagcmbofedhaaDoor.T1 Go.Proofs.YtmaagcmbofedhaaDoor.BT Go.Proofs.YtmaagcmbofedhaaDoor.P4 Go.Proofs.YtmaagcmbofedhaaDoor.D1
open Go.ChangeShapes Go.WideShapes Go.ChangeAt Go.RowKit
set_option linter.unusedVariables false

/-- An ease's value. -/
def easeV (e : Es) : Value := .agg #[.int .i64 e.k, .int .i64 e.x1, .int .i64 e.y1, .int .i64 e.x2, .int .i64 e.y2, .int .i64 e.c, .int .i64 e.j]

/-- What ReadEase answers. -/
def ReadsEase (s : List UInt8) (w : World) (e : Ending) (w' : World) : Prop := e = .returned (.tuple #[easeV (easeOf s), .bool (isEase s)]) ∧ Below w.heap.size w w'

/-- The cells of a local block of seven numbers, one by one. -/
theorem seven_cells {w : World} {b : Nat} {v0 v1 v2 v3 v4 v5 v6 : Value} (h : LBlk w b [v0, v1, v2, v3, v4, v5, v6]) :
    w.cell? ⟨b, 0, none⟩ = some v0 ∧ w.cell? ⟨b, 1, none⟩ = some v1 ∧ w.cell? ⟨b, 2, none⟩ = some v2 ∧ w.cell? ⟨b, 3, none⟩ = some v3 ∧ w.cell? ⟨b, 4, none⟩ = some v4 ∧ w.cell? ⟨b, 5, none⟩ = some v5 ∧ w.cell? ⟨b, 6, none⟩ = some v6 ∧
    w.frozen? ⟨b, 0, none⟩ = false ∧ w.frozen? ⟨b, 1, none⟩ = false ∧ w.frozen? ⟨b, 2, none⟩ = false ∧ w.frozen? ⟨b, 3, none⟩ = false ∧ w.frozen? ⟨b, 4, none⟩ = false ∧ w.frozen? ⟨b, 5, none⟩ = false ∧ w.frozen? ⟨b, 6, none⟩ = false :=
  ⟨(h.2 0 _ rfl).1, (h.2 1 _ rfl).1, (h.2 2 _ rfl).1, (h.2 3 _ rfl).1, (h.2 4 _ rfl).1, (h.2 5 _ rfl).1, (h.2 6 _ rfl).1, (h.2 0 _ rfl).2, (h.2 1 _ rfl).2, (h.2 2 _ rfl).2, (h.2 3 _ rfl).2, (h.2 4 _ rfl).2, (h.2 5 _ rfl).2, (h.2 6 _ rfl).2⟩

/-- Seven cells of a block written one after the other. -/
def put7 (w : World) (b : Nat) (v0 v1 v2 v3 v4 v5 v6 : Value) : World := (((((((w.setCell ⟨b, 0, none⟩ v0).setCell ⟨b, 1, none⟩ v1).setCell ⟨b, 2, none⟩ v2).setCell ⟨b, 3, none⟩ v3).setCell ⟨b, 4, none⟩ v4).setCell ⟨b, 5, none⟩ v5).setCell ⟨b, 6, none⟩ v6)

theorem put7_blk {w : World} {b : Nat} {u0 u1 u2 u3 u4 u5 u6 : Value} (h : LBlk w b [u0, u1, u2, u3, u4, u5, u6]) (v0 v1 v2 v3 v4 v5 v6 : Value) : LBlk (put7 w b v0 v1 v2 v3 v4 v5 v6) b [v0, v1, v2, v3, v4, v5, v6] :=
  ((((((h.set 0 v0 (by simp)).set 1 v1 (by simp)).set 2 v2 (by simp)).set 3 v3 (by simp)).set 4 v4 (by simp)).set 5 v5 (by simp)).set 6 v6 (by simp)

theorem put7_other {w : World} {b c : Nat} {vs : List Value} (h : LBlk w c vs) (hc : c ≠ b) (v0 v1 v2 v3 v4 v5 v6 : Value) : LBlk (put7 w b v0 v1 v2 v3 v4 v5 v6) c vs :=
  ((((((h.set_other hc 0 v0).set_other hc 1 v1).set_other hc 2 v2).set_other hc 3 v3).set_other hc 4 v4).set_other hc 5 v5).set_other hc 6 v6

theorem put7_below {B : Nat} {a w : World} {b : Nat} (h : Below B a w) (hb : B ≤ b) (v0 v1 v2 v3 v4 v5 v6 : Value) : Below B a (put7 w b v0 v1 v2 v3 v4 v5 v6) :=
  ((((((h.setCell hb v0).setCell hb v1).setCell hb v2).setCell hb v3).setCell hb v4).setCell hb v5).setCell hb v6

theorem put7_cell {w : World} {b : Nat} {p : Addr} (hp : p.block ≠ b) (v0 v1 v2 v3 v4 v5 v6 : Value) : (put7 w b v0 v1 v2 v3 v4 v5 v6).cell? p = w.cell? p := by
  have h (w : World) (o : Nat) (v : Value) : (w.setCell ⟨b, o, none⟩ v).cell? p = w.cell? p := World.cell?_setCell_other _ _ _ _ (by intro e; exact hp (by rw [← e]))
  unfold put7
  rw [h, h, h, h, h, h, h]

theorem put7_size (w : World) (b : Nat) (v0 v1 v2 v3 v4 v5 v6 : Value) : (put7 w b v0 v1 v2 v3 v4 v5 v6).heap.size = w.heap.size := by
  simp [put7, World.setCell]

def easeCells (e : Es) : List Value := [.int .i64 e.k, .int .i64 e.x1, .int .i64 e.y1, .int .i64 e.x2, .int .i64 e.y2, .int .i64 e.c, .int .i64 e.j]

/-- The world between ReadEase's statements: the words, the answer's block rb, the ease's block eb that holds e. -/
structure InR (w : World) (ls : List (List UInt8)) (g rb eb : Nat) (e : Es) (w' : World) : Prop where
  words : ∀ k l, ls[k]? = some l → w'.cell? ⟨g, k, none⟩ = some (.string ⟨l.toArray⟩)
  ans : LBlk w' rb (easeCells Es.zero)
  ease : LBlk w' eb (easeCells e)
  below : Below w.heap.size w w'
  hr : w.heap.size ≤ rb
  he : w.heap.size ≤ eb
  ne : eb ≠ rb
  ge : g ≠ eb
  gl : g < w'.heap.size

theorem InR.call {w w' w2 : World} {ls : List (List UInt8)} {g rb eb : Nat} {e : Es} (h : InR w ls g rb eb e w') (hb : Below w'.heap.size w' w2) : InR w ls g rb eb e w2 :=
  ⟨fun k l hk => (hb.cell (p := ⟨g, k, none⟩) h.gl).trans (h.words k l hk), h.ans.below hb, h.ease.below hb, h.below.trans (hb.mono h.below.size), h.hr, h.he, h.ne, h.ge, Nat.lt_of_lt_of_le h.gl hb.size⟩

theorem InR.put {w w' : World} {ls : List (List UInt8)} {g rb eb : Nat} {e0 : Es} (h : InR w ls g rb eb e0 w') (e : Es) : InR w ls g rb eb e (put7 w' eb (.int .i64 e.k) (.int .i64 e.x1) (.int .i64 e.y1) (.int .i64 e.x2) (.int .i64 e.y2) (.int .i64 e.c) (.int .i64 e.j)) :=
  ⟨fun k l hk => (put7_cell (p := ⟨g, k, none⟩) h.ge _ _ _ _ _ _ _).trans (h.words k l hk), put7_other h.ans (Ne.symm h.ne) _ _ _ _ _ _ _, put7_blk h.ease _ _ _ _ _ _ _, put7_below h.below h.he _ _ _ _ _ _ _, h.hr, h.he, h.ne, h.ge, by rw [put7_size]; exact h.gl⟩

/-- A row of four numbers that the call has made. -/
theorem four_own {w : World} {B : Nat} {v : Value} {a b c d : Int} (h : w.ownsRow B 2 1 v [a, b, c, d].length ([a, b, c, d].map (Value.int .i64))) :
    ∃ g cap, v = .slice (some ⟨g, 0, none⟩) 4 cap ∧ B ≤ g ∧ g < w.heap.size ∧ 4 ≤ cap ∧ w.cell? ⟨g, 0, none⟩ = some (.int .i64 a) ∧ w.cell? ⟨g, 1, none⟩ = some (.int .i64 b) ∧ w.cell? ⟨g, 2, none⟩ = some (.int .i64 c) ∧ w.cell? ⟨g, 3, none⟩ = some (.int .i64 d) := by
  rcases h.2 with ⟨_, hn⟩ | ⟨g, cap, cur, rfl, hb, hg, hnc, _⟩
  · simp at hn
  · refine ⟨g, cap, rfl, hb, (Array.getElem?_eq_some_iff.1 hg).1, hnc, ?_, ?_, ?_, ?_⟩
    · rw [World.ownsRow.cellAt h 0 (by simp)]; rfl
    · rw [World.ownsRow.cellAt h 1 (by simp)]; rfl
    · rw [World.ownsRow.cellAt h 2 (by simp)]; rfl
    · rw [World.ownsRow.cellAt h 3 (by simp)]; rfl

theorem cells4_call {w w2 : World} {h : Nat} {v0 v1 v2 v3 : Value} (g : Below w.heap.size w w2) (c0 : w.cell? ⟨h, 0, none⟩ = some v0) (c1 : w.cell? ⟨h, 1, none⟩ = some v1) (c2 : w.cell? ⟨h, 2, none⟩ = some v2) (c3 : w.cell? ⟨h, 3, none⟩ = some v3) (hl : h < w.heap.size) :
    w2.cell? ⟨h, 0, none⟩ = some v0 ∧ w2.cell? ⟨h, 1, none⟩ = some v1 ∧ w2.cell? ⟨h, 2, none⟩ = some v2 ∧ w2.cell? ⟨h, 3, none⟩ = some v3 ∧ h < w2.heap.size :=
  ⟨(g.cell (p := ⟨h, 0, none⟩) hl).trans c0, (g.cell (p := ⟨h, 1, none⟩) hl).trans c1, (g.cell (p := ⟨h, 2, none⟩) hl).trans c2, (g.cell (p := ⟨h, 3, none⟩) hl).trans c3, Nat.lt_of_lt_of_le hl g.size⟩

theorem cells4_put {w : World} {h b : Nat} {v0 v1 v2 v3 : Value} (hb : h ≠ b) (c0 : w.cell? ⟨h, 0, none⟩ = some v0) (c1 : w.cell? ⟨h, 1, none⟩ = some v1) (c2 : w.cell? ⟨h, 2, none⟩ = some v2) (c3 : w.cell? ⟨h, 3, none⟩ = some v3) (hl : h < w.heap.size) (u0 u1 u2 u3 u4 u5 u6 : Value) :
    (put7 w b u0 u1 u2 u3 u4 u5 u6).cell? ⟨h, 0, none⟩ = some v0 ∧ (put7 w b u0 u1 u2 u3 u4 u5 u6).cell? ⟨h, 1, none⟩ = some v1 ∧ (put7 w b u0 u1 u2 u3 u4 u5 u6).cell? ⟨h, 2, none⟩ = some v2 ∧ (put7 w b u0 u1 u2 u3 u4 u5 u6).cell? ⟨h, 3, none⟩ = some v3 ∧ h < (put7 w b u0 u1 u2 u3 u4 u5 u6).heap.size :=
  ⟨(put7_cell (p := ⟨h, 0, none⟩) hb _ _ _ _ _ _ _).trans c0, (put7_cell (p := ⟨h, 1, none⟩) hb _ _ _ _ _ _ _).trans c1, (put7_cell (p := ⟨h, 2, none⟩) hb _ _ _ _ _ _ _).trans c2, (put7_cell (p := ⟨h, 3, none⟩) hb _ _ _ _ _ _ _).trans c3, by rw [put7_size]; exact hl⟩

theorem InR.start {w w1 : World} {o : Obj} {ls : List (List UInt8)} {g : Nat} {t t' : TypeId} (ho : o = .cells (easeCells Es.zero).toArray t') (hb : Below (w.alloc o).heap.size (w.alloc o) w1) (hw : ∀ k l, ls[k]? = some l → w1.cell? ⟨g, k, none⟩ = some (.string ⟨l.toArray⟩)) (hg : g < w1.heap.size) :
    InR w ls g w.heap.size w1.heap.size Es.zero (w1.alloc (.cells (easeCells Es.zero).toArray t)) := by
  subst ho
  have hs := hb.size
  simp at hs
  exact ⟨fun k l hk => by rw [World.cell?_alloc_lt _ _ _ hg]; exact hw k l hk, ((LBlk.new w (easeCells Es.zero) t').below hb).alloc _, LBlk.new w1 _ _, (Below.box hb).alloc (by omega) _, Nat.le_refl _, by omega, by omega, by omega, by simp; omega⟩

theorem piece_len (b : UInt8) (l : List UInt8) : ∀ p ∈ splitBy b l, p.length ≤ l.length := by
  induction l with
  | nil => intro p hp; simp [splitBy] at hp; simp [hp]
  | cons x r ih =>
    intro p hp
    rw [splitBy] at hp
    split at hp
    · rcases List.mem_cons.1 hp with rfl | hp
      · simp
      · have := ih p hp; simp; omega
    · cases hs : splitBy b r with
      | nil => exact absurd hs (splitBy_ne b r)
      | cons h t =>
        rw [hs] at hp ih
        rcases List.mem_cons.1 hp with rfl | hp
        · have := ih h (by simp); simp; omega
        · have := ih p (by simp [hp]); simp; omega

theorem At_jumps (s : List UInt8) (q : Int) (g : Nat) (w : World) (hq : placeOf jumpWords s = q) (hc : ∀ k v, (wordsV jumpWords)[k]? = some v → w.cell? ⟨g, k, none⟩ = some v) :
    Calls Tryd.prog 32 #[.slice (some ⟨g, 0, none⟩) 4 4, .string ⟨s.toArray⟩] w fun e w' => e = .returned (.int .i64 q) ∧ w = w' :=
  hq ▸ At_spec jumpWords s g 4 w (by decide) (by decide) (by decide) (fun k l hk => hc k _ (by simp [wordsV, hk]))

theorem infoInt : (Tryd.prog.info? 2).map (fun i => (i.zero, i.size, i.bytes)) = some (some (.int .i64 0), 1, 8) := by kernel_rfl

set_option maxRecDepth 20000 in
set_option maxHeartbeats 4000000 in
theorem ReadEase_spec (s : List UInt8) (w : World) (hl : s.length ≤ 1048576) :
    Calls Tryd.prog 11 #[.string ⟨s.toArray⟩] w (ReadsEase s w) := by
  by_cases h1 : s = lineText
  · have HR := Lib.hid (ease_some (h1 ▸ read_line))
    have q1 : (s == [108, 105, 110, 101]) = true := str_same h1
    clear h1
    go_enter Tryd.func11, Tryd.ntmps11
    go_wp2
    exact bodyPost_ret (v := .tuple #[easeV (easeOf s), .bool (isEase s)]) (by rw [HR.out.1, HR.out.2]; simp [results, Tryd.results11, go_sem, easeV, eLine]) rfl ⟨rfl, (Below.refl _ _).alloc (Nat.le_refl _) _⟩
  · have q1 : (s == [108, 105, 110, 101]) = false := str_other h1
    by_cases h2 : s = slowW
    · have HR := Lib.hid (ease_some (h2 ▸ read_slow))
      have q2 : (s == [115, 108, 111, 119]) = true := str_same h2
      clear h1 h2
      go_enter Tryd.func11, Tryd.ntmps11
      go_wp2_with (go_at_call 29; refine (l4Curve_spec _ _ _ _ _).mono ?_; rintro e w1 ⟨rfl, hb1⟩; have hrb := (LBlk.new w (easeCells Es.zero) 29).below hb1; obtain ⟨r0, r1, r2, r3, r4, r5, r6, f0, f1, f2, f3, f4, f5, f6⟩ := seven_cells hrb)
      obtain ⟨c0, c1, c2, c3, c4, c5, c6, _⟩ := seven_cells (put7_blk hrb (.int .i64 2) (.int .i64 42) (.int .i64 0) (.int .i64 100) (.int .i64 100) (.int .i64 0) (.int .i64 0))
      unfold put7 at c0 c1 c2 c3 c4 c5 c6
      exact bodyPost_ret (v := .tuple #[easeV (easeOf s), .bool (isEase s)]) (by rw [HR.out.1, HR.out.2]; simp only [results, Tryd.results11]; simp [go_sem, c0, c1, c2, c3, c4, c5, c6, easeV, eCurve]) rfl ⟨rfl, put7_below (Below.box hb1) (Nat.le_refl _) (.int .i64 2) (.int .i64 42) (.int .i64 0) (.int .i64 100) (.int .i64 100) (.int .i64 0) (.int .i64 0)⟩
    · have q2 : (s == [115, 108, 111, 119]) = false := str_other h2
      by_cases h3 : s = quickW
      · have HR := Lib.hid (ease_some (h3 ▸ read_quick))
        have q3 : (s == [113, 117, 105, 99, 107]) = true := str_same h3
        clear h1 h2 h3
        go_enter Tryd.func11, Tryd.ntmps11
        go_wp2_with (go_at_call 29; refine (l4Curve_spec _ _ _ _ _).mono ?_; rintro e w1 ⟨rfl, hb1⟩; have hrb := (LBlk.new w (easeCells Es.zero) 29).below hb1; obtain ⟨r0, r1, r2, r3, r4, r5, r6, f0, f1, f2, f3, f4, f5, f6⟩ := seven_cells hrb)
        obtain ⟨c0, c1, c2, c3, c4, c5, c6, _⟩ := seven_cells (put7_blk hrb (.int .i64 2) (.int .i64 0) (.int .i64 0) (.int .i64 58) (.int .i64 100) (.int .i64 0) (.int .i64 0))
        unfold put7 at c0 c1 c2 c3 c4 c5 c6
        exact bodyPost_ret (v := .tuple #[easeV (easeOf s), .bool (isEase s)]) (by rw [HR.out.1, HR.out.2]; simp only [results, Tryd.results11]; simp [go_sem, c0, c1, c2, c3, c4, c5, c6, easeV, eCurve]) rfl ⟨rfl, put7_below (Below.box hb1) (Nat.le_refl _) (.int .i64 2) (.int .i64 0) (.int .i64 0) (.int .i64 58) (.int .i64 100) (.int .i64 0) (.int .i64 0)⟩
      · have q3 : (s == [113, 117, 105, 99, 107]) = false := str_other h3
        by_cases h4 : s = softW
        · have HR := Lib.hid (ease_some (h4 ▸ read_soft))
          have q4 : (s == [115, 111, 102, 116]) = true := str_same h4
          clear h1 h2 h3 h4
          go_enter Tryd.func11, Tryd.ntmps11
          go_wp2_with (go_at_call 29; refine (l4Curve_spec _ _ _ _ _).mono ?_; rintro e w1 ⟨rfl, hb1⟩; have hrb := (LBlk.new w (easeCells Es.zero) 29).below hb1; obtain ⟨r0, r1, r2, r3, r4, r5, r6, f0, f1, f2, f3, f4, f5, f6⟩ := seven_cells hrb)
          obtain ⟨c0, c1, c2, c3, c4, c5, c6, _⟩ := seven_cells (put7_blk hrb (.int .i64 2) (.int .i64 25) (.int .i64 10) (.int .i64 25) (.int .i64 100) (.int .i64 0) (.int .i64 0))
          unfold put7 at c0 c1 c2 c3 c4 c5 c6
          exact bodyPost_ret (v := .tuple #[easeV (easeOf s), .bool (isEase s)]) (by rw [HR.out.1, HR.out.2]; simp only [results, Tryd.results11]; simp [go_sem, c0, c1, c2, c3, c4, c5, c6, easeV, eCurve]) rfl ⟨rfl, put7_below (Below.box hb1) (Nat.le_refl _) (.int .i64 2) (.int .i64 25) (.int .i64 10) (.int .i64 25) (.int .i64 100) (.int .i64 0) (.int .i64 0)⟩
        · have q4 : (s == [115, 111, 102, 116]) = false := str_other h4
          have HS := Lib.hid (read_else h1 h2 h3 h4)
          have HL := Lib.hid hl
          clear h1 h2 h3 h4 hl
          go_enter Tryd.func11, Tryd.ntmps11
          go_wp2_with fail
          refine (Split_spec s 32 _ HL.out).mono ?_
          rintro e w1 ⟨v, rfl, hws, hb1⟩
          obtain ⟨g, cap, rfl, hcap, hg0, hg1, hcells⟩ := hws.at (splitBy_ne 32 s)
          have hI := InR.start (t := 29) (t' := 29) rfl hb1 hcells hg1
          have hfew := splitBy_length 32 s
          obtain ⟨w0, hw0⟩ : ∃ w0, (splitBy 32 s)[0]? = some w0 := by
            have : 0 < (splitBy 32 s).length := List.length_pos_iff.2 (splitBy_ne 32 s)
            exact ⟨_, List.getElem?_eq_getElem this⟩
          have k0 := hcells 0 w0 hw0
          have HP := Lib.hid (show ∀ k p, (splitBy 32 s)[k]? = some p → p.length ≤ 1048576 from fun k p hp => Nat.le_trans (piece_len 32 s p (List.mem_of_getElem? hp)) HL.out)
          clear hws hb1 hcells
          generalize splitBy 32 s = ls at *
          obtain ⟨n, en⟩ : ∃ n, ls.length = n := ⟨_, rfl⟩
          have n1 : (n : Int) ≤ 2000000 := by have := HL.out; omega
          have n0 : (1 : Int) ≤ (n : Int) := by
            have := (List.getElem?_eq_some_iff.1 hw0).1
            omega
          have n2 : (n : Int) ≤ (cap : Int) := by omega
          rw [en]
          by_cases hA : w0 = curveW ∧ n = 5
          · obtain ⟨hA0, rfl⟩ := hA
            have a0 : (w0 == [99, 117, 114, 118, 101]) = true := str_same hA0
            have a1 : (w0 == [115, 116, 101, 112, 115]) = false := by rw [hA0]; rfl
            go_upto_if 36 with (fail)
            change InR w ls g w.heap.size w1.heap.size Es.zero (w1.alloc (.cells #[.int .i64 0, .int .i64 0, .int .i64 0, .int .i64 0, .int .i64 0, .int .i64 0, .int .i64 0] 29)) at hI
            clear k0 hg0 hg1 hcap hfew n0 n1
            generalize w1.alloc (.cells #[.int .i64 0, .int .i64 0, .int .i64 0, .int .i64 0, .int .i64 0, .int .i64 0, .int .i64 0] 29) = W0 at *
            generalize w1.heap.size = eb at *
            generalize w.heap.size = rb at *
            obtain ⟨w1', w2', w3', w4', rfl⟩ := words_five hw0 en
            rw [hA0] at HS
            have HA := Lib.hid hA0
            clear hA0 hw0 en
            go_cut [] (fun wx => ∃ a b c d, Hid (readNum w1' = some a ∧ readNum w2' = some b ∧ readNum w3' = some c ∧ readNum w4' = some d) ∧ InR w [w0, w1', w2', w3', w4'] g rb eb (eCurve a b c d) wx)
            case first =>
              obtain ⟨i0, hi, hz0, hz1, hz2⟩ := info_parts infoInt
              have hgl := hI.gl
              go_wp2
              go_loopg [6, 7] 4 (fun kx s6 s7 wr => ∃ (i : Nat) (ns : List Int), s7 = .int .i64 (i : Int) ∧ 1 ≤ i ∧ i ≤ 5 ∧ kx + i = 5 ∧ ns.length + 1 = i ∧ wr.ownsRow W0.heap.size 2 1 s6 ns.length (ns.map (Value.int .i64)) ∧ Hid (Nums [curveW, w1', w2', w3', w4'] ns) ∧ Below W0.heap.size W0 wr)
              case atStart => exact ⟨1, [], rfl, by omega, by omega, by omega, rfl, World.ownsRow_lit W0 #[] 0 (Nat.le_refl _) (by decide) rfl, Lib.hid fun j n h => by simp at h, (Below.refl _ _).alloc (Nat.le_refl _) _⟩
              case round =>
                obtain ⟨i, ns, rfl, i1, i5, hk, hns, hown, I, hbW⟩ := hrel
                by_cases hlt : i < 5
                · have hlt' : (i : Int) < 5 := by omega
                  have i0' : (0 : Int) ≤ (i : Int) := by omega
                  obtain ⟨wi, hwi⟩ : ∃ l, [w0, w1', w2', w3', w4'][i]? = some l := ⟨_, List.getElem?_eq_getElem (by simpa using hlt)⟩
                  have hcell := (hbW.cell (p := ⟨g, i, none⟩) hgl).trans (hI.words i wi hwi)
                  have HW := Lib.hid hwi
                  clear hwi
                  cases hnum : readNum wi with
                  | none =>
                    have HR := Lib.hid (ease_none (HS.out.trans (curve_bad_at i1 (by rw [← HA.out]; exact HW.out) hnum)))
                    obtain ⟨nv, nb⟩ := num_none hnum
                    have hans := hI.ans.below hbW
                    obtain ⟨r0, r1, r2, r3, r4, r5, r6, f0, f1, f2, f3, f4, f5, f6⟩ := seven_cells hans
                    go_wp2_with (go_at_call 31; refine (Read_spec wi _ (HP.out i wi HW.out)).mono ?_; rintro e w2 ⟨rfl, rfl⟩)
                    obtain ⟨c0, c1, c2, c3, c4, c5, c6, _⟩ := seven_cells (put7_blk hans (.int .i64 0) (.int .i64 0) (.int .i64 0) (.int .i64 0) (.int .i64 0) (.int .i64 0) (.int .i64 0))
                    unfold put7 at c0 c1 c2 c3 c4 c5 c6
                    exact bodyPost_ret (v := .tuple #[easeV (easeOf s), .bool (isEase s)]) (by rw [HR.out.1, HR.out.2]; simp only [results, Tryd.results11]; simp [go_sem, c0, c1, c2, c3, c4, c5, c6, easeV, Es.zero]) rfl ⟨rfl, put7_below (hI.below.trans (hbW.mono hI.below.size)) hI.hr (.int .i64 0) (.int .i64 0) (.int .i64 0) (.int .i64 0) (.int .i64 0) (.int .i64 0) (.int .i64 0)⟩
                  | some x =>
                    obtain ⟨nv, nb⟩ := num_some hnum
                    have HN := Lib.hid (I.out.more (by rw [hns, ← HA.out]; exact HW.out) hnum)
                    go_wp2_with (first | (go_at_call 31; refine (Read_spec wi _ (HP.out i wi HW.out)).mono ?_; rintro e w2 ⟨rfl, rfl⟩) | (at_builtin; refine wpList_append_own _ rfl _ _ 61 rfl W0.heap.size 2 i0 _ 1 8 Tryd.underlying61 hi hz0 hz1 hz2 rfl (by decide) _ ns.length (ns.map (Value.int .i64)) rfl (World.ownsRow.alloc hown _) ⟨wr.heap.size, 0, none⟩ 1 1 [.int .i64 x] rfl rfl (cell_one_new _ _ _) (by simp [Value.oneCell']) (by simp [maxLen]; omega) (by omega) (by have := hbW.size; simp; omega) ?_; intro v4 w4 hown4 hgrow4 _))
                    go_roundg (4 - i)
                    case measure => omega
                    case rel => exact ⟨i + 1, ns ++ [x], by go_num, by omega, by omega, by omega, by simp; omega, by rw [List.length_append, List.map_append]; exact hown4, HN, (hbW.alloc hbW.size _).grown hgrow4 (by have := hbW.size; simp; omega) (fun k hk => (World.ownsRow.lt hown k hk).1)⟩
                · obtain rfl : i = 5 := by omega
                  have hl4 : ns.length = 4 := by omega
                  obtain ⟨a, b, c, d, rfl, N1, N2, N3, N4⟩ := nums_four I.out hl4
                  have HN := Lib.hid (⟨N1, N2, N3, N4⟩ : readNum w1' = some a ∧ readNum w2' = some b ∧ readNum w3' = some c ∧ readNum w4' = some d)
                  obtain ⟨h, ncap, rfl, hh0, hh1, hc4, q0, q1, q2, q3⟩ := four_own hown
                  have hE := hI.call hbW
                  clear N1 N2 N3 N4 I hown hl4 hns
                  go_wp2_with fail
                  have hD : Below wr.heap.size wr wr.drew := ⟨rfl, rfl, rfl, Nat.le_refl _, fun _ _ => rfl⟩
                  have hhe : h ≠ eb := by have := hE.ease.1; have := hI.ease.1; omega
                  have d0 : wr.drew.cell? ⟨h, 0, none⟩ = some (.int .i64 a) := q0
                  have d1 : wr.drew.cell? ⟨h, 1, none⟩ = some (.int .i64 b) := q1
                  have d2 : wr.drew.cell? ⟨h, 2, none⟩ = some (.int .i64 c) := q2
                  have d3 : wr.drew.cell? ⟨h, 3, none⟩ = some (.int .i64 d) := q3
                  have d4 : h < wr.drew.heap.size := hh1
                  go_region_held3 (fun w' => w'.cell? ⟨h, 0, none⟩ = some (.int .i64 a) ∧ w'.cell? ⟨h, 1, none⟩ = some (.int .i64 b) ∧ w'.cell? ⟨h, 2, none⟩ = some (.int .i64 c) ∧ w'.cell? ⟨h, 3, none⟩ = some (.int .i64 d) ∧ h < w'.heap.size)
                    (first | with_reducible exact ⟨d0, d1, d2, d3, d4⟩ | with_reducible exact ⟨t0, t1, t2, t3, t4⟩ | exact cells4_put hhe t0 t1 t2 t3 t4 _ _ _ _ _ _ _)
                    (first | (go_at_call 29; refine (l4Curve_spec _ _ _ _ _).mono ?_; rintro e w2 ⟨rfl, hb2⟩; obtain ⟨t0, t1, t2, t3, t4⟩ := cells4_call hb2 d0 d1 d2 d3 d4; have hF := (hE.call hD).call hb2; obtain ⟨e0, e1, e2, e3, e4, e5, e6, f0, f1, f2, f3, f4, f5, f6⟩ := seven_cells hF.ease))
                  go_wp2_with fail
                  go_meet
                  exact ⟨a, b, c, d, HN, hF.put (eCurve a b c d)⟩
            case rest =>
              obtain ⟨a, b, c, d, HN, hJ0⟩ := hcut
              have HE := Lib.hid (HS.out.trans (curve_good HN.out.1 HN.out.2.1 HN.out.2.2.1 HN.out.2.2.2))
              have k0 := hJ0.words 0 w0 rfl
              clear HN hI
              obtain ⟨e0, e1, e2, e3, e4, e5, e6, _⟩ := seven_cells hJ0.ease
              cases hok : easeOk 2 a b c d 0 0
              · have HR := Lib.hid (ease_none (HE.out.trans (okOf_no hok)))
                go_wp2_with (go_at_call 34; refine (EaseOk_spec 2 a b c d 0 0 _).mono ?_; rintro e w2 ⟨rfl, hb2⟩; have hJ := hJ0.call hb2; obtain ⟨r0, r1, r2, r3, r4, r5, r6, f0, f1, f2, f3, f4, f5, f6⟩ := seven_cells hJ.ans)
                obtain ⟨c0, c1, c2, c3, c4, c5, c6, _⟩ := seven_cells (put7_blk hJ.ans (.int .i64 0) (.int .i64 0) (.int .i64 0) (.int .i64 0) (.int .i64 0) (.int .i64 0) (.int .i64 0))
                unfold put7 at c0 c1 c2 c3 c4 c5 c6
                exact bodyPost_ret (v := .tuple #[easeV (easeOf s), .bool (isEase s)]) (by rw [HR.out.1, HR.out.2]; simp only [results, Tryd.results11]; simp [go_sem, c0, c1, c2, c3, c4, c5, c6, easeV, Es.zero]) rfl ⟨rfl, put7_below hJ.below hJ.hr (.int .i64 0) (.int .i64 0) (.int .i64 0) (.int .i64 0) (.int .i64 0) (.int .i64 0) (.int .i64 0)⟩
              · have HR := Lib.hid (ease_some (HE.out.trans (okOf_yes hok)))
                go_wp2_with (go_at_call 34; refine (EaseOk_spec 2 a b c d 0 0 _).mono ?_; rintro e w2 ⟨rfl, hb2⟩; have hJ := hJ0.call hb2; obtain ⟨r0, r1, r2, r3, r4, r5, r6, f0, f1, f2, f3, f4, f5, f6⟩ := seven_cells hJ.ans; obtain ⟨d0, d1, d2, d3, d4, d5, d6, _⟩ := seven_cells hJ.ease; have hne := hJ.ne)
                obtain ⟨c0, c1, c2, c3, c4, c5, c6, _⟩ := seven_cells (put7_blk hJ.ans (.int .i64 2) (.int .i64 a) (.int .i64 b) (.int .i64 c) (.int .i64 d) (.int .i64 0) (.int .i64 0))
                unfold put7 at c0 c1 c2 c3 c4 c5 c6
                exact bodyPost_ret (v := .tuple #[easeV (easeOf s), .bool (isEase s)]) (by rw [HR.out.1, HR.out.2]; simp only [results, Tryd.results11]; simp [go_sem, c0, c1, c2, c3, c4, c5, c6, easeV, eCurve]) rfl ⟨rfl, put7_below hJ.below hJ.hr (.int .i64 2) (.int .i64 a) (.int .i64 b) (.int .i64 c) (.int .i64 d) (.int .i64 0) (.int .i64 0)⟩
          · by_cases hS : w0 = stepsW ∧ n = 3
            · obtain ⟨hS0, rfl⟩ := hS
              have a0 : (w0 == [99, 117, 114, 118, 101]) = false := by rw [hS0]; rfl
              have a1 : (w0 == [115, 116, 101, 112, 115]) = true := str_same hS0
              go_upto_if 78 with (fail)
              change InR w ls g w.heap.size w1.heap.size Es.zero (w1.alloc (.cells #[.int .i64 0, .int .i64 0, .int .i64 0, .int .i64 0, .int .i64 0, .int .i64 0, .int .i64 0] 29)) at hI
              clear k0 hg0 hg1 hcap hfew n0 n1 hA
              generalize w1.alloc (.cells #[.int .i64 0, .int .i64 0, .int .i64 0, .int .i64 0, .int .i64 0, .int .i64 0, .int .i64 0] 29) = W0 at *
              generalize w1.heap.size = eb at *
              generalize w.heap.size = rb at *
              obtain ⟨w1', w2', rfl⟩ := words_three hw0 en
              rw [hS0] at HS
              clear hS0 hw0 en
              have k1 := hI.words 1 w1' rfl
              cases hnum : readNum w1' with
              | none =>
                have HR := Lib.hid (ease_none (HS.out.trans (steps_bad hnum)))
                obtain ⟨nv, nb⟩ := num_none hnum
                obtain ⟨r0, r1, r2, r3, r4, r5, r6, f0, f1, f2, f3, f4, f5, f6⟩ := seven_cells hI.ans
                go_wp2_with (go_at_call 31; refine (Read_spec w1' _ (HP.out 1 w1' rfl)).mono ?_; rintro e w2 ⟨rfl, rfl⟩)
                obtain ⟨c0, c1, c2, c3, c4, c5, c6, _⟩ := seven_cells (put7_blk hI.ans (.int .i64 0) (.int .i64 0) (.int .i64 0) (.int .i64 0) (.int .i64 0) (.int .i64 0) (.int .i64 0))
                unfold put7 at c0 c1 c2 c3 c4 c5 c6
                exact bodyPost_ret (v := .tuple #[easeV (easeOf s), .bool (isEase s)]) (by rw [HR.out.1, HR.out.2]; simp only [results, Tryd.results11]; simp [go_sem, c0, c1, c2, c3, c4, c5, c6, easeV, Es.zero]) rfl ⟨rfl, put7_below hI.below hI.hr (.int .i64 0) (.int .i64 0) (.int .i64 0) (.int .i64 0) (.int .i64 0) (.int .i64 0) (.int .i64 0)⟩
              | some x =>
                have HE := Lib.hid (HS.out.trans (steps_good (w2 := w2') hnum))
                obtain ⟨nv, nb⟩ := num_some hnum
                obtain ⟨q, eq⟩ : ∃ q, placeOf jumpWords w2' = q := ⟨_, rfl⟩
                have hq : -1 ≤ q ∧ q ≤ 4 := by
                  have := placeOf_range jumpWords w2'
                  rw [eq, show jumpWords.length = 4 from rfl] at this
                  omega
                obtain ⟨q0, q1⟩ := hq
                rw [eq] at HE
                have HQ := Lib.hid eq
                have k2 := hI.words 2 w2' rfl
                clear eq HS hnum
                go_cut [] (fun wx => InR w [w0, w1', w2'] g rb eb (eSteps x (q + 1)) wx)
                case first =>
                  have hD : Below W0.heap.size W0 W0.drew := ⟨rfl, rfl, rfl, Nat.le_refl _, fun _ _ => rfl⟩
                  go_wp2_with (go_at_call 31; refine (Read_spec w1' _ (HP.out 1 w1' rfl)).mono ?_; rintro e w2 ⟨rfl, rfl⟩)
                  have hwq : IntKind.i64.wrap (q + 1) = q + 1 := by rw [IntKind.wrap_i64]; omega
                  go_region_with (first | (go_at_call 33; refine (Jumps_spec _).mono ?_; rintro e w2 ⟨gj, rfl, hcs, hg0, hg1, hb2⟩; have HC := Lib.hid hcs; clear hcs; have hF := (hI.call hD).call hb2; have k2' := hF.words 2 w2' rfl; obtain ⟨e0, e1, e2, e3, e4, e5, e6, f0, f1, f2, f3, f4, f5, f6⟩ := seven_cells hF.ease) | (go_at_call 32; refine (At_jumps w2' q gj _ HQ.out HC.out).mono ?_; rintro e w3 ⟨rfl, rfl⟩))
                  all_goals
                    go_wp2_with fail
                    go_meet
                    exact hF.put (eSteps x (q + 1))
                case rest =>
                  have hJ0 := hcut
                  clear hI
                  obtain ⟨e0, e1, e2, e3, e4, e5, e6, _⟩ := seven_cells hJ0.ease
                  cases hok : easeOk 3 0 0 0 0 x (q + 1)
                  · have HR := Lib.hid (ease_none (HE.out.trans (okOf_no hok)))
                    go_wp2_with (go_at_call 34; refine (EaseOk_spec 3 0 0 0 0 x (q + 1) _).mono ?_; rintro e w2 ⟨rfl, hb2⟩; have hJ := hJ0.call hb2; obtain ⟨r0, r1, r2, r3, r4, r5, r6, f0, f1, f2, f3, f4, f5, f6⟩ := seven_cells hJ.ans)
                    obtain ⟨c0, c1, c2, c3, c4, c5, c6, _⟩ := seven_cells (put7_blk hJ.ans (.int .i64 0) (.int .i64 0) (.int .i64 0) (.int .i64 0) (.int .i64 0) (.int .i64 0) (.int .i64 0))
                    unfold put7 at c0 c1 c2 c3 c4 c5 c6
                    exact bodyPost_ret (v := .tuple #[easeV (easeOf s), .bool (isEase s)]) (by rw [HR.out.1, HR.out.2]; simp only [results, Tryd.results11]; simp [go_sem, c0, c1, c2, c3, c4, c5, c6, easeV, Es.zero]) rfl ⟨rfl, put7_below hJ.below hJ.hr (.int .i64 0) (.int .i64 0) (.int .i64 0) (.int .i64 0) (.int .i64 0) (.int .i64 0) (.int .i64 0)⟩
                  · have HR := Lib.hid (ease_some (HE.out.trans (okOf_yes hok)))
                    go_wp2_with (go_at_call 34; refine (EaseOk_spec 3 0 0 0 0 x (q + 1) _).mono ?_; rintro e w2 ⟨rfl, hb2⟩; have hJ := hJ0.call hb2; obtain ⟨r0, r1, r2, r3, r4, r5, r6, f0, f1, f2, f3, f4, f5, f6⟩ := seven_cells hJ.ans; obtain ⟨d0, d1, d2, d3, d4, d5, d6, _⟩ := seven_cells hJ.ease; have hne := hJ.ne)
                    obtain ⟨c0, c1, c2, c3, c4, c5, c6, _⟩ := seven_cells (put7_blk hJ.ans (.int .i64 3) (.int .i64 0) (.int .i64 0) (.int .i64 0) (.int .i64 0) (.int .i64 x) (.int .i64 (q + 1)))
                    unfold put7 at c0 c1 c2 c3 c4 c5 c6
                    exact bodyPost_ret (v := .tuple #[easeV (easeOf s), .bool (isEase s)]) (by rw [HR.out.1, HR.out.2]; simp only [results, Tryd.results11]; simp [go_sem, c0, c1, c2, c3, c4, c5, c6, easeV, eSteps]) rfl ⟨rfl, put7_below hJ.below hJ.hr (.int .i64 3) (.int .i64 0) (.int .i64 0) (.int .i64 0) (.int .i64 0) (.int .i64 x) (.int .i64 (q + 1))⟩
            · have HO := Lib.hid (words_other hw0 (by rw [en]; exact hA) (by rw [en]; exact hS))
              by_cases hc : w0 = curveW
              · have a0 : (w0 == [99, 117, 114, 118, 101]) = true := str_same hc
                have a1 : (w0 == [115, 116, 101, 112, 115]) = false := by rw [hc]; rfl
                have a2 : ((n : Int) == 5) = false := by
                  have : n ≠ 5 := fun e => hA ⟨hc, e⟩
                  simp; omega
                clear hA hS hc hw0
                have HR := Lib.hid (ease_none (HS.out.trans HO.out))
                change InR w ls g w.heap.size w1.heap.size Es.zero (w1.alloc (.cells #[.int .i64 0, .int .i64 0, .int .i64 0, .int .i64 0, .int .i64 0, .int .i64 0, .int .i64 0] 29)) at hI
                have hok : easeOk 0 0 0 0 0 0 0 = false := rfl
                obtain ⟨e0, e1, e2, e3, e4, e5, e6, _⟩ := seven_cells hI.ease
                go_wp2_with (go_at_call 34; refine (EaseOk_spec 0 0 0 0 0 0 0 _).mono ?_; rintro e w2 ⟨rfl, hb2⟩; have hJ := hI.call hb2; obtain ⟨r0, r1, r2, r3, r4, r5, r6, f0, f1, f2, f3, f4, f5, f6⟩ := seven_cells hJ.ans)
                obtain ⟨c0, c1, c2, c3, c4, c5, c6, _⟩ := seven_cells (put7_blk hJ.ans (.int .i64 0) (.int .i64 0) (.int .i64 0) (.int .i64 0) (.int .i64 0) (.int .i64 0) (.int .i64 0))
                unfold put7 at c0 c1 c2 c3 c4 c5 c6
                exact bodyPost_ret (v := .tuple #[easeV (easeOf s), .bool (isEase s)]) (by rw [HR.out.1, HR.out.2]; simp only [results, Tryd.results11]; simp [go_sem, c0, c1, c2, c3, c4, c5, c6, easeV, Es.zero]) rfl ⟨rfl, put7_below hJ.below hJ.hr (.int .i64 0) (.int .i64 0) (.int .i64 0) (.int .i64 0) (.int .i64 0) (.int .i64 0) (.int .i64 0)⟩
              · have a0 : (w0 == [99, 117, 114, 118, 101]) = false := str_other hc
                by_cases hs : w0 = stepsW
                · have a1 : (w0 == [115, 116, 101, 112, 115]) = true := str_same hs
                  have a2 : ((n : Int) == 3) = false := by
                    have : n ≠ 3 := fun e => hS ⟨hs, e⟩
                    simp; omega
                  clear hA hS hc hs hw0
                  have HR := Lib.hid (ease_none (HS.out.trans HO.out))
                  change InR w ls g w.heap.size w1.heap.size Es.zero (w1.alloc (.cells #[.int .i64 0, .int .i64 0, .int .i64 0, .int .i64 0, .int .i64 0, .int .i64 0, .int .i64 0] 29)) at hI
                  have hok : easeOk 0 0 0 0 0 0 0 = false := rfl
                  obtain ⟨e0, e1, e2, e3, e4, e5, e6, _⟩ := seven_cells hI.ease
                  go_wp2_with (go_at_call 34; refine (EaseOk_spec 0 0 0 0 0 0 0 _).mono ?_; rintro e w2 ⟨rfl, hb2⟩; have hJ := hI.call hb2; obtain ⟨r0, r1, r2, r3, r4, r5, r6, f0, f1, f2, f3, f4, f5, f6⟩ := seven_cells hJ.ans)
                  obtain ⟨c0, c1, c2, c3, c4, c5, c6, _⟩ := seven_cells (put7_blk hJ.ans (.int .i64 0) (.int .i64 0) (.int .i64 0) (.int .i64 0) (.int .i64 0) (.int .i64 0) (.int .i64 0))
                  unfold put7 at c0 c1 c2 c3 c4 c5 c6
                  exact bodyPost_ret (v := .tuple #[easeV (easeOf s), .bool (isEase s)]) (by rw [HR.out.1, HR.out.2]; simp only [results, Tryd.results11]; simp [go_sem, c0, c1, c2, c3, c4, c5, c6, easeV, Es.zero]) rfl ⟨rfl, put7_below hJ.below hJ.hr (.int .i64 0) (.int .i64 0) (.int .i64 0) (.int .i64 0) (.int .i64 0) (.int .i64 0) (.int .i64 0)⟩
                · have a1 : (w0 == [115, 116, 101, 112, 115]) = false := str_other hs
                  clear hA hS hc hs hw0
                  have HR := Lib.hid (ease_none (HS.out.trans HO.out))
                  change InR w ls g w.heap.size w1.heap.size Es.zero (w1.alloc (.cells #[.int .i64 0, .int .i64 0, .int .i64 0, .int .i64 0, .int .i64 0, .int .i64 0, .int .i64 0] 29)) at hI
                  have hok : easeOk 0 0 0 0 0 0 0 = false := rfl
                  obtain ⟨e0, e1, e2, e3, e4, e5, e6, _⟩ := seven_cells hI.ease
                  go_wp2_with (go_at_call 34; refine (EaseOk_spec 0 0 0 0 0 0 0 _).mono ?_; rintro e w2 ⟨rfl, hb2⟩; have hJ := hI.call hb2; obtain ⟨r0, r1, r2, r3, r4, r5, r6, f0, f1, f2, f3, f4, f5, f6⟩ := seven_cells hJ.ans)
                  obtain ⟨c0, c1, c2, c3, c4, c5, c6, _⟩ := seven_cells (put7_blk hJ.ans (.int .i64 0) (.int .i64 0) (.int .i64 0) (.int .i64 0) (.int .i64 0) (.int .i64 0) (.int .i64 0))
                  unfold put7 at c0 c1 c2 c3 c4 c5 c6
                  exact bodyPost_ret (v := .tuple #[easeV (easeOf s), .bool (isEase s)]) (by rw [HR.out.1, HR.out.2]; simp only [results, Tryd.results11]; simp [go_sem, c0, c1, c2, c3, c4, c5, c6, easeV, Es.zero]) rfl ⟨rfl, put7_below hJ.below hJ.hr (.int .i64 0) (.int .i64 0) (.int .i64 0) (.int .i64 0) (.int .i64 0) (.int .i64 0) (.int .i64 0)⟩

end Go.Proofs.YtmaagcmbofedhaaDoor.B4
