/- Chapter 10 of the reference: l5Is; l10ReadPart. -/
import Derived.Test.YtliihnkonakacaaGreatDoorPut10
import Derived.Test.YtliihnkonakacaaGreatDoorDraw10
import Derived.Test.YtliihnkonakacaaGreatDoorFree10b
import Derived.Test.YtliihnkonakacaaGreatDoorBase10c
import Derived.Test.YtliihnkonakacaaGreatDoorImp5f
namespace Go.Proofs.YtliihnkonakacaaGreatDoor.B10
open Go.Proofs.YtliihnkonakacaaGreatDoor.P1 Go.Proofs.YtliihnkonakacaaGreatDoor.B1 Go.Proofs.YtliihnkonakacaaGreatDoor.B2 Go.Proofs.YtliihnkonakacaaGreatDoor.T1 Go.Proofs.YtliihnkonakacaaGreatDoor.BT Go.Proofs.YtliihnkonakacaaGreatDoor.P5 Go.Proofs.YtliihnkonakacaaGreatDoor.P6 Go.Proofs.YtliihnkonakacaaGreatDoor.P9 Go.Proofs.YtliihnkonakacaaGreatDoor.B5 Go.Proofs.YtliihnkonakacaaGreatDoor.B6 Go.Proofs.YtliihnkonakacaaGreatDoor.D1 Go.Proofs.YtliihnkonakacaaGreatDoor.W8 Go.Proofs.YtliihnkonakacaaGreatDoor.RC Go.Proofs.YtliihnkonakacaaGreatDoor.RI Go.Proofs.YtliihnkonakacaaGreatDoor.P10
open Go.ChangeShapes Go.WideShapes Go.ChangeAt Go.RowKit
set_option linter.unusedVariables false

set_option maxRecDepth 20000 in
set_option maxHeartbeats 2000000 in
theorem Is5_spec (x : Tok) (c : UInt8) (w : World) : Calls Tryz.prog 101 #[.agg #[.int .i64 x.k, .string ⟨x.t.toArray⟩, .int .i64 x.n], .string ⟨#[c]⟩] w (Ans (.bool (signIs x c)) w) := by
  unfold signIs
  cases hk : (x.k == 6) <;> cases ht : (x.t == [c]) <;>
  · go_enter Tryz.func101, Tryz.ntmps101
    go_wp2_with fail
    go_ret
    exact ⟨rfl, (Below.refl _ _).alloc (Nat.le_refl _) _⟩

/-- What l10ReadPart keeps while it reads. -/
structure RpB (w : World) (bp br : Nat) (p : Pt) (u : Value) (W : World) : Prop where
  blk : LBlk W bp [.string ⟨p.tag.toArray⟩, .string ⟨p.id.toArray⟩, u, .bool p.near]
  res : LBlk W br [.string ⟨#[]⟩, .string ⟨#[]⟩, .slice none 0 0, .bool false]
  bs : Words W u (bp + 1) p.bs
  b : Below w.heap.size w W
  lr : w.heap.size ≤ br
  lt : br < bp

theorem words_far {W : World} {u : Value} {B b : Nat} {ss : List (List UInt8)} (h : Words W u B ss) (hb : b < B) : some b ≠ u.ownBlock := by
  intro e
  have := (World.ownsRow.lt h b e.symm).1
  omega

theorem RpB.cell {w W : World} {bp br i : Nat} {p p' : Pt} {u u' v : Value} (h : RpB w bp br p u W) (hi : i < 4) (e : [.string ⟨p.tag.toArray⟩, .string ⟨p.id.toArray⟩, u, .bool p.near].set i v = [.string ⟨p'.tag.toArray⟩, .string ⟨p'.id.toArray⟩, u', .bool p'.near]) (hb : Words W u' (bp + 1) p'.bs) : RpB w bp br p' u' (W.setCell ⟨bp, i, none⟩ v) :=
  have ho := (Only.refl bp W).setCell (p := ⟨bp, i, none⟩) rfl v
  ⟨by rw [← e]; exact h.blk.set i v (by simpa using hi), h.res.only ho (Nat.ne_of_lt h.lt), own_otherA hb ho (words_far hb (Nat.lt_succ_self _)), h.b.setCell (p := ⟨bp, i, none⟩) (by have := h.lr; have := h.lt; show w.heap.size ≤ bp; omega) _, h.lr, h.lt⟩

theorem RpB.tag {w W : World} {bp br : Nat} {p : Pt} {u : Value} (h : RpB w bp br p u W) (s : List UInt8) : RpB w bp br { p with tag := s } u (W.setCell ⟨bp, 0, none⟩ (.string ⟨s.toArray⟩)) := h.cell (by decide) rfl h.bs

theorem RpB.ident {w W : World} {bp br : Nat} {p : Pt} {u : Value} (h : RpB w bp br p u W) (s : List UInt8) : RpB w bp br { p with id := s } u (W.setCell ⟨bp, 1, none⟩ (.string ⟨s.toArray⟩)) := h.cell (by decide) rfl h.bs

theorem RpB.badge {w W : World} {bp br : Nat} {p : Pt} {u u' : Value} (h : RpB w bp br p u W) {bs : List (List UInt8)} (hb : Words W u' (bp + 1) bs) : RpB w bp br { p with bs := bs } u' (W.setCell ⟨bp, 2, none⟩ u') := h.cell (by decide) rfl hb

theorem RpB.on {w W W' : World} {bp br : Nat} {p : Pt} {u : Value} (h : RpB w bp br p u W) (hb : Below W.heap.size W W') : RpB w bp br p u W' :=
  ⟨h.blk.below hb, h.res.below hb, own_below h.bs hb, h.b.trans (hb.mono h.b.size), h.lr, h.lt⟩

theorem RpB.drew {w W : World} {bp br : Nat} {p : Pt} {u : Value} (h : RpB w bp br p u W) : RpB w bp br p u W.drew := h.on ⟨rfl, rfl, rfl, Nat.le_refl _, fun _ _ => rfl⟩

/-- What a part's reading answers. -/
def Rp (w : World) (ts : List Tok) (at_ : Nat) (e : Ending) (w' : World) : Prop :=
  ∃ p u end_, e = .returned (.tuple #[ptV ⟨p, u⟩, .int .i64 ((end_ : Nat) : Int)]) ∧ Words w' u w.heap.size p.bs ∧ Below w.heap.size w w' ∧ p.near = false ∧
    match marksR ⟨tagOf (ts.drop at_), [], [], false⟩ (restOf (ts.drop at_)) with
    | none => end_ = at_
    | some (q, r) => p = q ∧ end_ ≤ ts.length ∧ r = ts.drop end_

theorem marks_more (p : Pt) (a b : Tok) (r : List Tok) : marksR p (a :: b :: r) = if b.k = 1 ∧ (signIs a 46 = true ∨ signIs a 61 = true) then (if signIs a 46 = true then marksR { p with bs := put b.t p.bs } r else if p.id ≠ [] then none else marksR { p with id := b.t } r) else some (p, a :: b :: r) := by
  rw [marksR]

theorem marks_few (p : Pt) {l : List Tok} (h : l.length ≤ 1) : marksR p l = some (p, l) := by
  rcases l with _ | ⟨a, _ | ⟨b, r⟩⟩
  · rfl
  · rfl
  · simp at h

theorem drop_two {ts : List Tok} {j : Nat} {x y : Tok} (hx : ts[j]? = some x) (hy : ts[j + 1]? = some y) : ts.drop j = x :: y :: ts.drop (j + 2) := by
  obtain ⟨h1, e1⟩ := List.getElem?_eq_some_iff.1 hx
  obtain ⟨h2, e2⟩ := List.getElem?_eq_some_iff.1 hy
  rw [List.drop_eq_getElem_cons h1, List.drop_eq_getElem_cons h2, e1, e2]

theorem only_b {w W W' : World} {b : Nat} (h : Below w.heap.size w W) (ho : Only b W W') (hb : w.heap.size ≤ b) : Below w.heap.size w W' := h.trans (ho.below hb h.size)

/-- The end: what was read goes into the result's cell. -/
theorem RpB.done {w W : World} {bp br : Nat} {p : Pt} {u : Value} (h : RpB w bp br p u W) : ∃ W', (storeVar 37 ⟨br, 0, none⟩ (.agg #[.string ⟨p.tag.toArray⟩, .string ⟨p.id.toArray⟩, u, .bool p.near])).run Tryz.prog W = .ok () W' ∧ (loadVar 37 ⟨br, 0, none⟩).run Tryz.prog W' = .ok (ptV ⟨p, u⟩) W' ∧ Words W' u w.heap.size p.bs ∧ Below w.heap.size w W' := by
  obtain ⟨W', hst, hl, ho, _⟩ := store_blk (P := Tryz.prog) (ty := 37) (vs := ptL ⟨p, u⟩) h.res pt_wide rfl (ptL_one (x := ⟨p, u⟩) (Words.slc h.bs))
  exact ⟨W', hst, load_blk hl pt_wide, row_base (own_otherA h.bs ho (words_far h.bs (Nat.lt_succ_of_lt h.lt))) (by have := h.lr; have := h.lt; omega), only_b h.b ho h.lr⟩

theorem rpB_new (w : World) : RpB w (w.heap.size + 1) w.heap.size Pt.zero (.slice none 0 0) ((w.alloc (.cells #[.string ⟨#[]⟩, .string ⟨#[]⟩, .slice none 0 0, .bool false] 37)).alloc (.cells #[.string ⟨#[]⟩, .string ⟨#[]⟩, .slice none 0 0, .bool false] 37)) := by
  have h1 := LBlk.new (w.alloc (.cells #[.string ⟨#[]⟩, .string ⟨#[]⟩, .slice none 0 0, .bool false] 37)) [.string ⟨#[]⟩, .string ⟨#[]⟩, .slice none 0 0, .bool false] 37
  rw [World.size_alloc] at h1
  exact ⟨h1, (LBlk.new w [.string ⟨#[]⟩, .string ⟨#[]⟩, .slice none 0 0, .bool false] 37).alloc _, World.ownsRow_nil _ _ _ _, ((Below.refl _ _).alloc (Nat.le_refl _) _).alloc (by simp) _, Nat.le_refl _, Nat.lt_succ_self _⟩

/-- What holds in the midst of region 8: behind its store the part has the badge more. -/
def R8 (w : World) (bp br : Nat) (q : Pt) (u : Value) (s : List UInt8) (L : Array Bool) (W : World) : Prop :=
  if L[10]?.getD false = true then ∃ r, RpB w bp br { q with bs := put s q.bs } r W else RpB w bp br q u W

theorem R8.step {w : World} {bp br : Nat} {q : Pt} {u : Value} {s : List UInt8} {L : Array Bool} {W : World} (h : R8 w bp br q u s L W) {i : Nat} (hi : i ≠ 10) : R8 w bp br q u s (L.setIfInBounds i true) W := by
  unfold R8 at h ⊢
  rw [Array.getElem?_setIfInBounds_ne hi]
  exact h

theorem R8.ahead {w : World} {bp br : Nat} {q : Pt} {u : Value} {s : List UInt8} {L : Array Bool} {W : World} (h : R8 w bp br q u s L W) (hl : L[10]?.getD false = false) : RpB w bp br q u W := by
  unfold R8 at h
  rw [hl] at h
  exact h

theorem R8.b {w : World} {bp br : Nat} {q : Pt} {u : Value} {s : List UInt8} {L : Array Bool} {W : World} (h : R8 w bp br q u s L W) : Below w.heap.size w W := by
  unfold R8 at h
  split at h
  · obtain ⟨r, h⟩ := h; exact h.b
  · exact h.b

theorem put_le (s : List UInt8) : ∀ l : List (List UInt8), (put s l).length ≤ l.length + 1
  | [] => by simp [put]
  | y :: r => by
    have := put_le s r
    unfold put
    split
    · simp; omega
    · split
      · simp
      · simp

def f8 (bp g off j n cap : Nat) (u : Value) (q : Pt) (y : Tok) (i : Nat) (v : Value) (W : World) : Prop := match i with
  | 0 => v = .pointer (some ⟨bp, 2, none⟩)
  | 1 => v = u
  | 2 => v = .slice (some ⟨g, off, none⟩) n cap
  | 3 => v = .int .i64 (j : Int)
  | 4 => v = .int .i64 ((j : Int) + 1)
  | 5 => v = .pointer (some ⟨g, off + (j + 1) * 3, none⟩)
  | 6 => v = .pointer (some ⟨g, off + (j + 1) * 3 + 1, none⟩)
  | 7 => v = .string ⟨y.t.toArray⟩
  | 8 => Words W v (bp + 1) (put y.t q.bs)
  | 9 => v = .pointer (some ⟨bp, 2, none⟩)
  | _ => True

theorem f8_keep {bp g off j n cap : Nat} {u : Value} {q : Pt} {y : Tok} {W W' : World} (hk : ∀ v, Words W v (bp + 1) (put y.t q.bs) → Words W' v (bp + 1) (put y.t q.bs)) (i : Nat) (v : Value) (h : f8 bp g off j n cap u q y i v W) : f8 bp g off j n cap u q y i v W' := by
  unfold f8 at h ⊢
  split <;> first | exact h | exact hk _ h | trivial

theorem tag_some {ts : List Tok} {j : Nat} {x : Tok} (hx : ts[j]? = some x) (hk : x.k = 1) : tagOf (ts.drop j) = x.t ∧ restOf (ts.drop j) = ts.drop (j + 1) := by
  obtain ⟨h1, e1⟩ := List.getElem?_eq_some_iff.1 hx
  rw [List.drop_eq_getElem_cons h1, e1]
  unfold tagOf restOf
  simp [hk]

theorem tag_none {ts : List Tok} {j : Nat} (h : ∀ x, ts[j]? = some x → x.k ≠ 1) : tagOf (ts.drop j) = [] ∧ restOf (ts.drop j) = ts.drop j := by
  by_cases hj : j < ts.length
  · have hk := h _ (List.getElem?_eq_getElem hj)
    rw [List.drop_eq_getElem_cons hj]
    unfold tagOf restOf
    simp [hk]
  · rw [List.drop_of_length_le (by omega)]
    exact ⟨rfl, rfl⟩

set_option maxRecDepth 20000 in
set_option maxHeartbeats 8000000 in
theorem ReadPart_spec (ts : List Tok) (v : Value) (at_ : Nat) (w : World) (h : TokSlc w v ts) (hs : ts.length ≤ 2000000) (ha : at_ ≤ ts.length) :
    Calls Tryz.prog 102 #[v, .int .i64 (at_ : Int)] w (Rp w ts at_) := by
  obtain ⟨a, cap, rfl, hnc, hcap, HA0⟩ := h.form
  obtain ⟨n, hn⟩ : ∃ n, ts.length = n := ⟨_, rfl⟩
  rw [hn] at hnc hs ha ⊢
  have HN := Lib.hid hn
  have HR := Lib.hid HA0
  have hnc' : (n : Int) ≤ (cap : Int) := by omega
  have hs' : (n : Int) ≤ 2000000 := by omega
  have ha' : (at_ : Int) ≤ (n : Int) := by omega
  obtain ⟨M, eM⟩ : ∃ M, marksR ⟨tagOf (ts.drop at_), [], [], false⟩ (restOf (ts.drop at_)) = M := ⟨_, rfl⟩
  have HM := Lib.hid eM
  have hA1 : RpB w (w.heap.size + 1) w.heap.size Pt.zero (.slice none 0 0) ((w.alloc (.cells #[.string ⟨#[]⟩, .string ⟨#[]⟩, .slice none 0 0, .bool false] 37)).alloc (.cells #[.string ⟨#[]⟩, .string ⟨#[]⟩, .slice none 0 0, .bool false] 37)) := rpB_new w
  clear hn h HA0 hcap
  go_enter Tryz.func102, Tryz.ntmps102
  go_upto_region 3 with (fail)
  generalize (w.alloc (.cells #[.string ⟨#[]⟩, .string ⟨#[]⟩, .slice none 0 0, .bool false] 37)).alloc (.cells #[.string ⟨#[]⟩, .string ⟨#[]⟩, .slice none 0 0, .bool false] 37) = W2 at hA1 ⊢
  generalize w.heap.size + 1 = bp at hA1 ⊢
  generalize w.heap.size = br at hA1 ⊢
  go_cut [21] from 10 to 89 (fun s21 wx => ∃ q : Bool, s21 = .bool q ∧ (q = true → ∃ x, ts[at_]? = some x ∧ x.k = 1) ∧ (q = false → ∀ x, ts[at_]? = some x → x.k ≠ 1) ∧ wx = W2)
  case first =>
    by_cases hlt : at_ < n
    · obtain ⟨x, hx⟩ : ∃ x, ts[at_]? = some x := ⟨_, List.getElem?_eq_getElem (by rw [HN.out]; exact hlt)⟩
      have hlt' : (at_ : Int) < (n : Int) := by omega
      have i0' : (0 : Int) ≤ (at_ : Int) := by omega
      obtain ⟨g, off, rfl, hat⟩ := HR.out (by intro e0; rw [e0] at hx; cases hx)
      obtain ⟨c0, c1, c2⟩ := three_at (hat.on hA1.b) hx
      have HX := Lib.hid hx
      clear hx hat hlt
      by_cases hk : x.k = 1
      · have hk' : (x.k == 1) = true := by simp [hk]
        have HK := Lib.hid hk
        clear hk
        go_wp2_with fail
        go_meet
        exact ⟨true, rfl, fun _ => ⟨x, HX.out, HK.out⟩, (fun h => by cases h), rfl⟩
      · have hk' : (x.k == 1) = false := by simp [hk]
        have HK := Lib.hid hk
        clear hk
        go_wp2_with fail
        go_meet
        exact ⟨false, rfl, (fun h => by cases h), fun _ y hy => by rw [HX.out] at hy; cases hy; exact HK.out, rfl⟩
    · have hge : ts.length ≤ at_ := by rw [HN.out]; omega
      have HG := Lib.hid hge
      clear hge
      go_wp2_with fail
      go_meet
      exact ⟨false, rfl, (fun h => by cases h), fun _ y hy => by (have := (List.getElem?_eq_some_iff.1 hy).1; have := HG.out; omega), rfl⟩
  case rest =>
    obtain ⟨q, rfl, hq1, hq0, rfl⟩ := hcut
    go_upto_if 21 with (fail)
    go_cut [1] from 10 to 89 (fun s1 wx => ∃ (p : Pt) (j : Nat), s1 = .int .i64 (j : Int) ∧ j ≤ n ∧ RpB w bp br p (.slice none 0 0) wx ∧ p.near = false ∧ p.bs = [] ∧ M = marksR p (ts.drop j))
    case first =>
      cases q
      · have hm : M = marksR Pt.zero (ts.drop at_) := by
          obtain ⟨e1, e2⟩ := tag_none (hq0 rfl)
          rw [← HM.out, e1, e2]; rfl
        have HMM := Lib.hid hm
        clear hq0 hq1 hm
        go_wp2_with fail
        go_meet
        exact ⟨Pt.zero, at_, rfl, ha, hA1, rfl, rfl, HMM.out⟩
      · obtain ⟨x, hx, hk⟩ := hq1 rfl
        have hlt : at_ < n := by have := (List.getElem?_eq_some_iff.1 hx).1; rw [HN.out] at this; exact this
        have hm : M = marksR ⟨x.t, [], [], false⟩ (ts.drop (at_ + 1)) := by
          obtain ⟨e1, e2⟩ := tag_some hx hk
          rw [← HM.out, e1, e2]
        have HMM := Lib.hid hm
        have hlt' : (at_ : Int) < (n : Int) := by omega
        have i0' : (0 : Int) ≤ (at_ : Int) := by omega
        obtain ⟨g, off, rfl, hat⟩ := HR.out (by intro e0; rw [e0] at hx; cases hx)
        obtain ⟨c0, c1, c2⟩ := three_at (hat.on hA1.b) hx
        obtain ⟨d0, f0⟩ := hA1.blk.2 0 _ rfl
        have hA2 := hA1.tag x.t
        clear hq0 hq1 hm hx hk hat hA1 hlt
        go_wp2_with fail
        go_meet
        exact ⟨⟨x.t, [], [], false⟩, at_ + 1, by go_num, by omega, hA2, rfl, rfl, HMM.out⟩
    case rest =>
      obtain ⟨p, j0, rfl, hj0, hA3, hnr, hbs0, hm⟩ := hcut
      have HM3 := Lib.hid hm
      clear hA1 hm hq0 hq1
      go_wp2_with fail
      go_loopg [1] (n - j0) (fun kx s1 wr => ∃ (j : Nat) (q : Pt) (u : Value), s1 = .int .i64 (j : Int) ∧ j ≤ n ∧ kx = n - j ∧ 2 * q.bs.length ≤ j ∧ RpB w bp br q u wr ∧ q.near = false ∧ Hid (M = marksR q (ts.drop j)))
      case atStart => exact ⟨j0, p, _, rfl, hj0, rfl, by rw [hbs0]; simp, hA3, hnr, HM3⟩
      case round =>
        obtain ⟨j, q, u, rfl, hj, hk, hbl, hA, hnq, HMj⟩ := hrel
        have HBL := Lib.hid hbl
        clear hbl
        have HNQ := Lib.hid hnq
        clear hA3 hnq
        by_cases hlt : j + 1 < n
        · obtain ⟨x, hx⟩ : ∃ x, ts[j]? = some x := ⟨_, List.getElem?_eq_getElem (by rw [HN.out]; omega)⟩
          obtain ⟨y, hy⟩ : ∃ y, ts[j + 1]? = some y := ⟨_, List.getElem?_eq_getElem (by rw [HN.out]; omega)⟩
          have hdr := drop_two hx hy
          have HMR := Lib.hid (marks_more q x y (ts.drop (j + 2)))
          rw [← hdr] at HMR
          have j1 : (j : Int) + 1 < (n : Int) := by omega
          have j2 : (j : Int) < (n : Int) := by omega
          have i0' : (0 : Int) ≤ (j : Int) := by omega
          have i1' : (0 : Int) ≤ (j : Int) + 1 := by omega
          have hwj : IntKind.i64.wrap ((j : Int) + 1) = (j : Int) + 1 := by rw [IntKind.wrap_i64]; omega
          obtain ⟨g, off, rfl, hat⟩ := HR.out (by intro e0; rw [e0] at hx; cases hx)
          have HX := Lib.hid (fun W (hb : Below w.heap.size w W) => three_at (hat.on hb) hx)
          have HY := Lib.hid (fun W (hb : Below w.heap.size w W) => three_at (hat.on hb) hy)
          obtain ⟨c0, c1, c2⟩ := HX.out _ hA.b
          obtain ⟨e0, e1, e2⟩ := HY.out _ hA.b
          clear hx hy hdr hat hlt
          by_cases hk1 : y.k = 1
          · have hk' : (y.k == 1) = true := by simp [hk1]
            cases hd : signIs x 46
            · have HS1 := Lib.hid (fun W => (by have := Is5_spec x 46 W; rw [hd] at this; exact this : Calls Tryz.prog 101 #[.agg #[.int .i64 x.k, .string ⟨x.t.toArray⟩, .int .i64 x.n], .string ⟨#[46]⟩] W (Ans (.bool false) W)))
              cases he : signIs x 61
              · have HS2 := Lib.hid (fun W => (by have := Is5_spec x 61 W; rw [he] at this; exact this : Calls Tryz.prog 101 #[.agg #[.int .i64 x.k, .string ⟨x.t.toArray⟩, .int .i64 x.n], .string ⟨#[61]⟩] W (Ans (.bool false) W)))
                have HME := Lib.hid (show marksR q (ts.drop j) = some (q, ts.drop j) by rw [HMR.out, if_neg (fun h => by rcases h.2 with h | h; all_goals (first | (rw [hd] at h; cases h) | (rw [he] at h; cases h)))])
                clear hk1 hd he
                go_wp2_with fail
                refine (HS1.out _).mono ?_
                rintro e w3 ⟨rfl, g3⟩
                have hA3 := hA.on g3
                obtain ⟨x3a, x3b, x3c⟩ := HX.out _ hA3.b
                obtain ⟨y3a, y3b, y3c⟩ := HY.out _ hA3.b
                go_wp2_with fail
                refine (HS2.out _).mono ?_
                rintro e w4 ⟨rfl, g4⟩
                have hA4 := hA3.on g4
                obtain ⟨w9, hst9, hld9, hw9, hb9⟩ := hA4.done
                have HST9 := Lib.hid hst9
                have HLD9 := Lib.hid (show (loadVar 37 ⟨bp, 0, none⟩).run Tryz.prog w4 = .ok (.agg #[.string ⟨q.tag.toArray⟩, .string ⟨q.id.toArray⟩, u, .bool q.near]) w4 from load_blk hA4.blk pt_wide)
                clear hst9
                go_wp2_with (first | ((with_reducible refine wp_load_at HLD9.out ?_ ?_); exact And.intro rfl (And.intro rfl rfl)) | ((with_reducible refine wp_store_at HST9.out ?_ ?_); exact And.intro rfl (And.intro rfl (And.intro rfl rfl))))
                exact bodyPost_ret (results_wide2 hld9 rfl rfl) rfl ⟨q, u, j, rfl, hw9, hb9, HNQ.out, by rw [HM.out, HMj.out, HME.out]; exact ⟨rfl, by rw [HN.out]; exact hj, rfl⟩⟩
              · have HS2 := Lib.hid (fun W => (by have := Is5_spec x 61 W; rw [he] at this; exact this : Calls Tryz.prog 101 #[.agg #[.int .i64 x.k, .string ⟨x.t.toArray⟩, .int .i64 x.n], .string ⟨#[61]⟩] W (Ans (.bool true) W)))
                by_cases hid : q.id = []
                · have hid' : (q.id == []) = true := by simp [hid]
                  have HME := Lib.hid (show marksR q (ts.drop j) = marksR { q with id := y.t } (ts.drop (j + 2)) by rw [HMR.out, if_pos ⟨hk1, Or.inr he⟩, if_neg (by rw [hd]; decide), if_neg (by rw [hid]; simp)])
                  clear hk1 hd he hid
                  go_wp2_with fail
                  refine (HS1.out _).mono ?_
                  rintro e w3 ⟨rfl, g3⟩
                  have hA3 := hA.on g3
                  obtain ⟨x3a, x3b, x3c⟩ := HX.out _ hA3.b
                  obtain ⟨y3a, y3b, y3c⟩ := HY.out _ hA3.b
                  go_wp2_with fail
                  refine (HS2.out _).mono ?_
                  rintro e w4 ⟨rfl, g4⟩
                  have hA4 := hA3.on g4
                  obtain ⟨x4a, x4b, x4c⟩ := HX.out _ hA4.b
                  obtain ⟨y4a, y4b, y4c⟩ := HY.out _ hA4.b
                  go_wp2_with fail
                  refine (HS1.out _).mono ?_
                  rintro e w5 ⟨rfl, g5⟩
                  have hA5 := hA4.on g5
                  obtain ⟨x5a, x5b, x5c⟩ := HX.out _ hA5.b
                  obtain ⟨y5a, y5b, y5c⟩ := HY.out _ hA5.b
                  obtain ⟨d1, f1⟩ := hA5.blk.2 1 _ rfl
                  have hA6 := hA5.ident y.t
                  go_wp2_with fail
                  go_roundg (n - (j + 2))
                  case measure => omega
                  case rel => exact ⟨j + 2, { q with id := y.t }, u, by go_num, by omega, rfl, by have := HBL.out; show 2 * q.bs.length ≤ j + 2; omega, hA6, HNQ.out, Lib.hid (HMj.out.trans HME.out)⟩
                · have hid' : (q.id == []) = false := by simp [hid]
                  have HME := Lib.hid (show marksR q (ts.drop j) = none by rw [HMR.out, if_pos ⟨hk1, Or.inr he⟩, if_neg (by rw [hd]; decide), if_pos hid])
                  clear hk1 hd he hid
                  go_wp2_with fail
                  refine (HS1.out _).mono ?_
                  rintro e w3 ⟨rfl, g3⟩
                  have hA3 := hA.on g3
                  obtain ⟨x3a, x3b, x3c⟩ := HX.out _ hA3.b
                  obtain ⟨y3a, y3b, y3c⟩ := HY.out _ hA3.b
                  go_wp2_with fail
                  refine (HS2.out _).mono ?_
                  rintro e w4 ⟨rfl, g4⟩
                  have hA4 := hA3.on g4
                  obtain ⟨x4a, x4b, x4c⟩ := HX.out _ hA4.b
                  obtain ⟨y4a, y4b, y4c⟩ := HY.out _ hA4.b
                  go_wp2_with fail
                  refine (HS1.out _).mono ?_
                  rintro e w5 ⟨rfl, g5⟩
                  have hA5 := hA4.on g5
                  obtain ⟨x5a, x5b, x5c⟩ := HX.out _ hA5.b
                  obtain ⟨y5a, y5b, y5c⟩ := HY.out _ hA5.b
                  obtain ⟨d1, f1⟩ := hA5.blk.2 1 _ rfl
                  obtain ⟨w9, hst9, hld9, hw9, hb9⟩ := hA5.done
                  have HST9 := Lib.hid hst9
                  have HLD9 := Lib.hid (show (loadVar 37 ⟨bp, 0, none⟩).run Tryz.prog w5 = .ok (.agg #[.string ⟨q.tag.toArray⟩, .string ⟨q.id.toArray⟩, u, .bool q.near]) w5 from load_blk hA5.blk pt_wide)
                  clear hst9
                  go_wp2_with (first | ((with_reducible refine wp_load_at HLD9.out ?_ ?_); exact And.intro rfl (And.intro rfl rfl)) | ((with_reducible refine wp_store_at HST9.out ?_ ?_); exact And.intro rfl (And.intro rfl (And.intro rfl rfl))))
                  exact bodyPost_ret (results_wide2 hld9 rfl rfl) rfl ⟨q, u, at_, rfl, hw9, hb9, HNQ.out, by rw [HM.out, HMj.out, HME.out]⟩
            · have HS1 := Lib.hid (fun W => (by have := Is5_spec x 46 W; rw [hd] at this; exact this : Calls Tryz.prog 101 #[.agg #[.int .i64 x.k, .string ⟨x.t.toArray⟩, .int .i64 x.n], .string ⟨#[46]⟩] W (Ans (.bool true) W)))
              have HME := Lib.hid (show marksR q (ts.drop j) = marksR { q with bs := put y.t q.bs } (ts.drop (j + 2)) by rw [HMR.out, if_pos ⟨hk1, Or.inl hd⟩, if_pos hd])
              clear hk1 hd
              go_wp2_with fail
              refine (HS1.out _).mono ?_
              rintro e w3 ⟨rfl, g3⟩
              have hA3 := hA.on g3
              obtain ⟨x3a, x3b, x3c⟩ := HX.out _ hA3.b
              obtain ⟨y3a, y3b, y3c⟩ := HY.out _ hA3.b
              go_wp2_with fail
              refine (HS1.out _).mono ?_
              rintro e w4 ⟨rfl, g4⟩
              have hA4 := hA3.on g4
              obtain ⟨x4a, x4b, x4c⟩ := HX.out _ hA4.b
              obtain ⟨y4a, y4b, y4c⟩ := HY.out _ hA4.b
              go_upto_region 8 with (fail)
              skip
              have hq1 : q.bs.length ≤ 1000000 := by have := HBL.out; omega
              have HQ1 := Lib.hid hq1
              refine region_free3 (by kernel_rfl) (f8 bp g off j n cap u q y) (R8 w bp br q u y.t) (none :: none :: none :: none :: none :: none :: none :: none :: none :: none :: none :: none :: none :: none :: none :: none :: none :: none :: none :: none :: none :: none :: none :: none :: none :: none :: none :: none :: none :: none :: none :: none :: none :: none :: none :: none :: none :: none :: none :: none :: none :: none :: none :: none :: none :: none :: none :: none :: none :: none :: none :: none :: none :: none :: none :: none :: none :: none :: none :: none :: none :: none :: none :: some 0 :: some 1 :: some 2 :: some 3 :: some 4 :: some 5 :: some 6 :: some 7 :: some 8 :: some 9 :: none :: none :: none :: none :: none :: none :: none :: none :: none :: none :: none :: none :: none :: none :: none :: none :: []) (by kernel_rfl) (by kernel_rfl) (by unfold R8; simp; exact hA4.drew) ?_ ?_
              · intro i hi L A W hB hLs hLi hbeh hst hun hA'
                have hi2 : i < 11 := hi
                have hcase : i = 0 ∨ i = 1 ∨ i = 2 ∨ i = 3 ∨ i = 4 ∨ i = 5 ∨ i = 6 ∨ i = 7 ∨ i = 8 ∨ i = 9 ∨ i = 10 := by omega
                clear hi hi2
                rcases hcase with rfl | rfl | rfl | rfl | rfl | rfl | rfl | rfl | rfl | rfl | rfl
                · have s6 : A.tmps[6]?.getD undef = .pointer (some ⟨bp, 0, none⟩) := (hst 6 (by kernel_rfl)).trans rfl
                  exact wpOp_of rfl rfl (wp_value (v := .pointer (some ⟨bp, 2, none⟩)) (W' := W) (by simp [execOp, Act.eval, s6, go_sem]) ⟨_, rfl, hB.step (by decide), rfl, fun _ _ _ h => h⟩)
                · have s63 : A.tmps[63]?.getD undef = .pointer (some ⟨bp, 2, none⟩) := hA' 0 63 (by kernel_rfl) (by kernel_rfl)
                  have hR := hB.ahead (hbeh 10 (by kernel_rfl))
                  obtain ⟨d2, f2⟩ := hR.blk.2 2 _ rfl
                  obtain ⟨au, cu, eu⟩ := words_shapeA hR.bs
                  exact wpOp_of rfl rfl (wp_value (v := u) (W' := W) (by simp [execOp, Act.eval, s63, go_sem, d2]) ⟨_, rfl, hB.step (by decide), rfl, fun _ _ _ h => h⟩)
                · have s0 : A.tmps[0]?.getD undef = .slice (some ⟨g, off, none⟩) n cap := (hst 0 (by kernel_rfl)).trans rfl
                  exact wpOp_of rfl rfl (wp_value (v := .slice (some ⟨g, off, none⟩) n cap) (W' := W) (by simp [execOp, Act.eval, s0, go_sem]) ⟨_, rfl, hB.step (by decide), rfl, fun _ _ _ h => h⟩)
                · have s1 : A.tmps[1]?.getD undef = .int .i64 (j : Int) := (hst 1 (by kernel_rfl)).trans rfl
                  exact wpOp_of rfl rfl (wp_value (v := .int .i64 (j : Int)) (W' := W) (by simp [execOp, Act.eval, s1, go_sem]) ⟨_, rfl, hB.step (by decide), rfl, fun _ _ _ h => h⟩)
                · have s66 : A.tmps[66]?.getD undef = .int .i64 (j : Int) := hA' 3 66 (by kernel_rfl) (by kernel_rfl)
                  exact wpOp_of rfl rfl (wp_value (v := .int .i64 ((j : Int) + 1)) (W' := W) (by simp [execOp, Act.eval, s66, go_sem, hwj]) ⟨_, rfl, hB.step (by decide), rfl, fun _ _ _ h => h⟩)
                · have s65 : A.tmps[65]?.getD undef = .slice (some ⟨g, off, none⟩) n cap := hA' 2 65 (by kernel_rfl) (by kernel_rfl)
                  have s67 : A.tmps[67]?.getD undef = .int .i64 ((j : Int) + 1) := hA' 4 67 (by kernel_rfl) (by kernel_rfl)
                  exact wpOp_of rfl rfl (wp_value (v := .pointer (some ⟨g, off + (j + 1) * 3, none⟩)) (W' := W) (by simp [execOp, Act.eval, s65, s67, go_sem, j1, i1']) ⟨_, rfl, hB.step (by decide), rfl, fun _ _ _ h => h⟩)
                · have s68 : A.tmps[68]?.getD undef = .pointer (some ⟨g, off + (j + 1) * 3, none⟩) := hA' 5 68 (by kernel_rfl) (by kernel_rfl)
                  exact wpOp_of rfl rfl (wp_value (v := .pointer (some ⟨g, off + (j + 1) * 3 + 1, none⟩)) (W' := W) (by simp [execOp, Act.eval, s68, go_sem]) ⟨_, rfl, hB.step (by decide), rfl, fun _ _ _ h => h⟩)
                · have s69 : A.tmps[69]?.getD undef = .pointer (some ⟨g, off + (j + 1) * 3 + 1, none⟩) := hA' 6 69 (by kernel_rfl) (by kernel_rfl)
                  obtain ⟨z0, z1, z2⟩ := HY.out _ hB.b
                  exact wpOp_of rfl rfl (wp_value (v := .string ⟨y.t.toArray⟩) (W' := W) (by simp [execOp, Act.eval, s69, go_sem, z1]) ⟨_, rfl, hB.step (by decide), rfl, fun _ _ _ h => h⟩)
                · have s64 : A.tmps[64]?.getD undef = u := hA' 1 64 (by kernel_rfl) (by kernel_rfl)
                  have s70 : A.tmps[70]?.getD undef = .string ⟨y.t.toArray⟩ := hA' 7 70 (by kernel_rfl) (by kernel_rfl)
                  have hR := hB.ahead (hbeh 10 (by kernel_rfl))
                  refine wpOp_of rfl rfl (wp_enter (f := 147) (args := #[u, .string ⟨y.t.toArray⟩]) (by simp [execOp, Act.eval, s64, s70, go_sem]) ?_)
                  refine (Put_spec y.t q.bs u (bp + 1) W hR.bs hR.blk.1 HQ1.out).mono ?_
                  rintro e w' ⟨r, rfl, hr, hb'⟩
                  exact ⟨_, rfl, _, rfl, by unfold R8; rw [Array.getElem?_setIfInBounds_ne (by decide), hbeh 10 (by kernel_rfl)]; exact hR.on hb', hr, fun i v _ h => f8_keep (fun v hv => own_below hv hb') i v h⟩
                · have s6 : A.tmps[6]?.getD undef = .pointer (some ⟨bp, 0, none⟩) := (hst 6 (by kernel_rfl)).trans rfl
                  exact wpOp_of rfl rfl (wp_value (v := .pointer (some ⟨bp, 2, none⟩)) (W' := W) (by simp [execOp, Act.eval, s6, go_sem]) ⟨_, rfl, hB.step (by decide), rfl, fun _ _ _ h => h⟩)
                · have s71 : Words W (A.tmps[71]?.getD undef) (bp + 1) (put y.t q.bs) := hA' 8 71 (by kernel_rfl) (by kernel_rfl)
                  have s72 : A.tmps[72]?.getD undef = .pointer (some ⟨bp, 2, none⟩) := hA' 9 72 (by kernel_rfl) (by kernel_rfl)
                  have hR := hB.ahead hLi
                  obtain ⟨d2, f2⟩ := hR.blk.2 2 _ rfl
                  obtain ⟨ar, cr, er⟩ := words_shapeA s71
                  obtain ⟨r, hr⟩ : ∃ r, A.tmps[71]?.getD undef = r := ⟨_, rfl⟩
                  rw [hr] at s71 er
                  have ho := (Only.refl bp W).setCell (p := ⟨bp, 2, none⟩) rfl r
                  refine wpOp_of rfl rfl (wp_stored (W' := W.setCell ⟨bp, 2, none⟩ r) (by rw [er] at hr ⊢; simp [execOp, Act.eval, hr, s72, go_sem, d2, f2]) ⟨undef, rfl, ?_, trivial, fun i v _ h => f8_keep (fun v hv => own_otherA hv ho (words_far hv (Nat.lt_succ_self _))) i v h⟩)
                  unfold R8
                  rw [if_pos (by rw [Array.getElem?_setIfInBounds_self_of_lt (by rw [hLs]; decide)]; rfl)]
                  exact ⟨r, hR.badge s71⟩
              intro L8 W8 vs hall hB8 hfs
              have hB8' : ∃ r, RpB w bp br { q with bs := put y.t q.bs } r W8 := by
                unfold R8 at hB8
                rw [if_pos (hall 10 (by decide))] at hB8
                exact hB8
              obtain ⟨r8, hR8⟩ := hB8'
              clear hfs hB8 hall
              simp only [RI.mergeL]
              go_wp2_with fail
              go_roundg (n - (j + 2))
              case measure => omega
              case rel => exact ⟨j + 2, { q with bs := put y.t q.bs }, r8, by go_num, by omega, rfl, by have := HBL.out; have := put_le y.t q.bs; show 2 * (put y.t q.bs).length ≤ j + 2; omega, hR8, HNQ.out, Lib.hid (HMj.out.trans HME.out)⟩
          · have hk' : (y.k == 1) = false := by simp [hk1]
            have HME := Lib.hid (show marksR q (ts.drop j) = some (q, ts.drop j) by rw [HMR.out, if_neg (fun h => hk1 h.1)])
            clear hk1
            obtain ⟨w9, hst9, hld9, hw9, hb9⟩ := hA.done
            have HST9 := Lib.hid hst9
            have HLD9 := Lib.hid (show (loadVar 37 ⟨bp, 0, none⟩).run Tryz.prog wr = .ok (.agg #[.string ⟨q.tag.toArray⟩, .string ⟨q.id.toArray⟩, u, .bool q.near]) wr from load_blk hA.blk pt_wide)
            clear hst9
            go_wp2_with (first | ((with_reducible refine wp_load_at HLD9.out ?_ ?_); exact And.intro rfl (And.intro rfl rfl)) | ((with_reducible refine wp_store_at HST9.out ?_ ?_); exact And.intro rfl (And.intro rfl (And.intro rfl rfl))))
            exact bodyPost_ret (results_wide2 hld9 rfl rfl) rfl ⟨q, u, j, rfl, hw9, hb9, HNQ.out, by rw [HM.out, HMj.out, HME.out]; exact ⟨rfl, by rw [HN.out]; exact hj, rfl⟩⟩
        · have HME := Lib.hid (show marksR q (ts.drop j) = some (q, ts.drop j) from marks_few q (by rw [List.length_drop, HN.out]; omega))
          have j1 : ¬ (j : Int) + 1 < (n : Int) := by omega
          have hwj : IntKind.i64.wrap ((j : Int) + 1) = (j : Int) + 1 := by rw [IntKind.wrap_i64]; omega
          clear hlt
          obtain ⟨w9, hst9, hld9, hw9, hb9⟩ := hA.done
          have HST9 := Lib.hid hst9
          have HLD9 := Lib.hid (show (loadVar 37 ⟨bp, 0, none⟩).run Tryz.prog wr = .ok (.agg #[.string ⟨q.tag.toArray⟩, .string ⟨q.id.toArray⟩, u, .bool q.near]) wr from load_blk hA.blk pt_wide)
          clear hst9
          go_wp2_with (first | ((with_reducible refine wp_load_at HLD9.out ?_ ?_); exact And.intro rfl (And.intro rfl rfl)) | ((with_reducible refine wp_store_at HST9.out ?_ ?_); exact And.intro rfl (And.intro rfl (And.intro rfl rfl))))
          exact bodyPost_ret (results_wide2 hld9 rfl rfl) rfl ⟨q, u, j, rfl, hw9, hb9, HNQ.out, by rw [HM.out, HMj.out, HME.out]; exact ⟨rfl, by rw [HN.out]; exact hj, rfl⟩⟩

end Go.Proofs.YtliihnkonakacaaGreatDoor.B10
