/- Chapter 10 of the program: readPart. -/
import Derived.Test.YtliihnkonakacaaGreatDoorMark10
import Derived.RangeFuncCalls
namespace Go.Proofs.YtliihnkonakacaaGreatDoor.B10
open Go.Proofs.YtliihnkonakacaaGreatDoor.P1 Go.Proofs.YtliihnkonakacaaGreatDoor.B1 Go.Proofs.YtliihnkonakacaaGreatDoor.B2 Go.Proofs.YtliihnkonakacaaGreatDoor.T1 Go.Proofs.YtliihnkonakacaaGreatDoor.BT Go.Proofs.YtliihnkonakacaaGreatDoor.P5 Go.Proofs.YtliihnkonakacaaGreatDoor.P6 Go.Proofs.YtliihnkonakacaaGreatDoor.P9 Go.Proofs.YtliihnkonakacaaGreatDoor.B5 Go.Proofs.YtliihnkonakacaaGreatDoor.B6 Go.Proofs.YtliihnkonakacaaGreatDoor.B9 Go.Proofs.YtliihnkonakacaaGreatDoor.D1 Go.Proofs.YtliihnkonakacaaGreatDoor.W8 Go.Proofs.YtliihnkonakacaaGreatDoor.RC Go.Proofs.YtliihnkonakacaaGreatDoor.RI Go.Proofs.YtliihnkonakacaaGreatDoor.P10
open Go.ChangeShapes Go.WideShapes Go.ChangeAt Go.RowKit Go.Shelf
set_option linter.unusedVariables false

attribute [local go_sem] Oper.semAt_some

/-- Mark by mark. -/
def marksF (o : Option Pt) (qs : List (List Tok)) : Option Pt := qs.foldl (fun o q => o.bind fun p => withMark p q) o

theorem marksF_none : ∀ (qs : List (List Tok)), marksF none qs = none
  | [] => rfl
  | q :: r => marksF_none r

theorem marksF_snoc (o : Option Pt) (qs : List (List Tok)) (q : List Tok) : marksF o (qs ++ [q]) = (marksF o qs).bind fun p => withMark p q := by
  unfold marksF
  rw [List.foldl_append]
  rfl

theorem marksF_is : ∀ (p : Pt) (ts : List Tok), marksF (some p) (chunks ts) = marksP p ts
  | _, [] => rfl
  | _, [_] => rfl
  | p, a :: b :: r => by
    show marksF (withMark p [a, b]) (chunks r) = match withMark p [a, b] with
      | some q => marksP q r
      | none => none
    cases withMark p [a, b] with
    | none => exact marksF_none _
    | some q => exact marksF_is q r

theorem marksF_take {p : Pt} {qs : List (List Tok)} (k : Nat) (h : marksF (some p) (qs.take k) = none) : marksF (some p) qs = none := by
  have e : marksF (some p) qs = marksF (marksF (some p) (qs.take k)) (qs.drop k) := by
    unfold marksF
    rw [← List.foldl_append, List.take_append_drop]
  rw [e, h]
  exact marksF_none _

/-- What a part's reading answers: the program's. -/
def PartIs (ts : List Tok) (w : World) (e : Ending) (w' : World) : Prop :=
  ∃ y, e = .returned (ptV y) ∧ y.p = readP ts ∧ Words w' y.u w.heap.size y.p.bs ∧ Below w.heap.size w w'

/-- A block of cells lies as it lay where what turns is no cells. -/
theorem lblk_kept {W W' : World} {row : Option Nat} {b : Nat} {vs : List Value} (h : LBlk W b vs) (hg : W.grownBy W' row) (hr : ∀ r, row = some r → ∃ o : Obj, W.heap[r]? = some o ∧ o.isCells = false) : LBlk W' b vs :=
  ⟨Nat.lt_of_lt_of_le h.1 hg.size, fun i v hv => ⟨cell_kept (h.2 i v hv).1 hg hr, (frozen_kept (h.2 i v hv).1 hg hr).trans (h.2 i v hv).2⟩⟩

theorem row_kept {W W' : World} {row : Option Nat} {B e s k : Nat} {v : Value} {xs : List Value} (h : W.ownsRow B e s v k xs) (hg : W.grownBy W' row) (hr : ∀ r, row = some r → ∃ o : Obj, W.heap[r]? = some o ∧ o.isCells = false) : W'.ownsRow B e s v k xs := by
  refine h.kept hg ?_
  rcases h.2 with ⟨rfl, _⟩ | ⟨g, cap, cur, rfl, _, hg2, _⟩
  · exact Or.inl rfl
  · refine Or.inr fun e => ?_
    obtain ⟨o, ho, hc⟩ := hr g e.symm
    rw [hg2] at ho
    cases ho
    cases hc

theorem withMark_impl (x : Pv) (m : List Tok) (v : Value) (B : Nat) (w : World) (h : TokSlc w v m) (h1 : 1 ≤ m.length) (h2 : m.length ≤ 2) (hx : Words w x.u B x.p.bs) (hB : B ≤ w.heap.size) (hlen : x.p.bs.length ≤ 1500000) :
    Calls Tryz.prog 144 #[ptV x, v] w (Marked10 x m B w) := by
  match m, h1, h2, h with
  | [a], _, _, h => exact withMark_one x a v B w h hx hB
  | [a, b], _, _, h => exact withMark_two_impl x a b v B w h hx hB hlen
  | _ :: _ :: _ :: _, _, h2, _ => simp at h2

theorem zPt : ptL ⟨Pt.zero, .slice none 0 0⟩ = [.string ⟨#[]⟩, .string ⟨#[]⟩, .slice none 0 0, .bool false] := rfl

theorem row_cells {W : World} {B e s k : Nat} {v : Value} {xs : List Value} (h : W.ownsRow B e s v k xs) (j : Nat) (o : Obj) (ej : v.ownBlock = some j) (hj : W.heap[j]? = some o) : o.isCells = true := by
  rcases h.2 with ⟨rfl, _⟩ | ⟨g, cap, cur, rfl, _, hg, _⟩
  · cases ej
  · have : g = j := Option.some.inj ej
    subst this
    rw [hg] at hj
    cases hj
    rfl

/-- Between two marks: the part so far. -/
def InM (w : World) (B : Nat) (p0 : Pt) (qs : List (List Tok)) (W : World) : Prop :=
  (∃ y : Pv, marksF (some p0) qs = some y.p ∧ LBlk W (w.heap.size + 1) (ptL y) ∧ Words W y.u B y.p.bs) ∧ LBlk W w.heap.size [.string ⟨#[]⟩, .string ⟨#[]⟩, .slice none 0 0, .bool false] ∧ Below w.heap.size w W ∧ B ≤ W.heap.size

theorem inM_own (w : World) (B : Nat) (hB : w.heap.size ≤ B) (p0 : Pt) {α : Type} (f : List α → List (List Tok)) : OwnFrom B (fun s W => InM w B p0 (f s) W) := fun s A A' row hs hg hr => by
  obtain ⟨⟨y, h1, h2, h3⟩, h5, h6, h7⟩ := hs
  exact ⟨⟨y, h1, lblk_kept h2 hg (fun r e => (hr r e).2), row_kept h3 hg (fun r e => (hr r e).2)⟩, lblk_kept h5 hg (fun r e => (hr r e).2), h6.grown hg h6.size (fun k e => Nat.le_trans hB (hr k e).1), Nat.le_trans h7 hg.size⟩

theorem withMark_bs {p q : Pt} {m : List Tok} (h : withMark p m = some q) : q.bs.length ≤ p.bs.length + 1 := by
  unfold withMark at h
  repeat' split at h
  all_goals (cases h <;> simp)

theorem marksF_bs : ∀ (qs : List (List Tok)) (p q : Pt), marksF (some p) qs = some q → q.bs.length ≤ p.bs.length + qs.length
  | [], p, q, h => by
    cases (show some p = some q from h)
    exact Nat.le_add_right _ _
  | m :: r, p, q, h => by
    have h' : marksF (withMark p m) r = some q := h
    cases hw : withMark p m with
    | none => rw [hw, marksF_none] at h'; cases h'
    | some p1 =>
      rw [hw] at h'
      have h1 := withMark_bs hw
      have h2 := marksF_bs r p1 q h'
      simp only [List.length_cons]
      omega

/-- Four cells stored. -/
theorem set4 {W : World} {b : Nat} {a0 a1 a2 a3 : Value} (h : LBlk W b [a0, a1, a2, a3]) (v0 v1 v2 v3 : Value) : LBlk ((((W.setCell ⟨b, 0, none⟩ v0).setCell ⟨b, 1, none⟩ v1).setCell ⟨b, 2, none⟩ v2).setCell ⟨b, 3, none⟩ v3) b [v0, v1, v2, v3] ∧ Only b W ((((W.setCell ⟨b, 0, none⟩ v0).setCell ⟨b, 1, none⟩ v1).setCell ⟨b, 2, none⟩ v2).setCell ⟨b, 3, none⟩ v3) ∧ KeepsOthers W ((((W.setCell ⟨b, 0, none⟩ v0).setCell ⟨b, 1, none⟩ v1).setCell ⟨b, 2, none⟩ v2).setCell ⟨b, 3, none⟩ v3) :=
  ⟨(((h.set 0 v0 (by simp)).set 1 v1 (by simp)).set 2 v2 (by simp)).set 3 v3 (by simp), (((only_set W b 0 v0).setCell (p := ⟨b, 1, none⟩) rfl v1).setCell (p := ⟨b, 2, none⟩) rfl v2).setCell (p := ⟨b, 3, none⟩) rfl v3, ((KeepsOthers.setCell _ _ _).trans (KeepsOthers.setCell _ _ _)).trans ((KeepsOthers.setCell _ _ _).trans (KeepsOthers.setCell _ _ _))⟩

/-- A round has returned. -/
def OutM (w : World) (p0 : Pt) (c : Code) (qs : List (List Tok)) (W : World) : Prop :=
  c = .ret ∧ marksF (some p0) qs = none ∧ LBlk W w.heap.size [.string ⟨#[]⟩, .string ⟨#[]⟩, .slice none 0 0, .bool false] ∧ Below w.heap.size w W

theorem outM_own (w : World) (B : Nat) (hB : w.heap.size ≤ B) (p0 : Pt) (c : Code) {α : Type} (f : List α → List (List Tok)) : OwnFrom B (fun s W => OutM w p0 c (f s) W) := fun s A A' row hs hg hr => by
  obtain ⟨h0, h1, h5, h6⟩ := hs
  exact ⟨h0, h1, lblk_kept h5 hg (fun r e => (hr r e).2), h6.grown hg h6.size (fun k e => Nat.le_trans hB (hr k e).1)⟩

set_option maxRecDepth 100000 in
set_option maxHeartbeats 4000000 in
theorem readPart_impl (ts : List Tok) (v : Value) (w : World) (h : TokSlc w v ts) (hs : ts.length ≤ 1048576) :
    Calls Tryz.prog 98 #[v] w (PartIs ts w) := by
  refine (callsIn_wide (n := 6)).1 ?_
  have hmx : Tryz.prog.follows .mixedOrders = true := by kernel_rfl
  refine callsIn_of_wp_marks Tryz.func98 rfl trivial ?_ rfl
  refine wpIn_wide.2 ?_
  obtain ⟨a, cap, rfl, hnc, hcap, HA0⟩ := h.form
  obtain ⟨n, hn⟩ : ∃ n, ts.length = n := ⟨_, rfl⟩
  rw [hn] at hnc hs ⊢
  have HN := Lib.hid hn
  have HH := Lib.hid h
  have HA := Lib.hid HA0
  have hnc' : (n : Int) ≤ (cap : Int) := by omega
  have hr2 := (LBlk.new w [.string ⟨#[]⟩, .string ⟨#[]⟩, .slice none 0 0, .bool false] 37).alloc (.cells #[.string ⟨#[]⟩, .string ⟨#[]⟩, .slice none 0 0, .bool false] 37)
  have hp2 := LBlk.new (w.alloc (.cells #[.string ⟨#[]⟩, .string ⟨#[]⟩, .slice none 0 0, .bool false] 37)) [.string ⟨#[]⟩, .string ⟨#[]⟩, .slice none 0 0, .bool false] 37
  have hsz1 : (w.alloc (.cells #[.string ⟨#[]⟩, .string ⟨#[]⟩, .slice none 0 0, .bool false] 37)).heap.size = w.heap.size + 1 := by simp
  rw [hsz1] at hp2
  have hB2 : Below w.heap.size w ((w.alloc (.cells #[.string ⟨#[]⟩, .string ⟨#[]⟩, .slice none 0 0, .bool false] 37)).alloc (.cells #[.string ⟨#[]⟩, .string ⟨#[]⟩, .slice none 0 0, .bool false] 37)) := ((Below.refl _ _).alloc (Nat.le_refl _) _).alloc (by simp) _
  clear h HA0 hn hsz1
  simp only [Tryz.ntmps98, List.size_toArray, List.length_cons, List.length_nil, Nat.reduceAdd, Nat.reduceSub, Array.replicate_succ, Array.replicate_zero, List.push_toArray, List.append_toArray, List.nil_append, List.cons_append]
  go_upto_region 2 with (fail)
  generalize (w.alloc (.cells #[.string ⟨#[]⟩, .string ⟨#[]⟩, .slice none 0 0, .bool false] 37)).alloc (.cells #[.string ⟨#[]⟩, .string ⟨#[]⟩, .slice none 0 0, .bool false] 37) = W2 at *
  go_cut [16] from 6 to 40 (fun s16 wx => ∃ q : Bool, s16 = .bool q ∧ (q = true → ∃ x, ts[0]? = some x ∧ x.k = 1) ∧ (q = false → ∀ x, ts[0]? = some x → x.k ≠ 1) ∧ wx = W2)
  case first =>
    by_cases h0 : 0 < n
    · have h0' : (0 : Int) < (n : Int) := by omega
      obtain ⟨x, hx⟩ : ∃ x, ts[0]? = some x := ⟨_, List.getElem?_eq_getElem (by rw [HN.out]; exact h0)⟩
      obtain ⟨g, off, rfl, hat⟩ := HA.out (by intro e0; rw [e0] at hx; cases hx)
      obtain ⟨c0, c1, c2⟩ := three_at (hat.on hB2) hx
      rw [Nat.zero_mul, Nat.add_zero] at c0
      have HX := Lib.hid hx
      clear hx hat
      by_cases hk : x.k = 1
      · have hk' : (x.k == 1) = true := by simp [hk]
        have HK := Lib.hid hk
        clear hk
        go_wp2_with fail
        go_meet
        exact ⟨true, rfl, fun _ => ⟨x, HX.out, HK.out⟩, (fun h => by cases h), rfl⟩
      · have hk' : (x.k == 1) = false := by simp [hk]
        have HK := Lib.hid hk
        clear hk
        go_wp2_with fail
        go_meet
        exact ⟨false, rfl, (fun h => by cases h), fun _ y hy => by rw [HX.out] at hy; cases hy; exact HK.out, rfl⟩
    · have HG := Lib.hid (show ts.length ≤ 0 by rw [HN.out]; omega)
      go_wp2_with fail
      go_meet
      exact ⟨false, rfl, (fun h => by cases h), fun _ y hy => by (have := (List.getElem?_eq_some_iff.1 hy).1; have := HG.out; omega), rfl⟩
  case rest =>
    obtain ⟨q, rfl, hq1, hq0, rfl⟩ := hcut
    go_upto_if 16 with (fail)
    go_cut [0] from 6 to 40 (fun s0 wx => TokSlc w s0 (restOf ts) ∧ LBlk wx w.heap.size [.string ⟨#[]⟩, .string ⟨#[]⟩, .slice none 0 0, .bool false] ∧ LBlk wx (w.heap.size + 1) [.string ⟨(tagOf ts).toArray⟩, .string ⟨#[]⟩, .slice none 0 0, .bool false] ∧ Below w.heap.size w wx)
    case first =>
      cases q
      · have ht := tag_none (ts := ts) (j := 0) (hq0 rfl)
        rw [List.drop_zero] at ht
        go_wp2_with fail
        go_meet
        exact ⟨by rw [ht.2, ← HN.out]; exact HH.out, hr2, by rw [ht.1]; exact hp2, hB2⟩
      · obtain ⟨x, hx, hk⟩ := hq1 rfl
        have ht := tag_some (ts := ts) (j := 0) hx hk
        rw [List.drop_zero] at ht
        have h0 : 0 < n := by rw [← HN.out]; exact (List.getElem?_eq_some_iff.1 hx).1
        have h0' : (0 : Int) < (n : Int) := by omega
        obtain ⟨g, off, rfl, hat⟩ := HA.out (by intro e0; rw [e0] at hx; cases hx)
        obtain ⟨c0, c1, c2⟩ := three_at (hat.on hB2) hx
        rw [Nat.zero_mul, Nat.add_zero] at c0 c1 c2
        obtain ⟨d0, f0⟩ := hp2.2 0 _ rfl
        have hsl : ∀ w', (Instr.slice 27 (.slice (some ⟨g, off, none⟩) n cap) (some (.int .i64 1)) none none).run Tryz.prog w' = .ok (.slice (some (if cap = 1 then ⟨g, off, none⟩ else ⟨g, off + 1 * 3, none⟩)) (n - 1) (cap - 1)) w' := fun w' => tok_from g off n cap 1 (by omega) hnc w'
        have HSD := Lib.hid (slc_drop (K := 1) hat HN.out (by omega) hnc hcap)
        obtain ⟨D0, eD⟩ : ∃ D0 : Addr, (if cap = 1 then (⟨g, off, none⟩ : Addr) else ⟨g, off + 1 * 3, none⟩) = D0 := ⟨_, rfl⟩
        rw [eD] at hsl HSD
        have hp3 := hp2.set 0 (.string ⟨x.t.toArray⟩) (by simp)
        have hr3 := hr2.only (only_set wc (w.heap.size + 1) 0 (.string ⟨x.t.toArray⟩)) (Nat.ne_of_lt (Nat.lt_succ_self _))
        have hB3 := hB2.trans ((only_set wc (w.heap.size + 1) 0 (.string ⟨x.t.toArray⟩)).below (B := w.heap.size) (Nat.le_succ _) hB2.size)
        have HT := Lib.hid ht
        clear hx hk ht eD hat hq1 hq0
        go_upto_region 3 with (fail)
        go_region
        all_goals go_wp2_with fail
        all_goals go_meet
        all_goals exact ⟨by rw [HT.out.2]; exact HSD.out, hr3, by rw [HT.out.1]; exact hp3, ⟨hB3.os, hB3.tape, hB3.output, hB3.size, hB3.block⟩⟩
    case rest =>
      obtain ⟨hs0, hr3, hp3, hB3⟩ := hcut
      clear hr2 hp2 hB2 hq1 hq0
      have hrl := (restOf_sub ts).1
      rw [HN.out] at hrl
      have hs0' := hs0
      obtain ⟨ar, cr, rfl, _⟩ := hs0.form
      generalize hrn : (restOf ts).length = rn at *
      have hc1 : ((wc.alloc (.cells #[.slice ar rn cr] 27)).alloc (.cells #[.int .i64 2] 3)).cell? ⟨wc.heap.size, 0, none⟩ = some (.slice ar rn cr) := ((LBlk.new wc [.slice ar rn cr] 27).alloc _).2 0 _ rfl |>.1
      have hc2 : ((wc.alloc (.cells #[.slice ar rn cr] 27)).alloc (.cells #[.int .i64 2] 3)).cell? ⟨wc.heap.size + 1, 0, none⟩ = some (.int .i64 2) := by
        have := (LBlk.new (wc.alloc (.cells #[.slice ar rn cr] 27)) [.int .i64 2] 3).2 0 _ rfl |>.1
        rwa [World.size_alloc] at this
      have hb4 : w.heap.size + 1 < wc.heap.size := hp3.1
      have hsz : ((wc.alloc (.cells #[.slice ar rn cr] 27)).alloc (.cells #[.int .i64 2] 3)).heap.size = wc.heap.size + 2 := by simp
      have hr4 := (hr3.alloc (.cells #[.slice ar rn cr] 27)).alloc (.cells #[.int .i64 2] 3)
      have hp4 := (hp3.alloc (.cells #[.slice ar rn cr] 27)).alloc (.cells #[.int .i64 2] 3)
      have hB4 := (hB3.alloc hB3.size (.cells #[.slice ar rn cr] 27)).alloc (by have := hB3.size; simp; omega) (.cells #[.int .i64 2] 3)
      go_wp2_with (go_at_call 143; refine (Chunk_impl _ _ _ _).mono ?_; rintro e w4 ⟨rfl, rfl⟩)
      generalize (wc.alloc (.cells #[.slice ar rn cr] 27)).alloc (.cells #[.int .i64 2] 3) = W4 at *
      generalize wc.heap.size = b4 at *
      refine (wpIn_wide (n := 6)).1 ?_
      have hTok := hs0'.on hB4
      have HTK := Lib.hid hs0'
      have HRN := Lib.hid hrn
      have hi0 : InM w W4.heap.size ⟨tagOf ts, [], [], false⟩ [] W4 := ⟨⟨⟨⟨tagOf ts, [], [], false⟩, .slice none 0 0⟩, rfl, hp4, World.ownsRow_nil _ _ _ _⟩, hr4, hB4, Nat.le_refl _⟩
      clear hr3 hp3 hB3 hr4 hp4 hB4 hs0 hs0'
      refine wpIn_rangeFunc_ownG rfl (by decide) (gf := 181) (lb := #[.pointer (some ⟨b4, 0, none⟩), .pointer (some ⟨b4 + 1, 0, none⟩)]) rfl trivial (enters_of Tryz.func181 (by kernel_rfl) rfl)
        (chunk_stops Fence.wide (6 - 1) trivial rfl (by decide) b4 (b4 + 1) (.slice ar rn cr) (restOf ts) (by rw [hrn]; omega) W4 (by omega) (by omega) hc1 hc2 hTok)
        TwoKept.trans (TwoKept.put (by omega) (by omega)) (Below.refl _ _) (fun _ => rfl)
        (fun pre W => InM w W4.heap.size ⟨tagOf ts, [], [], false⟩ (pre.map (fun x => x.1.2)) W)
        (fun c pre W => OutM w ⟨tagOf ts, [], [], false⟩ c (pre.map (fun x => x.1.2)) W)
        (inM_own w _ (by have := hi0.2.2.1.size; omega) _ _) (fun c => outM_own w _ (by have := hi0.2.2.1.size; omega) _ c _)
        hi0
        (fun x => { tmps := #[.slice ar rn cr, undef, .pointer (some ⟨w.heap.size, 0, none⟩), .pointer (some ⟨w.heap.size + 1, 0, none⟩), x.1.1, undef, u6, u7, u8, u9, u10, u11, u12, u13, u14, u15, u16, u17, u18, u19, u20, u21, u22, u23, .slice ar rn cr, .func (.func 181) #[] #[.pointer (some ⟨b4, 0, none⟩), .pointer (some ⟨b4 + 1, 0, none⟩)], x.1.1, u27, u28, u29, u30, u31, u32, u33, u34, u35, u36, u37, u38, u39, u40], defers := [] }) ?assign ?body ?done ?stop
      case assign =>
        intro l x W K hK
        gi_wp2
        exact hK
      case body =>
        rintro l pre ⟨⟨mv, mk⟩, hx1, hx2, hx3, hx4⟩ W ⟨⟨y, hm, hp, hw⟩, hr, hB, hBs⟩ hlt
        dsimp only at hx1 hx2 hx3 hx4 hlt ⊢
        have hmv := hx1 w HTK.out
        have hbl := marksF_bs _ _ _ hm
        rw [List.length_map] at hbl
        simp only [List.length_nil] at hbl
        rw [HRN.out] at hlt
        have hWM := withMark_impl y mk mv W4.heap.size W (hmv.on hB) hx2 hx3 hw hBs (by omega)
        have HMS := Lib.hid (show marksF (some ⟨tagOf ts, [], [], false⟩) ((pre.map fun x => x.1.2) ++ [mk]) = withMark y.p mk by rw [marksF_snoc, hm]; rfl)
        obtain ⟨am, cm, rfl, _⟩ := hmv.form
        have hwf := words_shapeA hw
        obtain ⟨⟨tg, idp, bs, nr⟩, u⟩ := y
        obtain ⟨au, cu, eu⟩ := hwf
        dsimp only at eu
        subst eu
        obtain ⟨d0, f0⟩ := hp.2 0 _ rfl
        obtain ⟨d1, f1⟩ := hp.2 1 _ rfl
        obtain ⟨d2, f2⟩ := hp.2 2 _ rfl
        obtain ⟨d3, f3⟩ := hp.2 3 _ rfl
        dsimp only at d0 d1 d2 d3
        rw [ptV_is] at hWM
        dsimp only at hWM
        gi_wp2
        refine ⟨trivial, ?_⟩
        refine (CallsIn.inRound l (callsIn_wide.2 hWM)).mono ?_
        rintro e W3 ⟨⟨⟨tg', idp', bs', nr'⟩, u'⟩, b, rfl, hw3, hgr, hmm⟩
        have hwf' := words_shapeA hw3
        obtain ⟨au', cu', eu'⟩ := hwf'
        dsimp only at eu'
        subst eu'
        rw [ptV_is]
        dsimp only at hgr hmm hw3 ⊢
        have hne : ∀ q, q < W4.heap.size → some q ≠ (Value.slice au bs.length cu).ownBlock := fun q hq e => by
          have := (World.ownsRow.lt hw q e.symm).1
          omega
        have hp3 := LBlk.grown hp hgr (hne _ (by omega))
        have hr3 := LBlk.grown hr hgr (hne _ (by omega))
        clear d0 d1 d2 d3 f0 f1 f2 f3
        obtain ⟨d0, f0⟩ := hp3.2 0 _ rfl
        obtain ⟨d1, f1⟩ := hp3.2 1 _ rfl
        obtain ⟨d2, f2⟩ := hp3.2 2 _ rfl
        obtain ⟨d3, f3⟩ := hp3.2 3 _ rfl
        obtain ⟨e0, g0⟩ := hr3.2 0 _ rfl
        obtain ⟨e1, g1⟩ := hr3.2 1 _ rfl
        obtain ⟨e2, g2⟩ := hr3.2 2 _ rfl
        obtain ⟨e3, g3⟩ := hr3.2 3 _ rfl
        obtain ⟨hp5, ho5, hk5⟩ := set4 hp3 (.string ⟨tg'.toArray⟩) (.string ⟨idp'.toArray⟩) (.slice au' bs'.length cu') (.bool nr')
        have hr5 := hr3.only ho5 (Nat.ne_of_lt (Nat.lt_succ_self _))
        have hB3 : Below w.heap.size w W3 := hB.grown hgr hB.size (fun k e => Nat.le_trans (by omega) (World.ownsRow.lt hw k e).1)
        have hB5 := hB3.trans (ho5.below (B := w.heap.size) (Nat.le_succ _) hB3.size)
        have hk3 : KeepsOthers W W3 := KeepsOthers.of_grownBy hgr (row_cells hw)
        have hw5 := own_otherA hw3 ho5 (fun e => by have := (World.ownsRow.lt hw3 _ e.symm).1; omega)
        have hs5 : W4.heap.size ≤ _ := Nat.le_trans hBs (Nat.le_trans hgr.size ho5.size)
        have htk : ∀ q, b4 ≤ q → q < b4 + 2 → _ = _ := fun q h1 h2 => (ho5.block q (by omega) (by have := hgr.size; omega)).trans (hgr.block q (by omega) (hne q (by omega)))
        have HW5 := Lib.hid hw5
        have HMM := Lib.hid hmm
        clear hmm hWM hp hr hw hw3 hmv
        cases b
        · obtain ⟨hr6, ho6, hk6⟩ := set4 hr5 (.string ⟨#[]⟩) (.string ⟨#[]⟩) (.slice none 0 0) (.bool false)
          have hn : withMark ⟨tg, idp, bs, nr⟩ mk = none := by
            have := HMM.out
            cases hq : withMark ⟨tg, idp, bs, nr⟩ mk with
            | none => rfl
            | some q => rw [hq] at this; cases this.1
          have HN := Lib.hid hn
          clear hn
          gi_wp2
          exact ⟨((hk3.trans hk5).trans hk6).from _, rfl, by rw [List.map_append]; exact HMS.out.trans HN.out, hr6, hB5.trans (ho6.below (B := w.heap.size) (Nat.le_refl _) hB5.size)⟩
        · have hn : withMark ⟨tg, idp, bs, nr⟩ mk = some ⟨tg', idp', bs', nr'⟩ := by
            have := HMM.out
            cases hq : withMark ⟨tg, idp, bs, nr⟩ mk with
            | none => rw [hq] at this; cases this
            | some q => rw [hq] at this; rw [← this.2]
          have HN := Lib.hid hn
          clear hn
          gi_wp2
          exact ⟨(hk3.trans hk5).from _, ⟨htk b4 (Nat.le_refl _) (by omega), htk (b4 + 1) (by omega) (by omega)⟩, ⟨⟨⟨tg', idp', bs', nr'⟩, .slice au' bs'.length cu'⟩, by rw [List.map_append]; exact HMS.out.trans HN.out, hp5, by have := HW5.out; rw [hsz] at this; exact this⟩, hr5, hB5, by rw [← hsz]; exact hs5⟩
      case done =>
        rintro D ys W hD hS ⟨⟨y, hm, hp, hw⟩, hr, hB, hBs⟩ hK
        rw [hS, marksF_is] at hm
        have hrd : readP ts = norm y.p := by
          unfold readP
          rw [hm]
        have hbl : y.p.bs.length ≤ 1048577 := by
          rw [← marksF_is] at hm
          have h1 := marksF_bs _ _ _ hm
          have h2 := chunks_len (restOf ts)
          rw [HRN.out] at h2
          simp only [List.length_nil] at h1
          omega
        have hRI := rising_impl y.p.bs y.u W (Words.slc hw) (by omega)
        have hwf := words_shapeA hw
        obtain ⟨⟨tg, idp, bs, nr⟩, u⟩ := y
        obtain ⟨au, cu, eu⟩ := hwf
        dsimp only at eu hRI hrd hw hp
        subst eu
        obtain ⟨d2, f2⟩ := hp.2 2 _ rfl
        have HRD := Lib.hid hrd
        clear hm hS hrd hbl
        go_wp2_with fail
        refine hRI.mono ?_
        rintro e W3 ⟨r, rfl, hw3, g3⟩
        obtain ⟨ar', cr', er'⟩ := words_shapeA hw3
        subst er'
        have hp3 := hp.below g3
        have hr3 := hr.below g3
        clear d2 f2
        obtain ⟨d2, f2⟩ := hp3.2 2 _ rfl
        have hp4 : LBlk (W3.setCell ⟨w.heap.size + 1, 2, none⟩ (.slice ar' (rising bs).length cr')) (w.heap.size + 1) [.string ⟨tg.toArray⟩, .string ⟨idp.toArray⟩, .slice ar' (rising bs).length cr', .bool nr] := hp3.set 2 _ (by show 2 < 4; decide)
        have hr4 := hr3.only (only_set W3 (w.heap.size + 1) 2 (.slice ar' (rising bs).length cr')) (Nat.ne_of_lt (Nat.lt_succ_self _))
        have HL4 := Lib.hid (load_blk (P := Tryz.prog) (ty := 37) hp4 pt_wide)
        obtain ⟨W5, hst, hl5, ho5, _⟩ := store_blk (P := Tryz.prog) (ty := 37) (vs := [.string ⟨tg.toArray⟩, .string ⟨idp.toArray⟩, .slice ar' (rising bs).length cr', .bool nr]) hr4 pt_wide rfl rfl
        have HST := Lib.hid hst
        have hB3 := hB.trans (g3.mono hB.size)
        have hB4 := hB3.trans ((only_set W3 (w.heap.size + 1) 2 (.slice ar' (rising bs).length cr')).below (B := w.heap.size) (Nat.le_succ _) hB3.size)
        have hB5 := hB4.trans (ho5.below (B := w.heap.size) (Nat.le_refl _) hB4.size)
        have hw4 := own_otherA hw3 (only_set W3 (w.heap.size + 1) 2 (.slice ar' (rising bs).length cr')) (fun e => by have := (World.ownsRow.lt hw3 _ e.symm).1; omega)
        have hw5 := own_otherA hw4 ho5 (fun e => by have := (World.ownsRow.lt hw3 _ e.symm).1; omega)
        have hK3 : W3.heap[D]? = some (.deferred (some [])) := (g3.block D (Array.getElem?_eq_some_iff.1 hK).1).trans hK
        have hK5 : W5.heap[D]? = some (.deferred (some [])) := (ho5.block D (by omega) (by have := (Array.getElem?_eq_some_iff.1 hK3).1; rw [World.size_setCell]; exact this)).trans (((only_set W3 (w.heap.size + 1) 2 (.slice ar' (rising bs).length cr')).block D (by omega) (Array.getElem?_eq_some_iff.1 hK3).1).trans hK3)
        have hr6 := lblk_kept hl5 (grownBy_putObj' W5 D (.deferred none)) (fun r e => by cases e; exact ⟨_, hK5, rfl⟩)
        have hw6 := ownsRow_putObj hw5 (.deferred none) hK5 rfl
        have hB6 := hB5.trans ((Below.refl w.heap.size W5).grown (grownBy_putObj' W5 D (.deferred none)) hB5.size (fun k e => by cases e; have := hB.size; omega))
        clear hst hRI hp hr hw
        go_wp2_with (first | ((with_reducible refine wp_load_at HL4.out ?_ ?_); exact And.intro rfl (And.intro rfl rfl)) | ((with_reducible refine wp_store_at HST.out ?_ ?_); exact And.intro rfl (And.intro rfl (And.intro rfl rfl))))
        refine ⟨by simp, .inl ⟨_, _, rfl, run_takeDeferred hK5, ?_⟩⟩
        exact ⟨_, results_wide (load_blk hr6 pt_wide) rfl rfl, ⟨⟨tg, idp, rising bs, nr⟩, .slice ar' (rising bs).length cr'⟩, rfl, HRD.out.symm, own_baseA hw6 (by have := hB.size; omega), hB6⟩
      case stop =>
        rintro D c pre W hD ⟨k, hSp⟩ ⟨rfl, hnone, hr, hB⟩ hK
        rw [hSp] at hnone
        have hrd : readP ts = Pt.zero := by
          unfold readP
          rw [← marksF_is, marksF_take k hnone]
        have HRD := Lib.hid hrd
        have hr6 := lblk_kept hr (grownBy_putObj' W D (.deferred none)) (fun r e => by cases e; exact ⟨_, hK, rfl⟩)
        have hB6 := hB.trans ((Below.refl w.heap.size W).grown (grownBy_putObj' W D (.deferred none)) hB.size (fun k e => by cases e; omega))
        clear hrd hnone hSp
        gi_wp2
        refine ⟨by simp, .inl ⟨_, _, rfl, run_takeDeferred hK, ?_⟩⟩
        exact ⟨_, results_wide (load_blk hr6 pt_wide) rfl rfl, ⟨Pt.zero, .slice none 0 0⟩, rfl, HRD.out.symm, World.ownsRow_nil _ _ _ _, hB6⟩

end Go.Proofs.YtliihnkonakacaaGreatDoor.B10
