/- Chapter 10 of the reference: l10Read, ReadPick. -/
import Derived.Test.YtliihnkonakacaaGreatDoorRd10
import Derived.Test.YtliihnkonakacaaGreatDoorDraw10b
import Derived.Test.YtliihnkonakacaaGreatDoorRead9

namespace Go.Proofs.YtliihnkonakacaaGreatDoor.B10
open Go.Proofs.YtliihnkonakacaaGreatDoor.P1 Go.Proofs.YtliihnkonakacaaGreatDoor.B1 Go.Proofs.YtliihnkonakacaaGreatDoor.B2 Go.Proofs.YtliihnkonakacaaGreatDoor.T1 Go.Proofs.YtliihnkonakacaaGreatDoor.BT Go.Proofs.YtliihnkonakacaaGreatDoor.P5 Go.Proofs.YtliihnkonakacaaGreatDoor.P6 Go.Proofs.YtliihnkonakacaaGreatDoor.P9 Go.Proofs.YtliihnkonakacaaGreatDoor.B5 Go.Proofs.YtliihnkonakacaaGreatDoor.B6 Go.Proofs.YtliihnkonakacaaGreatDoor.D1 Go.Proofs.YtliihnkonakacaaGreatDoor.W8 Go.Proofs.YtliihnkonakacaaGreatDoor.RC Go.Proofs.YtliihnkonakacaaGreatDoor.RI Go.Proofs.YtliihnkonakacaaGreatDoor.P10
open Go.ChangeShapes Go.WideShapes Go.ChangeAt Go.RowKit
set_option linter.unusedVariables false

/-- Parts of the call's own, whose badges are of the call's own and lie apart. -/
structure OwnQ (B : Nat) (v : Value) (xs : List Pv) (W : World) : Prop where
  own : W.ownsRow B 37 4 v xs.length (ptRs xs).flatten
  hs : ∀ x ∈ xs, Words W x.u B x.p.bs
  ap : xs.Pairwise fun x y => x.u.ownBlock = none ∨ x.u.ownBlock ≠ y.u.ownBlock

theorem own_baseA {w : World} {B B' e size n : Nat} {v : Value} {xs : List Value} (h : w.ownsRow B e size v n xs) (hb : B' ≤ B) : w.ownsRow B' e size v n xs := ⟨h.1, by
  rcases h.2 with hn | ⟨g, cap, cur, hv, hbg, rest⟩
  · exact .inl hn
  · exact .inr ⟨g, cap, cur, hv, Nat.le_trans hb hbg, rest⟩⟩

theorem own_under {w w' : World} {B B' e size n : Nat} {v : Value} {xs : List Value} (h : w.ownsRow B e size v n xs) (hb : Below B' w w') (hlt : ∀ g, v.ownBlock = some g → g < B') : w'.ownsRow B e size v n xs := ⟨h.1, by
  rcases h.2 with hn | ⟨g, cap, cur, rfl, hbg, hg, rest⟩
  · exact .inl hn
  · exact .inr ⟨g, cap, cur, rfl, hbg, (hb.block g (hlt g rfl)).trans hg, rest⟩⟩

theorem row_base3 {w : World} {B B' : Nat} {v : Value} {ts : List Tok} (h : Toks w v B ts) (hb : B' ≤ B) : Toks w v B' ts := own_baseA h hb

theorem OwnQ.slc {B : Nat} {v : Value} {xs : List Pv} {W : World} (h : OwnQ B v xs W) : PtSlc W v xs := by
  have : RC.Own 37 4 W v B (ptRs xs) := ⟨by rw [ptRs_len]; exact h.own, ptRs_four xs⟩
  exact ⟨this.val.slc, fun x hx => Words.slc (h.hs x hx)⟩

theorem OwnQ.on {B : Nat} {v : Value} {xs : List Pv} {W W' : World} (h : OwnQ B v xs W) (hb : Below W.heap.size W W') : OwnQ B v xs W' :=
  ⟨own_below h.own hb, fun x hx => own_below (h.hs x hx) hb, h.ap⟩

theorem OwnQ.base {B B' : Nat} {v : Value} {xs : List Pv} {W : World} (h : OwnQ B v xs W) (hb : B' ≤ B) : OwnQ B' v xs W :=
  ⟨own_baseA h.own hb, fun x hx => own_baseA (h.hs x hx) hb, h.ap⟩

theorem OwnQ.other {B b : Nat} {v : Value} {xs : List Pv} {W W' : World} (h : OwnQ B v xs W) (ho : Only b W W') (h1 : some b ≠ v.ownBlock) (h2 : ∀ x ∈ xs, some b ≠ x.u.ownBlock) : OwnQ B v xs W' :=
  ⟨own_otherA h.own ho h1, fun x hx => own_otherA (h.hs x hx) ho (h2 x hx), h.ap⟩

/-- A block that is new since touches none of it. -/
theorem OwnQ.new {B b : Nat} {v : Value} {xs : List Pv} {W W' : World} (h : OwnQ B v xs W) (hb : W.heap.size ≤ b) {W1 : World} (h1 : OwnQ B v xs W1) (ho : Only b W1 W') : OwnQ B v xs W' :=
  h1.other ho (own_new h.own hb) (fun x hx => own_new (h.hs x hx) hb)

theorem OwnQ.form {B : Nat} {v : Value} {xs : List Pv} {W : World} (h : OwnQ B v xs W) : ∃ a c, v = .slice a xs.length c := by
  rcases h.own.2 with ⟨rfl, h0⟩ | ⟨g, cap, cur, rfl, _⟩
  · exact ⟨none, 0, by rw [h0]⟩
  · exact ⟨_, _, rfl⟩

theorem ownQ_lit (w : World) {B : Nat} (hB : B ≤ w.heap.size) : OwnQ B (.slice (some ⟨w.heap.size, 0, none⟩) 0 0) [] (w.alloc (.cells #[] 37)) :=
  ⟨World.ownsRow_lit w #[] 0 hB (by decide) rfl, fun x hx => (by cases hx), List.Pairwise.nil⟩

/-- Rows of two types lie apart. -/
theorem rows_apart {W : World} {B B' k m s s' e e' : Nat} {u v : Value} {xs ys : List Value} (hne : e ≠ e') (h : W.ownsRow B e s u k xs) (h' : W.ownsRow B' e' s' v m ys) : u = .slice none 0 0 ∨ u.ownBlock ≠ v.ownBlock := by
  rcases h.2 with ⟨hu, _⟩ | ⟨g, cap, cur, rfl, _, hg, _⟩
  · exact Or.inl hu
  · refine Or.inr fun e => ?_
    rcases h'.2 with ⟨rfl, _⟩ | ⟨g', cap', cur', rfl, _, hg', _⟩
    · cases e
    · have e1 : g = g' := Option.some.inj e
      subst e1
      rw [hg] at hg'
      have := Option.some.inj hg'
      injection this with _ h2 _
      exact absurd h2 hne

theorem row_grown {W W' : World} {B B' k m s s' e e' : Nat} {u v : Value} {xs ys : List Value} (hne : e ≠ e') (h : W.ownsRow B e s u k xs) (h' : W.ownsRow B' e' s' v m ys) (hg : W.grownBy W' v.ownBlock) : W'.ownsRow B e s u k xs := by
  rcases rows_apart hne h h' with hn | hn
  · exact h.kept hg (Or.inl (by rw [hn]; rfl))
  · exact h.kept hg (Or.inr hn)

theorem ownQ_snoc {B : Nat} {v v7 : Value} {xs : List Pv} {X : Pv} {W W7 : World} (h : OwnQ B v xs W) (hX : Words W X.u B X.p.bs) (hap : ∀ x ∈ xs, x.u.ownBlock = none ∨ x.u.ownBlock ≠ X.u.ownBlock) (hown : W7.ownsRow B 37 4 v7 (xs.length + 1) ((ptRs xs).flatten ++ ptL X)) (hg : W.grownBy W7 v.ownBlock) : OwnQ B v7 (xs ++ [X]) W7 := by
  refine ⟨?_, fun x hx => ?_, ?_⟩
  · have e : (ptRs (xs ++ [X])).flatten = (ptRs xs).flatten ++ ptL X := by unfold ptRs; simp
    rw [e, List.length_append]
    exact hown
  · rcases List.mem_append.1 hx with hx | hx
    · exact words_grown (h.hs x hx) h.own hg
    · obtain rfl : x = X := by simpa using hx
      exact words_grown hX h.own hg
  · rw [List.pairwise_append]
    refine ⟨h.ap, List.pairwise_singleton _ _, fun x hx y hy => ?_⟩
    obtain rfl : y = X := by simpa using hy
    exact hap x hx

/-- What was made later lies apart. -/
theorem late_apart {W W' : World} {B : Nat} {u v : Value} {ss tt : List (List UInt8)} (h : Words W u B ss) (h' : Words W' v W.heap.size tt) : u.ownBlock = none ∨ u.ownBlock ≠ v.ownBlock := by
  rcases h.2 with ⟨rfl, _⟩ | ⟨g, cap, cur, rfl, _, hg, _⟩
  · exact Or.inl rfl
  · refine Or.inr fun e => ?_
    have h1 := (World.ownsRow.lt h' g e.symm).1
    have h2 : g < W.heap.size := (Array.getElem?_eq_some_iff.1 hg).1
    omega

theorem squeeze_len (ts : List Tok) : (squeeze ts).length ≤ ts.length := Nat.le_trans (trim_len _) (sqF_len true ts)

theorem loop_step (f : Nat) (out : List Pt) (S : List Tok) {j : Nat} (hj : j < S.length) : loopR (f + 1) out (S.drop j) = match aheadR out.isEmpty (S.drop j) with
    | none => none
    | some (near, l') => match partR l' with
      | none => none
      | some (p, r) => loopR f (out ++ [{ p with near := near }]) r := by
  rw [List.drop_eq_getElem_cons hj]
  exact loop_cons f out _ _

theorem seps_step (b : Bool) (n : Nat) {S : List Tok} {k : Nat} {x : Tok} (hx : S[k]? = some x) : sepsR b n (S.drop k) = if sepT x = true then (if signIs x 62 = true then (if b = true then none else sepsR true (n + 1) (S.drop (k + 1))) else sepsR b (n + 1) (S.drop (k + 1))) else some (b, n, S.drop k) := by
  obtain ⟨h1, e1⟩ := List.getElem?_eq_some_iff.1 hx
  rw [List.drop_eq_getElem_cons h1, e1]
  rfl

theorem seps_end (b : Bool) (n : Nat) {S : List Tok} {k : Nat} (hk : S.length ≤ k) : sepsR b n (S.drop k) = some (b, n, S.drop k) := by
  rw [List.drop_of_length_le hk]
  rfl

theorem ahead_none {l : List Tok} (h : sepsR false 0 l = none) : aheadR false l = none := by
  unfold aheadR
  rw [if_neg (by decide), h]

theorem ahead_zero {l r : List Tok} {b : Bool} (h : sepsR false 0 l = some (b, 0, r)) : aheadR false l = none := by
  unfold aheadR
  rw [if_neg (by decide), h]
  rfl

theorem ahead_some {l r : List Tok} {b : Bool} {n : Nat} (h : sepsR false 0 l = some (b, n, r)) (hn : n ≠ 0) : aheadR false l = some (b, r) := by
  unfold aheadR
  rw [if_neg (by decide), h]
  show (if n = 0 then none else some (b, r)) = _
  rw [if_neg hn]

theorem marks_fit {L : Nat} : ∀ (p : Pt) (q : List Tok) (p' : Pt) (r : List Tok), marksR p q = some (p', r) → (p.tag.length ≤ L ∧ p.id.length ≤ L ∧ ∀ s ∈ p.bs, s.length ≤ L) → (∀ x ∈ q, x.t.length ≤ L) → (p'.tag.length ≤ L ∧ p'.id.length ≤ L ∧ ∀ s ∈ p'.bs, s.length ≤ L) ∧ p'.bs.length ≤ p.bs.length + q.length
  | p, [], p', r, h, hp, _ => by
    injection h with h; injection h with h _; subst h
    exact ⟨hp, Nat.le_add_right _ _⟩
  | p, [a], p', r, h, hp, _ => by
    injection h with h; injection h with h _; subst h
    exact ⟨hp, Nat.le_add_right _ _⟩
  | p, a :: b :: t, p', r, h, hp, hq => by
    have h' : (if b.k = 1 ∧ (signIs a 46 = true ∨ signIs a 61 = true) then (if signIs a 46 = true then marksR { p with bs := put b.t p.bs } t else if p.id ≠ [] then none else marksR { p with id := b.t } t) else some (p, a :: b :: t)) = some (p', r) := h
    have hb := hq b (by simp)
    have ht : ∀ x ∈ t, x.t.length ≤ L := fun x hx => hq x (by simp [hx])
    split at h'
    · split at h'
      · obtain ⟨h1, h2⟩ := marks_fit _ t p' r h' ⟨hp.1, hp.2.1, fun s hs => by
          rcases (put_mem b.t s p.bs).1 hs with rfl | hs
          · exact hb
          · exact hp.2.2 s hs⟩ ht
        have := put_len b.t p.bs
        refine ⟨h1, ?_⟩
        dsimp only at h2
        simp only [List.length_cons]
        omega
      · split at h'
        · cases h'
        · obtain ⟨h1, h2⟩ := marks_fit _ t p' r h' ⟨hp.1, hb, hp.2.2⟩ ht
          refine ⟨h1, ?_⟩
          dsimp only at h2
          simp only [List.length_cons]
          omega
    · injection h' with h'; injection h' with h' _; subst h'
      exact ⟨hp, Nat.le_add_right _ _⟩

theorem tag_fit {L : Nat} {q : List Tok} (h : ∀ x ∈ q, x.t.length ≤ L) : (tagOf q).length ≤ L := by
  unfold tagOf
  split
  · simp
  · split
    · exact h _ (by simp)
    · simp

/-- What a part's reading says of the part. -/
theorem rp_part {S : List Tok} {k end_ : Nat} {p : Pt} (hk : k ≤ S.length) (hf : ∀ x ∈ S, x.t.length ≤ 1048576) (hs : S.length ≤ 1048576) (h : match marksR ⟨tagOf (S.drop k), [], [], false⟩ (restOf (S.drop k)) with
    | none => end_ = k
    | some (q, r) => p = q ∧ end_ ≤ S.length ∧ r = S.drop end_) :
    (end_ = k ∧ partR (S.drop k) = none) ∨ (end_ ≠ k ∧ k < end_ ∧ end_ ≤ S.length ∧ partR (S.drop k) = some (p, S.drop end_) ∧ ∀ u, Fits ⟨p, u⟩) := by
  unfold partR
  cases hm : marksR ⟨tagOf (S.drop k), [], [], false⟩ (restOf (S.drop k)) with
  | none =>
    rw [hm] at h
    exact Or.inl ⟨h, rfl⟩
  | some x =>
    obtain ⟨q, r⟩ := x
    rw [hm] at h
    obtain ⟨rfl, he, rfl⟩ := h
    have hsub := (marks_sub _ _ _ _ hm).1
    have hr := (restOf_sub (S.drop k)).1
    rw [List.length_drop] at hsub hr
    by_cases hek : end_ = k
    · refine Or.inl ⟨hek, ?_⟩
      show (if (S.drop end_).length = (S.drop k).length then none else _) = none
      rw [if_pos (by rw [hek])]
    · refine Or.inr ⟨hek, by omega, he, ?_, fun u => ?_⟩
      · show (if (S.drop end_).length = (S.drop k).length then none else some (p, S.drop end_)) = _
        rw [if_neg (by rw [List.length_drop, List.length_drop]; omega)]
      · have hd : ∀ x ∈ S.drop k, x.t.length ≤ 1048576 := fun x hx => hf x (List.mem_of_mem_drop hx)
        obtain ⟨⟨h1, h2, h3⟩, h4⟩ := marks_fit (L := 1048576) _ _ _ _ hm ⟨tag_fit hd, by simp, fun s hs => by cases hs⟩ (fun x hx => hd x ((restOf_sub (S.drop k)).2 x hx))
        refine ⟨h1, h2, ?_, h3⟩
        dsimp only at h4
        simp only [List.length_nil] at h4
        have : (restOf (S.drop k)).length ≤ S.length := Nat.le_trans hr (Nat.sub_le _ _)
        show p.bs.length ≤ _
        omega

/-- What a pick's reading answers. -/
def Picks (q : Option (List Pt)) (w : World) (e : Ending) (w' : World) : Prop :=
  ∃ v b xs, e = .returned (.tuple #[v, .bool b]) ∧ b = q.isSome ∧ OwnQ w.heap.size v xs w' ∧ pts xs = q.getD [] ∧ Below w.heap.size w w'

theorem near_set {b : Nat} {q : Bool} {x : Pv} {W : World} (h : LBlk W b (ptL x)) : LBlk (W.setCell ⟨b, 3, none⟩ (.bool q)) b (ptL ⟨{ x.p with near := q }, x.u⟩) := h.set 3 (.bool q) (by show 3 < 4; decide)

theorem isSp_not {x : Tok} (h : x.k = 5) : signIs x 62 = false := by
  unfold signIs
  rw [h]; rfl

theorem SqzS10 (ts : List Tok) (v : Value) (w : World) (h : TokVal w v ts) (hs : ts.length ≤ 1500000) :
    Calls Tryz.prog 100 #[v] w (Squeezes (squeeze ts) w) := by
  rcases h with ⟨rfl, rfl⟩ | ⟨g, cap, rfl, h⟩
  · exact Squeeze_nil w
  · exact Squeeze_row ts _ g cap w rfl h (by omega)

theorem AllS10 (ts : List Tok) (v : Value) (w : World) (h : TokVal w v ts) (hf : ∀ x ∈ ts, TokFit x) (hs : ts.length ≤ 1500000) :
    Calls Tryz.prog 51 #[v] w (Ans (.bool (ts.all tokOk)) w) := by
  rcases h with ⟨rfl, rfl⟩ | ⟨g, cap, rfl, h⟩
  · exact All_nil w
  · exact All_row ts _ g cap w rfl h hf (by omega)

theorem toks_form {W : World} {a : Option Addr} {m c B : Nat} {S : List Tok} (h : Toks W (.slice a m c) B S) (hne : S ≠ []) : ∃ g, a = some ⟨g, 0, none⟩ := by
  rcases h.2 with ⟨e, h0⟩ | ⟨g, cap, cur, e, _⟩
  · exact absurd (List.length_eq_zero_iff.1 h0) hne
  · injection e with e1
    exact ⟨g, e1⟩

theorem toks_cells {W : World} {g m c B k : Nat} {S : List Tok} {x : Tok} (h : Toks W (.slice (some ⟨g, 0, none⟩) m c) B S) (hx : S[k]? = some x) : W.cell? ⟨g, k * 3, none⟩ = some (.int .i64 x.k) ∧ W.cell? ⟨g, k * 3 + 1, none⟩ = some (.string ⟨x.t.toArray⟩) ∧ W.cell? ⟨g, k * 3 + 2, none⟩ = some (.int .i64 x.n) := by
  rcases Toks.val h with ⟨e, _⟩ | ⟨g', cap, e, hr⟩
  · cases e
  · injection e with e1
    injection e1 with e1
    injection e1 with e1
    subst e1
    exact hr.cells k x hx

theorem sep_is (x : Tok) : sepT x = ((x.k == 5) || signIs x 62) := rfl

set_option maxRecDepth 20000 in
set_option maxHeartbeats 8000000 in
theorem Read10_spec (ts : List Tok) (v : Value) (w : World) (h : TokVal w v ts) (hf : ∀ x ∈ ts, x.t.length ≤ 1048576) (hs : ts.length ≤ 1048576) :
    Calls Tryz.prog 52 #[v] w (Picks ((loopR (ts.length + 1) [] (squeeze ts)).bind finish) w) := by
  obtain ⟨i0, hi, hz0, hz1, hz2⟩ := info_parts infoPtD
  obtain ⟨R, eR⟩ : ∃ R, (loopR (ts.length + 1) [] (squeeze ts)).bind finish = R := ⟨_, rfl⟩
  rw [eR]
  have hsz1 : (w.alloc (.cells #[] 37)).heap.size = w.heap.size + 1 := by simp
  have hn2 : OwnQ w.heap.size (.slice (some ⟨w.heap.size, 0, none⟩) 0 0) [] ((w.alloc (.cells #[] 37)).alloc (.cells #[] 37)) := (ownQ_lit w (Nat.le_refl _)).on ((Below.refl _ _).alloc (Nat.le_refl _) _)
  have ho2 : OwnQ (w.heap.size + 1) (.slice (some ⟨w.heap.size + 1, 0, none⟩) 0 0) [] ((w.alloc (.cells #[] 37)).alloc (.cells #[] 37)) := by
    have := ownQ_lit (w.alloc (.cells #[] 37)) (B := w.heap.size + 1) (by rw [hsz1]; exact Nat.le_refl _)
    rwa [hsz1] at this
  have hB2 : Below w.heap.size w ((w.alloc (.cells #[] 37)).alloc (.cells #[] 37)) := ((Below.refl _ _).alloc (Nat.le_refl _) _).alloc (by simp) _
  have hsz2 : ((w.alloc (.cells #[] 37)).alloc (.cells #[] 37)).heap.size = w.heap.size + 2 := by simp
  have HSq := Lib.hid (SqzS10 ts v _ (h.on hB2) (by omega))
  have hm0 := squeeze_len ts
  obtain ⟨S, eS⟩ : ∃ S, squeeze ts = S := ⟨_, rfl⟩
  rw [eS] at HSq eR hm0
  have HSF := Lib.hid (show ∀ x ∈ S, x.t.length ≤ 1048576 from fun x hx => hf x (mem_squeeze (by rw [eS]; exact hx)))
  obtain ⟨m, em⟩ : ∃ m, S.length = m := ⟨_, rfl⟩
  have HM := Lib.hid em
  rw [em] at hm0
  have hm1 : m ≤ 1048576 := by omega
  obtain ⟨f0, ef0⟩ : ∃ f, ts.length + 1 = f := ⟨_, rfl⟩
  rw [ef0] at eR
  have hf0 : m < f0 := by omega
  have HR0 := Lib.hid eR.symm
  obtain ⟨av, cv, rfl, _⟩ := h.form
  generalize ts.length = nt at *
  clear h hf hs hsz1 em eR eS ef0 hm0
  go_enter Tryz.func52, Tryz.ntmps52
  go_upto_region 3 with (fail)
  generalize (w.alloc (.cells #[] 37)).alloc (.cells #[] 37) = W2 at *
  unfold Squeezes at HSq
  go_wp2_with (go_at_call 100; refine HSq.out.mono ?_; rintro e w3 ⟨u, rfl, hu, g3⟩)
  have HU := Lib.hid (row_base3 hu (show w.heap.size + 1 ≤ W2.heap.size by omega))
  have ho3 := ho2.on g3
  have hB3 : Below (w.heap.size + 1) W2 w3 := g3.mono (by omega)
  obtain ⟨au, cu, rfl, hmc, hcap, _⟩ := (Toks.val hu).slc.form
  rw [HM.out] at hmc ⊢
  have hmc' : (m : Int) ≤ (cu : Int) := by omega
  have hm1' : (m : Int) ≤ 1048576 := by omega
  rw [HM.out] at HU
  have HN2 := Lib.hid hn2
  have HB2 := Lib.hid hB2
  clear hu g3 HSq ho2 hn2 hB2 hcap
  go_wp2_with fail
  go_loopg [5, 7] m (fun kx s5 s7 wr => ∃ (j f : Nat) (xs : List Pv), s7 = .int .i64 (j : Int) ∧ j ≤ m ∧ kx = m - j ∧ xs.length ≤ j ∧ OwnQ (w.heap.size + 1) s5 xs wr ∧ Hid (Toks wr (.slice au m cu) (w.heap.size + 1) S) ∧ Hid (∀ x ∈ xs, Fits x) ∧ m - j < f ∧ Hid (R = (loopR f (pts xs) (S.drop j)).bind finish) ∧ Below (w.heap.size + 1) W2 wr)
  case atStart => exact ⟨0, f0, [], rfl, Nat.zero_le _, rfl, Nat.zero_le _, ho3, HU, Lib.hid (fun x hx => by cases hx), hf0, HR0, hB3⟩
  case round =>
    obtain ⟨j, f, xs, rfl, hj, hk, hxl, hown, HT, HF, hfu, HRJ, hB⟩ := hrel
    clear ho3 hB3 HU HR0
    obtain ⟨a5, c5, rfl⟩ := hown.form
    obtain ⟨d, hd⟩ : ∃ d, xs.length = d := ⟨_, rfl⟩
    have HD := Lib.hid hd
    rw [hd] at hxl hown ⊢
    have HO := Lib.hid hown
    clear hd hown
    have hend : ∀ W', Below (w.heap.size + 1) W2 W' → OwnQ w.heap.size (.slice (some ⟨w.heap.size, 0, none⟩) 0 0) [] W' ∧ Below w.heap.size w W' := fun W' hW => ⟨⟨own_under HN2.out.own hW (fun g hg => by cases hg; exact Nat.lt_succ_self _), fun x hx => (by cases hx), List.Pairwise.nil⟩, HB2.out.trans (hW.mono (by omega))⟩
    have HEND := Lib.hid hend
    clear hend
    by_cases hlt : j < m
    · have hlt' : (j : Int) < (m : Int) := by omega
      obtain ⟨f', rfl⟩ : ∃ f', f = f' + 1 := ⟨f - 1, by omega⟩
      have hjS : j < S.length := by rw [HM.out]; exact hlt
      have HNONE := Lib.hid (fun (hh : aheadR (pts xs).isEmpty (S.drop j) = none) => (show R = none by rw [HRJ.out, loop_step f' (pts xs) S hjS, hh]; rfl))
      have HPN := Lib.hid (fun (near : Bool) (k : Nat) (hh : aheadR (pts xs).isEmpty (S.drop j) = some (near, S.drop k)) (hp : partR (S.drop k) = none) => (show R = none by
        rw [HRJ.out, loop_step f' (pts xs) S hjS, hh]
        show (match partR (S.drop k) with
          | none => none
          | some (p, r) => loopR f' (pts xs ++ [{ p with near := near }]) r).bind finish = none
        rw [hp]; rfl))
      have HPS := Lib.hid (fun (near : Bool) (k : Nat) (p : Pt) (r : List Tok) (hh : aheadR (pts xs).isEmpty (S.drop j) = some (near, S.drop k)) (hp : partR (S.drop k) = some (p, r)) => (show R = (loopR f' (pts xs ++ [{ p with near := near }]) r).bind finish by
        rw [HRJ.out, loop_step f' (pts xs) S hjS, hh]
        show (match partR (S.drop k) with
          | none => none
          | some (p, r) => loopR f' (pts xs ++ [{ p with near := near }]) r).bind finish = _
        rw [hp]))
      obtain ⟨g, rfl⟩ := toks_form HT.out (by intro e0; rw [e0] at hjS; simp at hjS)
      have hemp : (pts xs).isEmpty = decide (d = 0) := by
        have h1 : (pts xs).length = d := by rw [← HD.out]; simp [pts]
        rw [← h1]
        cases pts xs <;> simp
      have HEMP := Lib.hid hemp
      have HW2 := Lib.hid hB.size
      have HBR := Lib.hid hB
      clear hemp hjS
      generalize wr = wA at *
      go_upto_if 22 with (fail)
      go_cut [7, 8, 9] from 16 to 72 (fun s7 s8 s9 wx => ∃ (k : Nat) (near : Bool), s7 = .int .i64 (k : Int) ∧ s8 = .bool near ∧ j ≤ k ∧ k ≤ m ∧ Hid (aheadR (pts xs).isEmpty (S.drop j) = some (near, S.drop k)) ∧ Below wA.heap.size wA wx)
      case first =>
        by_cases hd0 : d = 0
        · have hd0' : ¬ 0 < d := by omega
          have HAH := Lib.hid (show aheadR (pts xs).isEmpty (S.drop j) = some (false, S.drop j) by rw [HEMP.out, decide_eq_true hd0]; rfl)
          clear hd0
          go_wp2_with fail
          go_meet
          exact ⟨j, false, rfl, rfl, Nat.le_refl _, hj, HAH, Below.refl _ _⟩
        · have hd0' : 0 < d := by omega
          have HE2 := Lib.hid (show (pts xs).isEmpty = false by rw [HEMP.out, decide_eq_false hd0])
          clear hd0
          rw [decide_eq_true hd0']
          go_wp2_with fail
          go_loopg [7, 8, 9] (m - j) (fun kx s7 s8 s9 wi => ∃ (k n : Nat) (b : Bool), s7 = .int .i64 (k : Int) ∧ s8 = .bool b ∧ s9 = .int .i64 (n : Int) ∧ j + n = k ∧ k ≤ m ∧ kx = m - k ∧ Hid (sepsR false 0 (S.drop j) = sepsR b n (S.drop k)) ∧ Below wA.heap.size wA wi)
          case atStart => exact ⟨j, 0, false, rfl, rfl, rfl, rfl, hj, rfl, Lib.hid rfl, Below.refl _ _⟩
          case round =>
            obtain ⟨k, n, b, rfl, rfl, rfl, hjk, hkm, hkx, HSP, hBi⟩ := hrel
            by_cases hlk : k < m
            · have hlk' : (k : Int) < (m : Int) := by omega
              have k0' : (0 : Int) ≤ (k : Int) := by omega
              obtain ⟨x, hx⟩ : ∃ x, S[k]? = some x := ⟨_, List.getElem?_eq_getElem (by rw [HM.out]; exact hlk)⟩
              have HSS := Lib.hid (seps_step b n hx)
              rw [sep_is] at HSS
              have HC := Lib.hid (fun W (hW : Below wA.heap.size wA W) => toks_cells (own_below HT.out hW) hx)
              obtain ⟨c0, c1, c2⟩ := HC.out wr hBi
              clear hx
              by_cases h5 : x.k = 5
              · have h5' : (x.k == 5) = true := by simp [h5]
                have hgt := isSp_not h5
                have HS := Lib.hid (fun W => (by have := Is5_spec x 62 W; rw [hgt] at this; exact this : Calls Tryz.prog 101 #[.agg #[.int .i64 x.k, .string ⟨x.t.toArray⟩, .int .i64 x.n], .string ⟨#[62]⟩] W (Ans (.bool false) W)))
                have HSP2 := Lib.hid (show sepsR false 0 (S.drop j) = sepsR b (n + 1) (S.drop (k + 1)) by rw [HSP.out, HSS.out, h5', hgt]; rfl)
                clear h5 hgt
                go_wp2_with fail
                refine (HS.out _).mono ?_
                rintro e w5 ⟨rfl, g5⟩
                go_wp2_with fail
                go_roundg (m - (k + 1))
                case measure => omega
                case rel => exact ⟨k + 1, n + 1, b, by go_num, rfl, by go_num, by omega, by omega, rfl, HSP2, hBi.trans (g5.mono hBi.size)⟩
              · have h5' : (x.k == 5) = false := by simp [h5]
                clear h5
                cases hgt : signIs x 62
                · have HS := Lib.hid (fun W => (by have := Is5_spec x 62 W; rw [hgt] at this; exact this : Calls Tryz.prog 101 #[.agg #[.int .i64 x.k, .string ⟨x.t.toArray⟩, .int .i64 x.n], .string ⟨#[62]⟩] W (Ans (.bool false) W)))
                  have HSP2 := Lib.hid (show sepsR false 0 (S.drop j) = some (b, n, S.drop k) by rw [HSP.out, HSS.out, h5', hgt]; rfl)
                  clear hgt
                  by_cases hn0 : n = 0
                  · have HK := Lib.hid (HNONE.out (by rw [HE2.out]; exact ahead_zero (by rw [HSP2.out, hn0])))
                    have hn0' : ((n : Int) == 0) = true := by simp [hn0]
                    clear hn0
                    go_wp2_with fail
                    refine (HS.out _).mono ?_
                    rintro e w5 ⟨rfl, g5⟩
                    have hB5 := HBR.out.trans ((hBi.trans (g5.mono hBi.size)).mono (by have := HW2.out; omega))
                    go_wp2_with fail
                    go_ret2
                    exact ⟨_, _, [], rfl, by rw [HK.out]; rfl, (HEND.out _ hB5).1, by rw [HK.out]; rfl, (HEND.out _ hB5).2⟩
                  · have HAH := Lib.hid (show aheadR (pts xs).isEmpty (S.drop j) = some (b, S.drop k) by rw [HE2.out]; exact ahead_some HSP2.out hn0)
                    have hn0' : ((n : Int) == 0) = false := by simp [hn0]
                    clear hn0
                    go_wp2_with fail
                    refine (HS.out _).mono ?_
                    rintro e w5 ⟨rfl, g5⟩
                    go_wp2_with fail
                    go_meet
                    exact ⟨k, b, rfl, rfl, by omega, by omega, HAH, hBi.trans (g5.mono hBi.size)⟩
                · have HS := Lib.hid (fun W => (by have := Is5_spec x 62 W; rw [hgt] at this; exact this : Calls Tryz.prog 101 #[.agg #[.int .i64 x.k, .string ⟨x.t.toArray⟩, .int .i64 x.n], .string ⟨#[62]⟩] W (Ans (.bool true) W)))
                  cases b
                  · have HSP2 := Lib.hid (show sepsR false 0 (S.drop j) = sepsR true (n + 1) (S.drop (k + 1)) by rw [HSP.out, HSS.out, h5', hgt]; rfl)
                    clear hgt
                    go_wp2_with fail
                    refine (HS.out _).mono ?_
                    rintro e w5 ⟨rfl, g5⟩
                    have hB5 := hBi.trans (g5.mono hBi.size)
                    obtain ⟨c3, c4, c5⟩ := HC.out w5 hB5
                    go_wp2_with fail
                    refine (HS.out _).mono ?_
                    rintro e w6 ⟨rfl, g6⟩
                    go_wp2_with fail
                    go_roundg (m - (k + 1))
                    case measure => omega
                    case rel => exact ⟨k + 1, n + 1, true, by go_num, rfl, by go_num, by omega, by omega, rfl, HSP2, hB5.trans (g6.mono hB5.size)⟩
                  · have HK := Lib.hid (HNONE.out (by rw [HE2.out]; exact ahead_none (by rw [HSP.out, HSS.out, h5', hgt]; rfl)))
                    clear hgt
                    go_wp2_with fail
                    refine (HS.out _).mono ?_
                    rintro e w5 ⟨rfl, g5⟩
                    have hB5 := hBi.trans (g5.mono hBi.size)
                    obtain ⟨c3, c4, c5⟩ := HC.out w5 hB5
                    go_wp2_with fail
                    refine (HS.out _).mono ?_
                    rintro e w6 ⟨rfl, g6⟩
                    have hB6 := HBR.out.trans ((hB5.trans (g6.mono hB5.size)).mono (by have := HW2.out; omega))
                    go_wp2_with fail
                    go_ret2
                    exact ⟨_, _, [], rfl, by rw [HK.out]; rfl, (HEND.out _ hB6).1, by rw [HK.out]; rfl, (HEND.out _ hB6).2⟩
            · have hlk' : ¬ (k : Int) < (m : Int) := by omega
              have HSP2 := Lib.hid (show sepsR false 0 (S.drop j) = some (b, n, S.drop k) by rw [HSP.out]; exact seps_end b n (by rw [HM.out]; omega))
              by_cases hn0 : n = 0
              · have HK := Lib.hid (HNONE.out (by rw [HE2.out]; exact ahead_zero (by rw [HSP2.out, hn0])))
                have hn0' : ((n : Int) == 0) = true := by simp [hn0]
                clear hn0
                have hB5 := HBR.out.trans (hBi.mono (by have := HW2.out; omega))
                go_wp2_with fail
                go_ret2
                exact ⟨_, _, [], rfl, by rw [HK.out]; rfl, (HEND.out _ hB5).1, by rw [HK.out]; rfl, (HEND.out _ hB5).2⟩
              · have HAH := Lib.hid (show aheadR (pts xs).isEmpty (S.drop j) = some (b, S.drop k) by rw [HE2.out]; exact ahead_some HSP2.out hn0)
                have hn0' : ((n : Int) == 0) = false := by simp [hn0]
                clear hn0
                go_wp2_with fail
                go_meet
                exact ⟨k, b, rfl, rfl, by omega, by omega, HAH, hBi⟩
      case rest =>
        obtain ⟨k, near, rfl, rfl, hjk, hkm, HAH, hBx⟩ := hcut
        have hTc := own_below HT.out hBx
        have hOc := HO.out.on hBx
        have hBc := HBR.out.trans (hBx.mono (by have := HW2.out; omega))
        have HRP := Lib.hid (ReadPart_spec S _ k wc (Toks.val hTc).slc (by rw [HM.out]; omega) (by rw [HM.out]; exact hkm))
        unfold Rp at HRP
        have HTC := Lib.hid hTc
        have HOC := Lib.hid hOc
        clear hTc hOc
        go_wp2_with fail
        refine HRP.out.mono ?_
        rintro e w5 ⟨⟨tg, idp, bs, nr0⟩, u, end_, rfl, hw5, g5, hnr, hm5⟩
        have hcase := rp_part (by rw [HM.out]; exact hkm) HSF.out (by rw [HM.out]; exact hm1) hm5
        have hB5 := hBc.trans (g5.mono (by have := hBc.size; have := HW2.out; omega))
        obtain ⟨w6, hst6, hl6, g6⟩ := pt_laid (x := ⟨⟨tg, idp, bs, nr0⟩, u⟩) (Words.slc hw5)
        have HST6 := Lib.hid hst6
        have hB6 := hB5.trans (g6.mono (by have := hB5.size; omega))
        have hO5 := HOC.out.on g5
        have hO6 := hO5.on g6
        have hT5 := own_below HTC.out g5
        have hT6 := own_below hT5 g6
        have hX6 := own_below hw5 g6
        have HAP := Lib.hid (fun (y : Pv) (hy : y ∈ xs) => late_apart (HOC.out.hs y hy) hw5)
        obtain ⟨ab, cb, rfl⟩ := words_shapeA hw5
        clear hm5 hst6 HRP
        rcases hcase with ⟨rfl, hpn⟩ | ⟨hne, hlt2, hle2, hps, hfit⟩
        · have HK := Lib.hid (HPN.out near _ HAH.out hpn)
          clear hpn hX6 hT6 hT5 hO6 hO5 hl6 hnr hw5
          go_wp2_with (first | ((with_reducible refine wp_store_at HST6.out ?_ ?_); exact And.intro rfl (And.intro rfl (And.intro rfl rfl))) | fail)
          go_ret2
          exact ⟨_, _, [], rfl, by rw [HK.out]; rfl, (HEND.out _ hB6).1, by rw [HK.out]; rfl, (HEND.out _ hB6).2⟩
        · have HK := Lib.hid (HPS.out near _ _ _ HAH.out hps)
          have HFT := Lib.hid hfit
          have hne' : ((end_ : Int) == (k : Int)) = false := by simp; omega
          rw [HM.out] at hle2
          have hX6' := own_baseA hX6 (show w.heap.size + 1 ≤ wc.heap.size by have := hBc.size; have := HW2.out; omega)
          have hnu := own_new hw5 (Nat.le_refl w5.heap.size)
          obtain ⟨d3, f3⟩ := hl6.2 3 _ rfl
          have hl7 := near_set (q := near) hl6
          have hO7 := OwnQ.new hO5 (Nat.le_refl _) hO6 (only_set w6 w5.heap.size 3 (.bool near))
          have hT7 := own_otherA hT6 (only_set w6 w5.heap.size 3 (.bool near)) (own_new hT5 (Nat.le_refl _))
          have hX7 := own_otherA hX6' (only_set w6 w5.heap.size 3 (.bool near)) hnu
          have hB7 := hB6.trans ((only_set w6 w5.heap.size 3 (.bool near)).below (B := w.heap.size + 1) (by have := hB5.size; omega) (by have := hB6.size; omega))
          have hs7 : (w6.setCell ⟨w5.heap.size, 3, none⟩ (.bool near)).heap.size = w6.heap.size := World.size_setCell _ _ _
          unfold ptL at hl7
          dsimp only at hl7
          have HL7 := Lib.hid (load_blk (P := Tryz.prog) (ty := 37) hl7 pt_wide)
          have hO8 := hO7.on ((Below.refl _ _).alloc (Nat.le_refl _) (.cells #[.string ⟨tg.toArray⟩, .string ⟨idp.toArray⟩, .slice ab bs.length cb, .bool near] 37))
          have hT8 := World.ownsRow.alloc hT7 (.cells #[.string ⟨tg.toArray⟩, .string ⟨idp.toArray⟩, .slice ab bs.length cb, .bool near] 37)
          have hX8 := World.ownsRow.alloc hX7 (.cells #[.string ⟨tg.toArray⟩, .string ⟨idp.toArray⟩, .slice ab bs.length cb, .bool near] 37)
          have hB8 := hB7.alloc (by have := hB7.size; omega) (.cells #[.string ⟨tg.toArray⟩, .string ⟨idp.toArray⟩, .slice ab bs.length cb, .bool near] 37)
          have HO8 := Lib.hid hO8
          have hown8 := hO8.own
          rw [HD.out] at hown8
          have HOW := Lib.hid hown8
          have HT8 := Lib.hid hT8
          have HX8 := Lib.hid hX8
          have HB8 := Lib.hid hB8
          have hsz8 : w.heap.size + 1 ≤ ((w6.setCell ⟨w5.heap.size, 3, none⟩ (.bool near)).alloc (.cells #[.string ⟨tg.toArray⟩, .string ⟨idp.toArray⟩, .slice ab bs.length cb, .bool near] 37)).heap.size := by have := hB8.size; omega
          have HSZ := Lib.hid hsz8
          clear hO5 hO6 hO7 hO8 hT5 hT6 hT7 hT8 hX6 hX6' hX7 hX8 hB7 hB8 hown8 hsz8 hl6 hl7 hnu hs7 hw5 hfit hps hnr
          go_wp2_with (first | ((with_reducible refine wp_store_at HST6.out ?_ ?_); exact And.intro rfl (And.intro rfl (And.intro rfl rfl))) | ((with_reducible refine wp_load_at HL7.out ?_ ?_); exact And.intro rfl (And.intro rfl rfl)) | (at_builtin; go_loud (refine wpList_append_own _ rfl _ _ 24 rfl (w.heap.size + 1) 37 i0 _ 4 64 Tryz.underlying24 hi hz0 hz1 hz2 rfl (by decide) _ d (ptRs xs).flatten rfl HOW.out _ 1 1 [.string ⟨tg.toArray⟩, .string ⟨idp.toArray⟩, .slice ab bs.length cb, .bool near] rfl rfl (news_ofS _ _ _ [.string ⟨tg.toArray⟩, .string ⟨idp.toArray⟩, .slice ab bs.length cb, .bool near] 37) (by simp [Value.oneCell']) (by unfold maxLen; omega) (by omega) HSZ.out ?_; intro v9 w9 hown9 hgrow9 _)))
          go_roundg (m - end_)
          case measure => omega
          case rel => exact ⟨end_, f', xs ++ [⟨⟨tg, idp, bs, near⟩, .slice ab bs.length cb⟩], rfl, hle2, rfl, by rw [List.length_append, HD.out]; simp; omega, ownQ_snoc (X := ⟨⟨tg, idp, bs, near⟩, .slice ab bs.length cb⟩) HO8.out HX8.out HAP.out (by rw [HD.out]; exact hown9) hgrow9, Lib.hid (row_grown (by decide) HT8.out HO8.out.own hgrow9), Lib.hid (fun y hy => by
            rcases List.mem_append.1 hy with hy | hy
            · exact HF.out y hy
            · obtain rfl : y = ⟨⟨tg, idp, bs, near⟩, .slice ab bs.length cb⟩ := by simpa using hy
              exact HFT.out (.slice ab bs.length cb)), by omega, Lib.hid (by rw [HK.out]; simp [pts]), HB8.out.grown hgrow9 HSZ.out (fun k' hk' => (World.ownsRow.lt HO8.out.own k' hk').1)⟩
    · have hlt' : ¬ (j : Int) < (m : Int) := by omega
      have HRE := Lib.hid (show R = finish (pts xs) by
        rw [HRJ.out, List.drop_of_length_le (by rw [HM.out]; omega)]
        obtain ⟨f', rfl⟩ : ∃ f', f = f' + 1 := ⟨f - 1, by omega⟩
        rw [loop_nil]; rfl)
      have HP := Lib.hid (PickOk_spec xs _ wr HO.out.slc HF.out (by rw [HD.out]; omega))
      cases hok : pickOk (pts xs)
      · have HK := Lib.hid (show R = none by rw [HRE.out]; unfold finish; rw [hok]; rfl)
        rw [hok] at HP
        clear hok
        go_wp2_with fail
        refine HP.out.mono ?_
        rintro e w4 ⟨rfl, g4⟩
        have hB4 := hB.trans (g4.mono (by have := hB.size; omega))
        go_wp2_with fail
        go_ret2
        exact ⟨_, _, [], rfl, by rw [HK.out]; rfl, (HEND.out _ hB4).1, by rw [HK.out]; rfl, (HEND.out _ hB4).2⟩
      · have HK := Lib.hid (show R = some (pts xs) by rw [HRE.out]; unfold finish; rw [hok]; rfl)
        rw [hok] at HP
        clear hok
        go_wp2_with fail
        refine HP.out.mono ?_
        rintro e w4 ⟨rfl, g4⟩
        have hB4 := hB.trans (g4.mono (by have := hB.size; omega))
        go_wp2_with fail
        go_ret2
        exact ⟨_, _, xs, rfl, by rw [HK.out]; rfl, (HO.out.on g4).base (Nat.le_succ _), by rw [HK.out]; rfl, (HEND.out _ hB4).2⟩

set_option maxRecDepth 20000 in
set_option maxHeartbeats 2000000 in
/-- The reference's ReadPick. -/
theorem ReadPick_spec (ts : List Tok) (v : Value) (w : World) (h : TokVal w v ts) (hf : ∀ x ∈ ts, TokFit x) (hs : ts.length ≤ 1048576) :
    Calls Tryz.prog 16 #[v] w (Picks (readPick ts) w) := by
  have HA := Lib.hid (AllS10 ts v w h hf (by omega))
  have HR := Lib.hid (fun w' (hb : Below w.heap.size w w') => Read10_spec ts v w' (h.on hb) (fun x hx => (hf x hx).2.2) hs)
  unfold Picks at HR
  obtain ⟨a, c, rfl, _⟩ := h.form
  cases hok : ts.all tokOk
  · have HK := Lib.hid (show readPick ts = none by unfold readPick; rw [hok]; rfl)
    rw [hok] at HA
    clear hok HR h hf
    generalize ts.length = n at *
    go_enter Tryz.func16, Tryz.ntmps16
    go_wp2_with fail
    refine HA.out.mono ?_
    rintro e w1 ⟨rfl, g1⟩
    have hn := ownQ_lit w1 g1.size
    have hb := g1.alloc g1.size (.cells #[] 37)
    go_wp2_with fail
    go_ret2
    exact ⟨_, _, [], rfl, by rw [HK.out]; rfl, hn, by rw [HK.out]; rfl, hb⟩
  · have HK := Lib.hid (show readPick ts = (loopR (ts.length + 1) [] (squeeze ts)).bind finish by unfold readPick; rw [hok]; rfl)
    rw [hok] at HA
    rw [← HK.out] at HR
    clear hok h hf HK
    generalize ts.length = n at *
    go_enter Tryz.func16, Tryz.ntmps16
    go_wp2_with fail
    refine HA.out.mono ?_
    rintro e w1 ⟨rfl, g1⟩
    go_wp2_with fail
    refine (HR.out _ g1).mono ?_
    rintro e w2 ⟨r, b, xs, rfl, rfl, hx, hp, g2⟩
    go_wp2_with fail
    go_ret2
    exact ⟨_, _, xs, rfl, rfl, hx.base g1.size, hp, g1.trans (g2.mono g1.size)⟩

end Go.Proofs.YtliihnkonakacaaGreatDoor.B10
