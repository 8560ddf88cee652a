/- Chapter 11: figures of the call's own, whose badges and notes are of the call's own and lie apart. -/
import Derived.Test.YtgaggpnlimchkaaGreatDoorBase11
namespace Go.Proofs.YtgaggpnlimchkaaGreatDoor.B11
open Go.Proofs.YtgaggpnlimchkaaGreatDoor.P1 Go.Proofs.YtgaggpnlimchkaaGreatDoor.B1 Go.Proofs.YtgaggpnlimchkaaGreatDoor.B2 Go.Proofs.YtgaggpnlimchkaaGreatDoor.T1 Go.Proofs.YtgaggpnlimchkaaGreatDoor.BT Go.Proofs.YtgaggpnlimchkaaGreatDoor.P5 Go.Proofs.YtgaggpnlimchkaaGreatDoor.B5 Go.Proofs.YtgaggpnlimchkaaGreatDoor.P6 Go.Proofs.YtgaggpnlimchkaaGreatDoor.P9 Go.Proofs.YtgaggpnlimchkaaGreatDoor.B6 Go.Proofs.YtgaggpnlimchkaaGreatDoor.B9 Go.Proofs.YtgaggpnlimchkaaGreatDoor.D1 Go.Proofs.YtgaggpnlimchkaaGreatDoor.W8 Go.Proofs.YtgaggpnlimchkaaGreatDoor.RC Go.Proofs.YtgaggpnlimchkaaGreatDoor.RI Go.Proofs.YtgaggpnlimchkaaGreatDoor.P10 Go.Proofs.YtgaggpnlimchkaaGreatDoor.B10 Go.Proofs.YtgaggpnlimchkaaGreatDoor.P11
open Go.ChangeShapes Go.WideShapes Go.ChangeAt Go.RowKit
set_option linter.unusedVariables false

/-- A row of notes of the call's own. -/
def Nots (W : World) (v : Value) (B : Nat) (ns : List No) : Prop := W.ownsRow B 107 9 v ns.length (noRs ns).flatten

theorem Nots.slc {W : World} {v : Value} {B : Nat} {ns : List No} (h : Nots W v B ns) : NoSlc W v ns := by
  have : RC.Own 107 9 W v B (noRs ns) := ⟨by rw [show (noRs ns).length = ns.length by simp [noRs]]; exact h, noRs_nine ns⟩
  exact this.val.slc

theorem row_baseG {w : World} {B B' e s n : Nat} {v : Value} {xs : List Value} (h : w.ownsRow B e s v n xs) (hb : B' ≤ B) : w.ownsRow B' e s v n xs := ⟨h.1, by
  rcases h.2 with hn | ⟨g, cap, cur, hv, hbg, rest⟩
  · exact .inl hn
  · exact .inr ⟨g, cap, cur, hv, Nat.le_trans hb hbg, rest⟩⟩

/-- Rows of two types lie apart. -/
theorem row_apartG {W : World} {B B' k m s s' e e' : Nat} {u v : Value} {xs ys : List Value} (hne : e ≠ e') (h : W.ownsRow B e s u k xs) (h' : W.ownsRow B' e' s' v m ys) : u.ownBlock = none ∨ u.ownBlock ≠ v.ownBlock := by
  rcases h.2 with ⟨rfl, _⟩ | ⟨g, cap, cur, rfl, _, hg, _⟩
  · exact Or.inl rfl
  · refine Or.inr fun e => ?_
    rcases h'.2 with ⟨rfl, _⟩ | ⟨g', cap', cur', rfl, _, hg', _⟩
    · cases e
    · have e1 : g = g' := Option.some.inj e
      subst e1
      rw [hg] at hg'
      have := Option.some.inj hg'
      injection this with _ h2 _
      exact absurd h2 hne

theorem row_grownG {W W' : World} {B B' k m s s' e e' : Nat} {u v : Value} {xs ys : List Value} (hne : e ≠ e') (h : W.ownsRow B e s u k xs) (h' : W.ownsRow B' e' s' v m ys) (hg : W.grownBy W' v.ownBlock) : W'.ownsRow B e s u k xs := h.kept hg (row_apartG hne h h')

/-- What was made later lies apart. -/
theorem late_G {W W' : World} {B e s n e' s' m : Nat} {u v : Value} {xs ys : List Value} (h : W.ownsRow B e s u n xs) (h' : W'.ownsRow W.heap.size e' s' v m ys) : u.ownBlock = none ∨ u.ownBlock ≠ v.ownBlock := by
  rcases h.2 with ⟨rfl, _⟩ | ⟨g, cap, cur, rfl, _, hg, _⟩
  · exact Or.inl rfl
  · refine Or.inr fun e => ?_
    have h1 := (World.ownsRow.lt h' g e.symm).1
    have h2 : g < W.heap.size := (Array.getElem?_eq_some_iff.1 hg).1
    omega

theorem row_onlyG {w w' : World} {B e size n c : Nat} {v : Value} {xs : List Value} (h : w.ownsRow B e size v n xs) (ho : Only c w w') (hc : c < B) : w'.ownsRow B e size v n xs := by
  have hne : v.ownBlock ≠ some c := fun e0 => by
    have := (World.ownsRow.lt h c e0).1
    omega
  exact h.kept (row := some c) ⟨ho.os, ho.tape, ho.output, ho.size, fun k hk hn => ho.block k (fun e0 => hn (by rw [e0])) hk⟩ (Or.inr hne)

theorem row_formG {w : World} {B e size n : Nat} {v : Value} {xs : List Value} (h : w.ownsRow B e size v n xs) : ∃ a c, v = .slice a n c ∧ n ≤ c ∧ c ≤ 9223372036854775807 := by
  rcases h.2 with ⟨rfl, rfl⟩ | ⟨g, cap, cur, rfl, hb, hg, hc, hm, rest⟩
  · exact ⟨none, 0, rfl, Nat.le_refl _, by omega⟩
  · exact ⟨_, cap, rfl, hc, by unfold maxLen at hm; omega⟩

/-- A figure whose badges and notes are of the call's own. -/
structure OneG (B : Nat) (y : Fv) (W : World) : Prop where
  b : Words W y.u B y.f.bs
  n : Nots W y.n B y.f.ns

theorem OneG.held {B : Nat} {y : Fv} {W : World} (h : OneG B y W) : HeldF W y := ⟨Words.slc h.b, h.n.slc⟩

theorem OneG.on {B : Nat} {y : Fv} {W W' : World} (h : OneG B y W) (hb : Below W.heap.size W W') : OneG B y W' := ⟨own_below h.b hb, own_below h.n hb⟩

theorem OneG.base {B B' : Nat} {y : Fv} {W : World} (h : OneG B y W) (hb : B' ≤ B) : OneG B' y W := ⟨row_baseG h.b hb, row_baseG h.n hb⟩

structure OwnG (B : Nat) (v : Value) (zs : List Fv) (W : World) : Prop where
  own : W.ownsRow B 28 5 v zs.length (fiRs zs).flatten
  hs : ∀ z ∈ zs, OneG B z W
  ab : zs.Pairwise fun x y => x.u.ownBlock = none ∨ x.u.ownBlock ≠ y.u.ownBlock
  an : zs.Pairwise fun x y => x.n.ownBlock = none ∨ x.n.ownBlock ≠ y.n.ownBlock

theorem OwnG.slc {B : Nat} {v : Value} {zs : List Fv} {W : World} (h : OwnG B v zs W) : FiSlc W v zs := by
  have : RC.Own 28 5 W v B (fiRs zs) := ⟨by rw [fiRs_len]; exact h.own, fiRs_five zs⟩
  exact ⟨this.val.slc, fun x hx => (h.hs x hx).held⟩

theorem OwnG.on {B : Nat} {v : Value} {zs : List Fv} {W W' : World} (h : OwnG B v zs W) (hb : Below W.heap.size W W') : OwnG B v zs W' :=
  ⟨own_below h.own hb, fun x hx => (h.hs x hx).on hb, h.ab, h.an⟩

theorem OwnG.base {B B' : Nat} {v : Value} {zs : List Fv} {W : World} (h : OwnG B v zs W) (hb : B' ≤ B) : OwnG B' v zs W :=
  ⟨row_baseG h.own hb, fun x hx => (h.hs x hx).base hb, h.ab, h.an⟩

theorem OwnG.form {B : Nat} {v : Value} {zs : List Fv} {W : World} (h : OwnG B v zs W) : ∃ a c, v = .slice a zs.length c := by
  rcases h.own.2 with ⟨rfl, h0⟩ | ⟨g, cap, cur, rfl, _⟩
  · exact ⟨none, 0, by rw [h0]⟩
  · exact ⟨_, _, rfl⟩

theorem ownG_lit (w : World) {B : Nat} (hB : B ≤ w.heap.size) : OwnG B (.slice (some ⟨w.heap.size, 0, none⟩) 0 0) [] (w.alloc (.cells #[] 28)) :=
  ⟨World.ownsRow_lit w #[] 0 hB (by decide) rfl, fun x hx => (by cases hx), List.Pairwise.nil, List.Pairwise.nil⟩

theorem fiRs_snoc (zs : List Fv) (Z : Fv) : (fiRs (zs ++ [Z])).flatten = (fiRs zs).flatten ++ fiL Z := by unfold fiRs; simp

theorem fiRs_flenG (xs : List Fv) : (fiRs xs).flatten.length = xs.length * 5 := by rw [flat_len (fiRs_five xs), fiRs_len]

/-- One figure more, whose rows were made since W0. -/
theorem ownG_snoc {B d : Nat} {v v7 : Value} {zs : List Fv} {Z : Fv} {W0 W W7 : World} (hd : zs.length = d) (h0 : OwnG B v zs W0) (h : OwnG B v zs W) (hZ : OneG W0.heap.size Z W) (hB : B ≤ W0.heap.size) (hown : W7.ownsRow B 28 5 v7 (d + 1) ((fiRs zs).flatten ++ fiL Z)) (hg : W.grownBy W7 v.ownBlock) : OwnG B v7 (zs ++ [Z]) W7 := by
  have hZB := hZ.base hB
  refine ⟨?_, fun x hx => ?_, ?_, ?_⟩
  · rw [fiRs_snoc, List.length_append, hd]
    exact hown
  · rcases List.mem_append.1 hx with hx | hx
    · exact ⟨row_grownG (by decide) (h.hs x hx).b h.own hg, row_grownG (by decide) (h.hs x hx).n h.own hg⟩
    · obtain rfl : x = Z := by simpa using hx
      exact ⟨row_grownG (by decide) hZB.b h.own hg, row_grownG (by decide) hZB.n h.own hg⟩
  · rw [List.pairwise_append]
    refine ⟨h.ab, List.pairwise_singleton _ _, fun x hx y hy => ?_⟩
    obtain rfl : y = Z := by simpa using hy
    exact late_G (h0.hs x hx).b hZ.b
  · rw [List.pairwise_append]
    refine ⟨h.an, List.pairwise_singleton _ _, fun x hx y hy => ?_⟩
    obtain rfl : y = Z := by simpa using hy
    exact late_G (h0.hs x hx).n hZ.n

end Go.Proofs.YtgaggpnlimchkaaGreatDoor.B11

namespace Go.Proofs.YtgaggpnlimchkaaGreatDoor.B11
open Go.Proofs.YtgaggpnlimchkaaGreatDoor.P1 Go.Proofs.YtgaggpnlimchkaaGreatDoor.B1 Go.Proofs.YtgaggpnlimchkaaGreatDoor.B2 Go.Proofs.YtgaggpnlimchkaaGreatDoor.T1 Go.Proofs.YtgaggpnlimchkaaGreatDoor.BT Go.Proofs.YtgaggpnlimchkaaGreatDoor.P5 Go.Proofs.YtgaggpnlimchkaaGreatDoor.B5 Go.Proofs.YtgaggpnlimchkaaGreatDoor.P6 Go.Proofs.YtgaggpnlimchkaaGreatDoor.P9 Go.Proofs.YtgaggpnlimchkaaGreatDoor.B6 Go.Proofs.YtgaggpnlimchkaaGreatDoor.B9 Go.Proofs.YtgaggpnlimchkaaGreatDoor.D1 Go.Proofs.YtgaggpnlimchkaaGreatDoor.W8 Go.Proofs.YtgaggpnlimchkaaGreatDoor.RC Go.Proofs.YtgaggpnlimchkaaGreatDoor.RI Go.Proofs.YtgaggpnlimchkaaGreatDoor.P10 Go.Proofs.YtgaggpnlimchkaaGreatDoor.B10 Go.Proofs.YtgaggpnlimchkaaGreatDoor.P11
open Go.ChangeShapes Go.WideShapes Go.ChangeAt Go.RowKit
set_option linter.unusedVariables false

theorem infoFiC : (Tryz.prog.info? 28).map (fun i => (i.zero, i.size, i.bytes)) = some (some (.agg #[.int .i64 0, .string ⟨#[]⟩, .string ⟨#[]⟩, .slice none 0 0, .slice none 0 0]), 5, 88) := by kernel_rfl
theorem infoNC : (Tryz.prog.info? 107).map (fun i => (i.zero, i.size, i.bytes)) = some (some (.agg #[.int .i64 0, .int .i64 0, .int .i64 0, .int .i64 0, .int .i64 0, .int .i64 0, .int .i64 0, .string ⟨#[]⟩, .bool false]), 9, 80) := by kernel_rfl

theorem flat_inv {m : Nat} : ∀ {rs : List (List Value)} {j : Nat} {u : Value}, (∀ r ∈ rs, r.length = m) → rs.flatten[j]? = some u → ∃ i c r, rs[i]? = some r ∧ r[c]? = some u ∧ j = i * m + c
  | [], j, u, _, h => by simp at h
  | x :: t, j, u, hm, h => by
    have hx := hm x (by simp)
    rw [List.flatten_cons] at h
    rcases Nat.lt_or_ge j m with hl | hl
    · rw [List.getElem?_append_left (by omega)] at h
      exact ⟨0, j, x, rfl, h, by omega⟩
    · rw [List.getElem?_append_right (by omega), hx] at h
      obtain ⟨i, c, r, h1, h2, h3⟩ := flat_inv (fun r hr => hm r (by simp [hr])) h
      exact ⟨i + 1, c, r, by simpa using h1, h2, by rw [Nat.add_mul]; omega⟩

theorem at_newsC {m : Nat} {W : World} {g off : Nat} {rs : List (List Value)} (h : RC.At m W g off rs) (hm : ∀ r ∈ rs, r.length = m) : ∀ j u, rs.flatten[j]? = some u → W.cell? ((⟨g, off, none⟩ : Addr).add j) = some u := fun j u hu => by
  obtain ⟨i, c, r, h1, h2, rfl⟩ := flat_inv hm hu
  have := h.cells i r h1 c u h2
  rw [Nat.add_assoc] at this
  rw [add_lit]
  exact this

theorem strRs_flat (ss : List (List UInt8)) : (strRs ss).flatten = wordsV ss := by
  induction ss with
  | nil => rfl
  | cons x r ih =>
    show [Value.string ⟨x.toArray⟩] ++ (strRs r).flatten = _
    rw [ih]; rfl

theorem strSlc_news {W : World} {a : Addr} {n c : Nat} {ss : List (List UInt8)} (h : StrSlc W (.slice (some a) n c) ss) : ∀ j u, (wordsV ss)[j]? = some u → W.cell? (a.add j) = some u := by
  obtain ⟨a', c', e, h1, h2, h3⟩ := h
  intro j u hu
  injection e with e1 _ _
  obtain ⟨g, off, ea, hat⟩ := h3 (by intro e0; rw [← strRs_flat, e0] at hu; simp at hu)
  rw [ea] at e1
  obtain rfl := Option.some.inj e1
  exact at_newsC hat (strRs_one ss) j u (by rw [strRs_flat]; exact hu)

theorem noSlc_news {W : World} {a : Addr} {n c : Nat} {ns : List No} (h : NoSlc W (.slice (some a) n c) ns) : ∀ j u, (noRs ns).flatten[j]? = some u → W.cell? (a.add j) = some u := by
  obtain ⟨a', c', e, h1, h2, h3⟩ := h
  intro j u hu
  injection e with e1 _ _
  obtain ⟨g, off, ea, hat⟩ := h3 (by intro e0; rw [e0] at hu; simp at hu)
  rw [ea] at e1
  obtain rfl := Option.some.inj e1
  exact at_newsC hat (noRs_nine ns) j u hu

theorem fiSlc_news {W : World} {a : Addr} {n c : Nat} {xs : List Fv} (h : FiSlc W (.slice (some a) n c) xs) : ∀ j u, (fiRs xs).flatten[j]? = some u → W.cell? (a.add j) = some u := by
  obtain ⟨⟨a', c', e, h1, h2, h3⟩, _⟩ := h
  intro j u hu
  injection e with e1 _ _
  obtain ⟨g, off, ea, hat⟩ := h3 (by intro e0; rw [e0] at hu; simp at hu)
  rw [ea] at e1
  obtain rfl := Option.some.inj e1
  exact at_newsC hat (fiRs_five xs) j u hu

theorem noRs_len (ns : List No) : (noRs ns).length = ns.length := by simp [noRs]
theorem noRs_flen (ns : List No) : (noRs ns).flatten.length = ns.length * 9 := by rw [flat_len (noRs_nine ns), noRs_len]
theorem noRs_ones (ns : List No) : ∀ u ∈ (noRs ns).flatten, u.oneCell' = true := fun u hu => by
  obtain ⟨r, hr, hu⟩ := List.mem_flatten.1 hu
  obtain ⟨n, _, rfl⟩ := List.mem_map.1 hr
  simp only [noL, List.mem_cons, List.not_mem_nil, or_false] at hu
  rcases hu with rfl | rfl | rfl | rfl | rfl | rfl | rfl | rfl | rfl <;> rfl
theorem wordsV_ones (ss : List (List UInt8)) : ∀ u ∈ wordsV ss, u.oneCell' = true := fun u hu => by
  obtain ⟨s, _, rfl⟩ := List.mem_map.1 hu
  rfl

theorem eql_nilC {P : Program} (w : World) {t e : TypeId} (a : Option Addr) (n c : Nat) (ht : P.underlying t = some (.slice e)) : (binOp .eql t (.slice a n c) (.slice none 0 0)).run P w = .ok (.bool a.isNone) w := by
  have h : ∀ d : Nat, (Op.equalIn (d + 1) t (.slice a n c) (.slice none 0 0)).run P w = .ok a.isNone w := fun d => by
    cases a <;> simp [Op.equalIn, run_underlying ht]
  simp only [binOp]
  simp [Op.equal, Op.maxDepth, h 9999]

/-- A copy of texts of the call's own. -/
def TextsC (ss : List (List UInt8)) (w : World) (e : Ending) (w' : World) : Prop := ∃ u, e = .returned u ∧ Words w' u w.heap.size ss ∧ Below w.heap.size w w'
def NotesC (ns : List No) (w : World) (e : Ending) (w' : World) : Prop := ∃ u, e = .returned u ∧ Nots w' u w.heap.size ns ∧ Below w.heap.size w w'

set_option maxRecDepth 20000 in
set_option maxHeartbeats 2000000 in
theorem CloneS_impl (ss : List (List UInt8)) (v : Value) (w : World) (h : StrSlc w v ss) (hs : ss.length ≤ 2000000) :
    Calls Tryz.prog 82 #[v] w (TextsC ss w) := by
  obtain ⟨i0, hi, hz0, hz1, hz2⟩ := info_parts infoStr
  obtain ⟨a, cap, rfl, hnc, hcap, hA⟩ := h.form
  cases a with
  | none =>
    have hx : ss = [] := by
      cases ss with
      | nil => rfl
      | cons x r =>
        obtain ⟨g, off, e, _⟩ := hA (by simp)
        cases e
    subst hx
    clear h hA
    have hnil := fun (w' : World) => eql_nilC (P := Tryz.prog) w' none 0 cap Tryz.underlying25
    go_enter Tryz.func82, Tryz.ntmps82
    go_wp2_with fail
    go_ret
    exact ⟨_, rfl, World.ownsRow_nil _ _ _ _, Below.refl _ _⟩
  | some ad =>
    have hB0 : Below w.heap.size w (w.alloc (.cells #[] 9)) := (Below.refl _ _).alloc (Nat.le_refl _) _
    have HNEW := Lib.hid (strSlc_news (StrSlc.on h hB0))
    have hl : (wordsV ss).length = ss.length * 1 := by simp [wordsV]
    have hlit : (w.alloc (.cells #[] 9)).ownsRow w.heap.size 9 1 (.slice (some ⟨w.heap.size, 0, none⟩) 0 0) 0 [] := World.ownsRow_lit w #[] 0 (Nat.le_refl _) (by decide) rfl
    obtain ⟨n, hn⟩ : ∃ n, ss.length = n := ⟨_, rfl⟩
    have HN := Lib.hid hn
    rw [hn] at hl hs ⊢
    have HL := Lib.hid hl
    clear h hA hn hl
    have hnil := fun (w' : World) => eql_nilC (P := Tryz.prog) w' (some ad) n cap Tryz.underlying25
    go_enter Tryz.func82, Tryz.ntmps82
    go_wp2_with (at_builtin; refine wpList_append_own _ rfl _ _ 25 rfl w.heap.size 9 i0 _ 1 16 Tryz.underlying25 hi hz0 hz1 hz2 rfl (by decide) _ 0 [] rfl hlit ad n cap (wordsV ss) rfl HL.out HNEW.out (wordsV_ones ss) (by unfold maxLen; omega) (by omega) hB0.size ?_; intro v4 w4 hown4 hgrow4 _; have hB4 := hB0.grown hgrow4 hB0.size (fun k hk => (World.ownsRow.lt hlit k hk).1))
    go_ret
    refine ⟨v4, rfl, ?_, hB4⟩
    unfold Words
    rw [HN.out]
    rw [Nat.zero_add, List.nil_append] at hown4
    exact hown4

set_option maxRecDepth 20000 in
set_option maxHeartbeats 2000000 in
theorem CloneN_impl (ns : List No) (v : Value) (w : World) (h : NoSlc w v ns) (hs : ns.length ≤ 2000000) :
    Calls Tryz.prog 83 #[v] w (NotesC ns w) := by
  obtain ⟨i0, hi, hz0, hz1, hz2⟩ := info_parts infoNC
  obtain ⟨a, cap, rfl, hnc, hcap, hA⟩ := h.form
  cases a with
  | none =>
    have hx : ns = [] := by
      cases ns with
      | nil => rfl
      | cons x r =>
        obtain ⟨g, off, e, _⟩ := hA (by simp)
        cases e
    subst hx
    clear h hA
    have hnil := fun (w' : World) => eql_nilC (P := Tryz.prog) w' none 0 cap Tryz.underlying26
    go_enter Tryz.func83, Tryz.ntmps83
    go_wp2_with fail
    go_ret
    exact ⟨_, rfl, World.ownsRow_nil _ _ _ _, Below.refl _ _⟩
  | some ad =>
    have hB0 : Below w.heap.size w (w.alloc (.cells #[] 107)) := (Below.refl _ _).alloc (Nat.le_refl _) _
    have HNEW := Lib.hid (noSlc_news (NoSlc.on h hB0))
    have hl : (noRs ns).flatten.length = ns.length * 9 := noRs_flen ns
    have hlit : (w.alloc (.cells #[] 107)).ownsRow w.heap.size 107 9 (.slice (some ⟨w.heap.size, 0, none⟩) 0 0) 0 [] := World.ownsRow_lit w #[] 0 (Nat.le_refl _) (by decide) rfl
    obtain ⟨n, hn⟩ : ∃ n, ns.length = n := ⟨_, rfl⟩
    have HN := Lib.hid hn
    rw [hn] at hl hs ⊢
    have HL := Lib.hid hl
    clear h hA hn hl
    have hnil := fun (w' : World) => eql_nilC (P := Tryz.prog) w' (some ad) n cap Tryz.underlying26
    go_enter Tryz.func83, Tryz.ntmps83
    go_wp2_with (at_builtin; refine wpList_append_own _ rfl _ _ 26 rfl w.heap.size 107 i0 _ 9 80 Tryz.underlying26 hi hz0 hz1 hz2 rfl (by decide) _ 0 [] rfl hlit ad n cap (noRs ns).flatten rfl HL.out HNEW.out (noRs_ones ns) (by unfold maxLen; omega) (by omega) hB0.size ?_; intro v4 w4 hown4 hgrow4 _; have hB4 := hB0.grown hgrow4 hB0.size (fun k hk => (World.ownsRow.lt hlit k hk).1))
    go_ret
    refine ⟨v4, rfl, ?_, hB4⟩
    unfold Nots
    rw [HN.out]
    rw [Nat.zero_add, List.nil_append] at hown4
    exact hown4

/-- A copy of one figure, with rows of the call's own. -/
def FigC (x : Fv) (w : World) (e : Ending) (w' : World) : Prop := ∃ y, e = .returned (fiV y) ∧ y.f = x.f ∧ OneG w.heap.size y w' ∧ Below w.heap.size w w'

set_option maxRecDepth 20000 in
set_option maxHeartbeats 4000000 in
theorem figureCopy_impl (x : Fv) (w : World) (h : HeldF w x) (hs : x.f.bs.length ≤ 2000000) (hs2 : x.f.ns.length ≤ 2000000) :
    Calls Tryz.prog 47 #[fiV x] w (FigC x w) := by
  obtain ⟨⟨abv, tag, id, bs, ns⟩, u, un⟩ := x
  dsimp only at hs hs2
  have HH := Lib.hid h
  obtain ⟨⟨a, cap, eu, hc1, hc2⟩, a2, cap2, en, hc3, hc4⟩ := heldF_form h
  dsimp only at eu hc1 en hc3
  subst eu en
  obtain ⟨W1, eW1⟩ : ∃ W1, w.alloc (.cells #[.int .i64 abv, .string ⟨tag.toArray⟩, .string ⟨id.toArray⟩, .slice a bs.length cap, .slice a2 ns.length cap2] 28) = W1 := ⟨_, rfl⟩
  have hB1 : Below w.heap.size w W1 := by rw [← eW1]; exact (Below.refl _ _).alloc (Nat.le_refl _) _
  have hz1 : W1.heap.size = w.heap.size + 1 := by rw [← eW1]; exact World.size_alloc _ _
  have hl1 : LBlk W1 w.heap.size [.int .i64 abv, .string ⟨tag.toArray⟩, .string ⟨id.toArray⟩, .slice a bs.length cap, .slice a2 ns.length cap2] := by rw [← eW1]; exact LBlk.new w _ _
  obtain ⟨W2, eW2⟩ : ∃ W2, W1.alloc (.cells #[.int .i64 0, .string ⟨#[]⟩, .string ⟨#[]⟩, .slice none 0 0, .slice none 0 0] 28) = W2 := ⟨_, rfl⟩
  have hB2 : Below w.heap.size w W2 := by rw [← eW2]; exact hB1.alloc hB1.size _
  have hz2 : W2.heap.size = w.heap.size + 1 + 1 := by rw [← eW2, World.size_alloc, hz1]
  have hr2 : LBlk W2 (w.heap.size + 1) fiZ := by rw [← eW2, ← hz1]; exact LBlk.new W1 fiZ _
  have hl2 : LBlk W2 w.heap.size [.int .i64 abv, .string ⟨tag.toArray⟩, .string ⟨id.toArray⟩, .slice a bs.length cap, .slice a2 ns.length cap2] := by rw [← eW2]; exact hl1.alloc _
  have HT := Lib.hid (CloneS_impl bs _ W2 (StrSlc.on HH.out.1 hB2) hs)
  rw [fiV_is]
  dsimp only
  have HW := Lib.hid (show (w.alloc (.cells #[.int .i64 abv, .string ⟨tag.toArray⟩, .string ⟨id.toArray⟩, .slice a bs.length cap, .slice a2 ns.length cap2] 28)).alloc (.cells #[.int .i64 0, .string ⟨#[]⟩, .string ⟨#[]⟩, .slice none 0 0, .slice none 0 0] 28) = W2 by rw [eW1, eW2])
  obtain ⟨nb, hnb⟩ : ∃ nb, bs.length = nb := ⟨_, rfl⟩
  obtain ⟨nn, hnn⟩ : ∃ nn, ns.length = nn := ⟨_, rfl⟩
  have HNB := Lib.hid hnb
  have HNN := Lib.hid hnn
  have HS2 := Lib.hid hs2
  have HX := Lib.hid (show HeldF w ⟨⟨abv, tag, id, bs, ns⟩, .slice a nb cap, .slice a2 nn cap2⟩ by rw [← hnb, ← hnn]; exact h)
  have c3 := (hl2.2 3 _ rfl).1
  have HZ2 := Lib.hid hz2
  have HL2 := Lib.hid hl2
  have HR2 := Lib.hid hr2
  rw [hnb] at c3
  rw [hnb, hnn] at HW HL2
  rw [hnb] at HT
  rw [hnb, hnn]
  clear h hc1 hc2 hc3 hc4 eW1 eW2 hB1 hz1 hz2 hl1 hl2 hr2 hs hs2 hnb hnn HH
  go_enter Tryz.func47, Tryz.ntmps47
  go_wp2_with fail
  rw [HW.out]
  refine HT.out.mono ?_
  rintro e w3 ⟨q, rfl, hq, g3⟩
  have hB3 := hB2.trans (g3.mono hB2.size)
  have hl3 := HL2.out.below g3
  have hr3 := HR2.out.below g3
  obtain ⟨aq, cq, rfl, hqc, _⟩ := row_formG hq
  obtain ⟨d3, f3⟩ := hl3.2 3 _ rfl
  have hl4 := hl3.set 3 (.slice aq bs.length cq) (by simp)
  have hr4 := hr3.set_other (show w.heap.size + 1 ≠ w.heap.size by omega) 3 (.slice aq bs.length cq)
  have hB4 := hB3.setCell (p := ⟨w.heap.size, 3, none⟩) (Nat.le_refl _) (.slice aq bs.length cq)
  have hon4 : Only w.heap.size w3 (w3.setCell ⟨w.heap.size, 3, none⟩ (.slice aq bs.length cq)) := (Only.refl w.heap.size w3).setCell (p := ⟨w.heap.size, 3, none⟩) rfl _
  have HQ4 := Lib.hid (show Words (w3.setCell ⟨w.heap.size, 3, none⟩ (.slice aq bs.length cq)) (.slice aq bs.length cq) W2.heap.size bs from row_onlyG hq hon4 (by have := HZ2.out; omega))
  have c4 := (hl4.2 4 _ rfl).1
  have HT2 := Lib.hid (CloneN_impl ns _ _ (NoSlc.on HX.out.2 hB4) HS2.out)
  have HL4 := Lib.hid hl4
  have HR4 := Lib.hid hr4
  have HB4 := Lib.hid hB4
  have HSZ := Lib.hid (show (w3.setCell ⟨w.heap.size, 3, none⟩ (.slice aq bs.length cq)).heap.size = w3.heap.size from World.size_setCell _ _ _)
  have HG3 := Lib.hid g3.size
  rw [HNB.out] at HQ4 HT2 HL4 HR4 HB4 HSZ c4 ⊢
  rw [HNB.out] at hqc
  clear hl3 hr3 hl4 hr4 hB4 hB3 hon4 hq g3 hB2 c3 HL2 HR2 HT HW
  go_wp2_with fail
  refine HT2.out.mono ?_
  rintro e w5 ⟨p, rfl, hp, g5⟩
  obtain ⟨ap, cp, rfl, hpc, _⟩ := row_formG hp
  have hl5 := HL4.out.below g5
  have hr5 := HR4.out.below g5
  obtain ⟨d4, f4⟩ := hl5.2 4 _ rfl
  have hq5 := own_below HQ4.out g5
  have hl6 := hl5.set 4 (.slice ap ns.length cp) (by simp)
  have hr6 := hr5.set_other (show w.heap.size + 1 ≠ w.heap.size by omega) 4 (.slice ap ns.length cp)
  have hon6 : Only w.heap.size w5 (w5.setCell ⟨w.heap.size, 4, none⟩ (.slice ap ns.length cp)) := (Only.refl w.heap.size w5).setCell (p := ⟨w.heap.size, 4, none⟩) rfl _
  have hB5 := HB4.out.trans (g5.mono HB4.out.size)
  have hB6 := hB5.setCell (p := ⟨w.heap.size, 4, none⟩) (Nat.le_refl _) (.slice ap ns.length cp)
  have hlow : w.heap.size + 1 + 1 ≤ w3.heap.size := by have := HZ2.out; have := HG3.out; omega
  rw [HSZ.out] at hp
  have hq6 := row_onlyG hq5 hon6 (by have := HZ2.out; omega)
  have hp6 := row_onlyG hp hon6 (by omega)
  obtain ⟨w7, hst7, hr7, hon7, _⟩ := store_blk (P := Tryz.prog) (ty := 28) (vs := fiL ⟨⟨abv, tag, id, bs, ns⟩, .slice aq nb cq, .slice ap ns.length cp⟩) hr6 fi_wide rfl rfl
  have HST := Lib.hid hst7
  have HL6 := Lib.hid (load_blk (P := Tryz.prog) (ty := 28) hl6 fi_wide)
  have hB7 := hB6.trans (hon7.below (show w.heap.size ≤ w.heap.size + 1 by omega) hB6.size)
  have hq7 := row_onlyG hq6 hon7 (by have := HZ2.out; omega)
  have hp7 := row_onlyG hp6 hon7 (by omega)
  have HONE := Lib.hid (show OneG w.heap.size ⟨⟨abv, tag, id, bs, ns⟩, .slice aq nb cq, .slice ap ns.length cp⟩ w7 from ⟨row_baseG hq7 (by have := HZ2.out; omega), row_baseG hp7 (by omega)⟩)
  unfold fiL at HST
  rw [HNN.out] at HST HL6 HONE hr7 ⊢
  dsimp only at HST
  clear hl5 hr5 hl6 hr6 hon6 hB5 hB6 hq5 hq6 hp6 hp hq7 hp7 hst7 hon7 g5
  go_wp2_with (first | ((with_reducible refine wp_load_at HL6.out ?_ ?_); exact And.intro rfl (And.intro rfl rfl)) | ((with_reducible refine wp_store_at HST.out ?_ ?_); exact And.intro rfl (And.intro rfl (And.intro rfl rfl))))
  exact bodyPost_ret (results_wide (load_blk hr7 fi_wide) rfl rfl) rfl ⟨_, rfl, rfl, HONE.out, hB7⟩

theorem news_ofC {w : World} {b : Nat} {vs : List Value} (h : LBlk w b vs) : ∀ j u, vs[j]? = some u → w.cell? ((⟨b, 0, none⟩ : Addr).add j) = some u := fun j u hu => by
  rw [add_lit, Nat.zero_add]
  exact (h.2 j u hu).1

theorem fiL_ones {W : World} {x : Fv} (h : HeldF W x) : ∀ u ∈ fiL x, u.oneCell' = true := List.all_eq_true.1 (fiL_one h)

theorem fis_snoc {xs ys : List Fv} {i : Nat} {x y : Fv} (h : fis ys = (fis xs).take i) (hx : xs[i]? = some x) (hy : y.f = x.f) : fis (ys ++ [y]) = (fis xs).take (i + 1) := by
  rw [List.take_add_one, fis_at hx, ← h]
  unfold fis
  rw [List.map_append, ← hy]; rfl

/-- A copy of a tree, with rows of the call's own. -/
def TreeC (fs : List Fi) (w : World) (e : Ending) (w' : World) : Prop := ∃ v ys, e = .returned v ∧ OwnG w.heap.size v ys w' ∧ fis ys = fs ∧ Below w.heap.size w w'

set_option maxRecDepth 20000 in
set_option maxHeartbeats 4000000 in
theorem treeCopy_impl (xs : List Fv) (v : Value) (w : World) (h : FiSlc w v xs) (hf : ∀ x ∈ xs, FitsF x) (hs : xs.length ≤ 2000000) :
    Calls Tryz.prog 46 #[v] w (TreeC (fis xs) w) := by
  obtain ⟨i0, hi, hz0, hz1, hz2⟩ := info_parts infoFiC
  have hB0 : Below w.heap.size w (w.alloc (.cells #[] 28)) := (Below.refl _ _).alloc (Nat.le_refl _) _
  have ho0 := ownG_lit w (Nat.le_refl w.heap.size)
  have HH := Lib.hid h.2
  have HF := Lib.hid hf
  obtain ⟨a, cap, rfl, hnc, hcap, hA⟩ := h.form
  obtain ⟨n, hn⟩ : ∃ n, xs.length = n := ⟨_, rfl⟩
  have HN := Lib.hid hn
  have HA := Lib.hid hA
  rw [hn] at hnc hs ⊢
  have hnc' : (n : Int) ≤ (cap : Int) := by omega
  have hs' : (n : Int) ≤ 2000000 := by omega
  clear h hf hcap hA hn
  go_enter Tryz.func46, Tryz.ntmps46
  go_wp2_with fail
  go_loopg [3, 9] n (fun kx s3 s9 wr => ∃ (i : Nat) (ys : List Fv), s9 = .int .i64 (i : Int) ∧ kx + i = n ∧ ys.length = i ∧ Hid (fis ys = (fis xs).take i) ∧ OwnG w.heap.size s3 ys wr ∧ Below w.heap.size w wr)
  case atStart => exact ⟨0, [], rfl, by omega, rfl, Lib.hid rfl, ho0, hB0⟩
  case round =>
    obtain ⟨i, ys, rfl, hki, hyl, HY, hown, hB⟩ := hrel
    clear ho0 hB0
    by_cases hlt : i < n
    · have hlt' : (i : Int) < (n : Int) := by omega
      have i0' : (0 : Int) ≤ (i : Int) := by omega
      obtain ⟨x, hx⟩ : ∃ x, xs[i]? = some x := ⟨_, List.getElem?_eq_getElem (by rw [HN.out]; exact hlt)⟩
      obtain ⟨g, off, rfl, hat⟩ := HA.out (by intro e0; rw [e0] at hx; cases hx)
      have hxm := List.mem_of_getElem? hx
      have HLD := Lib.hid (fi_load (hat.on hB) hx)
      have hfx := HF.out x hxm
      have hhx := (HH.out x hxm).on hB
      obtain ⟨w3, hst3, hx3, hb3⟩ := fi_laid wr hhx
      have HST3 := Lib.hid hst3
      have HL3 := Lib.hid (load_blk (P := Tryz.prog) (ty := 28) hx3 fi_wide)
      have HC := Lib.hid (figureCopy_impl x w3 (hhx.on hb3) (by have := hfx.2.2.2.1; omega) (by have := hfx.2.2.2.2.2.1; omega))
      have hB3 := hB.trans (hb3.mono hB.size)
      have hown3 := hown.on hb3
      obtain ⟨a3, c3, rfl⟩ := hown.form
      have HX := Lib.hid hx
      rw [hyl] at hown hown3 ⊢
      have HOW := Lib.hid hown3
      have HYL := Lib.hid hyl
      unfold fiV fiL at HC HLD HST3 HL3
      clear hx hat hxm hfx hhx hst3 hx3 hb3 hown hown3 hyl
      go_wp2_with (first | ((with_reducible refine wp_load_at HLD.out ?_ ?_); exact And.intro rfl (And.intro rfl rfl)) | ((with_reducible refine wp_store_at HST3.out ?_ ?_); exact And.intro rfl (And.intro rfl (And.intro rfl rfl))) | ((with_reducible refine wp_load_at HL3.out ?_ ?_); exact And.intro rfl (And.intro rfl rfl)))
      refine HC.out.mono ?_
      rintro e w5 ⟨y, rfl, hyf, hy5, g5⟩
      have hown5 := HOW.out.on g5
      have hB5 := hB3.trans (g5.mono hB3.size)
      obtain ⟨⟨au, cu, eu, _⟩, an, cn, en, _⟩ := heldF_form hy5.held
      have hfl := fiL_ones hy5.held
      have HYF := Lib.hid hyf
      obtain ⟨⟨abv, tg, idp, bs, ns⟩, u, un⟩ := y
      dsimp only at eu en
      subst eu en
      have hBa := hB5.alloc hB5.size (.cells (fiL ⟨⟨abv, tg, idp, bs, ns⟩, .slice au bs.length cu, .slice an ns.length cn⟩).toArray 28)
      have hba : Below w5.heap.size w5 (w5.alloc (.cells (fiL ⟨⟨abv, tg, idp, bs, ns⟩, .slice au bs.length cu, .slice an ns.length cn⟩).toArray 28)) := (Below.refl _ _).alloc (Nat.le_refl _) _
      have howna := hown5.on hba
      have hya := hy5.on hba
      have hna := news_ofC (LBlk.new w5 (fiL ⟨⟨abv, tg, idp, bs, ns⟩, .slice au bs.length cu, .slice an ns.length cn⟩) 28)
      have horow := howna.own
      rw [HYL.out] at horow
      rw [fiV_is]
      dsimp only
      go_wp2_with (at_builtin; refine wpList_append_own _ rfl _ _ 24 rfl w.heap.size 28 i0 _ 5 88 Tryz.underlying24 hi hz0 hz1 hz2 rfl (by decide) _ i (fiRs ys).flatten rfl horow ⟨w5.heap.size, 0, none⟩ 1 1 (fiL ⟨⟨abv, tg, idp, bs, ns⟩, .slice au bs.length cu, .slice an ns.length cn⟩) rfl rfl hna hfl (by unfold maxLen; omega) (by omega) hBa.size ?_; intro v7 w7 hown7 hgrow7 _)
      have HG := Lib.hid (ownG_snoc HYL.out HOW.out howna hya hB3.size hown7 hgrow7)
      go_roundg (n - (i + 1))
      case measure => omega
      case rel => exact ⟨i + 1, _, by go_num, by omega, by rw [List.length_append, HYL.out]; rfl, Lib.hid (fis_snoc HY.out HX.out HYF.out), HG.out, hBa.grown hgrow7 hBa.size (fun k' hk' => (World.ownsRow.lt horow k' hk').1)⟩
    · have hlt' : ¬ (i : Int) < (n : Int) := by omega
      have HD := Lib.hid (show fis ys = fis xs by
        have := HY.out
        rwa [List.take_of_length_le (by rw [fis_len, HN.out]; omega)] at this)
      obtain ⟨a3, c3, rfl⟩ := hown.form
      have HOW := Lib.hid hown
      subst hyl
      go_wp2_with fail
      go_ret
      exact ⟨_, ys, rfl, HOW.out, HD.out, hB⟩

end Go.Proofs.YtgaggpnlimchkaaGreatDoor.B11

namespace Go.Proofs.YtgaggpnlimchkaaGreatDoor.B11
open Go.Proofs.YtgaggpnlimchkaaGreatDoor.P1 Go.Proofs.YtgaggpnlimchkaaGreatDoor.B1 Go.Proofs.YtgaggpnlimchkaaGreatDoor.B2 Go.Proofs.YtgaggpnlimchkaaGreatDoor.T1 Go.Proofs.YtgaggpnlimchkaaGreatDoor.BT Go.Proofs.YtgaggpnlimchkaaGreatDoor.P5 Go.Proofs.YtgaggpnlimchkaaGreatDoor.B5 Go.Proofs.YtgaggpnlimchkaaGreatDoor.P6 Go.Proofs.YtgaggpnlimchkaaGreatDoor.P9 Go.Proofs.YtgaggpnlimchkaaGreatDoor.B6 Go.Proofs.YtgaggpnlimchkaaGreatDoor.B9 Go.Proofs.YtgaggpnlimchkaaGreatDoor.D1 Go.Proofs.YtgaggpnlimchkaaGreatDoor.W8 Go.Proofs.YtgaggpnlimchkaaGreatDoor.RC Go.Proofs.YtgaggpnlimchkaaGreatDoor.RI Go.Proofs.YtgaggpnlimchkaaGreatDoor.P10 Go.Proofs.YtgaggpnlimchkaaGreatDoor.B10 Go.Proofs.YtgaggpnlimchkaaGreatDoor.P11
open Go.ChangeShapes Go.WideShapes Go.ChangeAt Go.RowKit
set_option linter.unusedVariables false

/-- append behind a row of the call's own, whatever slice it takes. -/
theorem run_append_anyC {P : Program} (w : World) (base : Nat) (t ty e : TypeId) (i : TypeInfo) (z : Value) (size bytes : Nat) (ht : P.underlying t = some (.slice e)) (hi : P.info? e = some i) (hz : i.zero = some z)
    (hsize : i.size = size) (hby : i.bytes = bytes) (hzs : z.cells.size = size) (hsz : 0 < size)
    (v : Value) (n : Nat) (xs : List Value) (hown : w.ownsRow base e size v n xs)
    (ad : Option Addr) (m c : Nat) (news : List Value) (hl : news.length = m * size) (hnews : ∀ p, ad = some p → ∀ j u, news[j]? = some u → w.cell? (p.add j) = some u) (hnone : ad = none → m = 0) (h1 : ∀ u ∈ news, u.oneCell' = true)
    (h63 : n + m ≤ maxLen) (hbytes : (n + m) * bytes ≤ 140737488355328) (hbase : base ≤ w.heap.size) :
    ∃ v' w', (Builtin.append_ #[t, t] ty #[v, .slice ad m c]).run P w = .ok v' w' ∧ w'.ownsRow base e size v' (n + m) (xs ++ news) ∧ w.grownBy w' v.ownBlock := by
  cases ad with
  | some p =>
    obtain ⟨v', w', hr, h2, h3, _, _⟩ := run_append_own_at (P := P) w base t ty e i z size bytes ht hi hz hsize hby hzs hsz v n xs hown p m c news hl (hnews p rfl) h1 h63 hbytes hbase
    exact ⟨v', w', hr, h2, h3⟩
  | none =>
    have hm := hnone rfl
    subst hm
    have hn : news = [] := List.eq_nil_of_length_eq_zero (by simpa using hl)
    subst hn
    refine ⟨v, w, ?_, by rw [Nat.add_zero, List.append_nil]; exact hown, ⟨rfl, rfl, rfl, Nat.le_refl _, fun _ _ _ => rfl⟩⟩
    rcases hown.2 with ⟨rfl, rfl⟩ | ⟨g, cap, cur, rfl, _, _, hnc, _⟩
    · simp [Builtin.append_, run_underlying ht, sizeOf, typeInfo, hi, Builtin.lenOf, Builtin.firstCells]
    · simp [Builtin.append_, run_underlying ht, sizeOf, typeInfo, hi, Builtin.lenOf, Builtin.firstCells, hnc, storeCells]

theorem wpList_append_anyC {P : Program} {w : World} {ops : Array Oper} {rest : List Oper} {o : Oper} {a : Act} {Q : Exit → Act → World → Prop} (hgd : o.guard = none) (s x : Operand) (t : TypeId)
    (ho : o.op = .call { callee := .builtin .append, args := #[s, x], argTypes := #[t, t] })
    (base : Nat) (e : TypeId) (i : TypeInfo) (z : Value) (size bytes : Nat) (ht : P.underlying t = some (.slice e)) (hi : P.info? e = some i) (hz : i.zero = some z)
    (hsize : i.size = size) (hby : i.bytes = bytes) (hzs : z.cells.size = size) (hsz : 0 < size)
    (v : Value) (n : Nat) (xs : List Value) (hs : a.eval s = v) (hown : w.ownsRow base e size v n xs)
    (ad : Option Addr) (m c : Nat) (news : List Value) (hx : a.eval x = .slice ad m c) (hl : news.length = m * size) (hnews : ∀ p, ad = some p → ∀ j u, news[j]? = some u → w.cell? (p.add j) = some u) (hnone : ad = none → m = 0) (h1 : ∀ u ∈ news, u.oneCell' = true)
    (h63 : n + m ≤ maxLen) (hbytes : (n + m) * bytes ≤ 140737488355328) (hbase : base ≤ w.heap.size)
    (h : ∀ v' w', w'.ownsRow base e size v' (n + m) (xs ++ news) → w.grownBy w' v.ownBlock → wpList P ops Q rest (a.put o.dst v') w') :
    wpList P ops Q (o :: rest) a w := by
  refine wpList_plain hgd fun K hK => ?_
  obtain ⟨v', w', hr, h2, h3⟩ := run_append_anyC (P := P) w base t o.type e i z size bytes ht hi hz hsize hby hzs hsz v n xs hown ad m c news hl hnews hnone h1 h63 hbytes hbase
  unfold Oper.wp execOp
  simp only [ho, resolve, invoke, builtin, Sem.run_bind, Sem.run_pure, Result.andThen_ok, List.map_toArray, List.map_cons, List.map_nil, hs, hx, hr]
  exact hK _ _ (h v' w' h2 h3)

theorem strSlc_newsC {W : World} {a : Option Addr} {n c : Nat} {ss : List (List UInt8)} (h : StrSlc W (.slice a n c) ss) : (∀ p, a = some p → ∀ j u, (wordsV ss)[j]? = some u → W.cell? (p.add j) = some u) ∧ (a = none → n = 0) := by
  refine ⟨fun p e => by subst e; exact strSlc_news h, fun e => ?_⟩
  subst e
  obtain ⟨a', c', e, h1, h2, h3⟩ := h
  injection e with e1 e2 _
  subst e1
  rw [strRs_len] at e2
  cases ss with
  | nil => exact e2
  | cons x r =>
    obtain ⟨g, off, e, _⟩ := h3 (by simp [strRs])
    cases e

theorem noSlc_newsC {W : World} {a : Option Addr} {n c : Nat} {ns : List No} (h : NoSlc W (.slice a n c) ns) : (∀ p, a = some p → ∀ j u, (noRs ns).flatten[j]? = some u → W.cell? (p.add j) = some u) ∧ (a = none → n = 0) := by
  refine ⟨fun p e => by subst e; exact noSlc_news h, fun e => ?_⟩
  subst e
  obtain ⟨a', c', e, h1, h2, h3⟩ := h
  injection e with e1 e2 _
  subst e1
  rw [noRs_len] at e2
  cases ns with
  | nil => exact e2
  | cons x r =>
    obtain ⟨g, off, e, _⟩ := h3 (by simp [noRs])
    cases e

theorem fiSlc_newsC {W : World} {a : Option Addr} {n c : Nat} {xs : List Fv} (h : FiSlc W (.slice a n c) xs) : (∀ p, a = some p → ∀ j u, (fiRs xs).flatten[j]? = some u → W.cell? (p.add j) = some u) ∧ (a = none → n = 0) := by
  refine ⟨fun p e => by subst e; exact fiSlc_news h, fun e => ?_⟩
  subst e
  obtain ⟨⟨a', c', e, h1, h2, h3⟩, _⟩ := h
  injection e with e1 e2 _
  subst e1
  rw [fiRs_len] at e2
  cases xs with
  | nil => exact e2
  | cons x r =>
    obtain ⟨g, off, e, _⟩ := h3 (by simp [fiRs])
    cases e

theorem lblk_grownC {w w' : World} {b : Nat} {vs : List Value} {row : Option Nat} (h : LBlk w b vs) (hg : w.grownBy w' row) (hne : some b ≠ row) : LBlk w' b vs := by
  have ho : Only ((row.getD (b + 1))) w w' := ⟨hg.os, hg.tape, hg.output, hg.size, fun k hk hl => hg.block k hl (by
    intro e
    rw [← e] at hk
    exact hk rfl)⟩
  refine h.only ho ?_
  cases row with
  | none => simp
  | some g => intro e; exact hne (by rw [e]; rfl)

/-- A row of the call's own, where another of its rows has grown that was made later. -/
theorem row_laterC {W W' : World} {B e s n : Nat} {v : Value} {xs : List Value} {row : Option Nat} (h : W.ownsRow B e s v n xs) (hg : W.grownBy W' row) (hr : ∀ k, row = some k → v.ownBlock ≠ some k) : W'.ownsRow B e s v n xs := by
  refine h.kept hg ?_
  cases hv : v.ownBlock with
  | none => exact Or.inl rfl
  | some b =>
    refine Or.inr fun e0 => ?_
    exact hr b e0.symm hv

theorem row_freshC {W : World} {B e s n : Nat} {v : Value} {xs : List Value} (h : W.ownsRow B e s v n xs) {k : Nat} (hk : W.heap.size ≤ k) : v.ownBlock ≠ some k := fun e0 => by
  rcases h.2 with ⟨rfl, _⟩ | ⟨g, cap, cur, rfl, _, hg, _⟩
  · cases e0
  · have h1 := (Array.getElem?_eq_some_iff.1 hg).1
    have : g = k := Option.some.inj e0
    omega

set_option maxRecDepth 20000 in
set_option maxHeartbeats 4000000 in
theorem l11Copy_spec (xs : List Fv) (v : Value) (w : World) (h : FiSlc w v xs) (hf : ∀ x ∈ xs, FitsF x) (hs : xs.length ≤ 2000000) :
    Calls Tryz.prog 52 #[v] w (TreeC (fis xs) w) := by
  obtain ⟨i0, hi, hz0, hz1, hz2⟩ := info_parts infoFiC
  obtain ⟨i1, hi1, hs0, hs1, hs2⟩ := info_parts infoStr
  obtain ⟨i2, hi2, hn0, hn1, hn2⟩ := info_parts infoNC
  have hB0 : Below w.heap.size w (w.alloc (.cells #[] 28)) := (Below.refl _ _).alloc (Nat.le_refl _) _
  have ho0 := ownG_lit w (Nat.le_refl w.heap.size)
  have HH := Lib.hid h.2
  have HF := Lib.hid hf
  obtain ⟨a, cap, rfl, hnc, hcap, hA⟩ := h.form
  obtain ⟨n, hn⟩ : ∃ n, xs.length = n := ⟨_, rfl⟩
  have HN := Lib.hid hn
  have HA := Lib.hid hA
  rw [hn] at hnc hs ⊢
  have hnc' : (n : Int) ≤ (cap : Int) := by omega
  have hs' : (n : Int) ≤ 2000000 := by omega
  clear h hf hcap hA hn
  go_enter Tryz.func52, Tryz.ntmps52
  go_wp2_with fail
  go_loopg [3, 4] n (fun kx s3 s4 wr => ∃ (i : Nat) (ys : List Fv), s4 = .int .i64 (i : Int) ∧ kx + i = n ∧ ys.length = i ∧ Hid (fis ys = (fis xs).take i) ∧ OwnG w.heap.size s3 ys wr ∧ Below w.heap.size w wr)
  case atStart => exact ⟨0, [], rfl, by omega, rfl, Lib.hid rfl, ho0, hB0⟩
  case round =>
    obtain ⟨i, ys, rfl, hki, hyl, HY, hown, hB⟩ := hrel
    clear ho0 hB0
    by_cases hlt : i < n
    · have hlt' : (i : Int) < (n : Int) := by omega
      have i0' : (0 : Int) ≤ (i : Int) := by omega
      obtain ⟨x, hx⟩ : ∃ x, xs[i]? = some x := ⟨_, List.getElem?_eq_getElem (by rw [HN.out]; exact hlt)⟩
      obtain ⟨g, off, rfl, hat⟩ := HA.out (by intro e0; rw [e0] at hx; cases hx)
      have hxm := List.mem_of_getElem? hx
      have HLD := Lib.hid (fi_load (hat.on hB) hx)
      have hfx := HF.out x hxm
      have hbl : x.f.bs.length ≤ 1048576 := hfx.2.2.2.1
      have hnl : x.f.ns.length ≤ 1048576 := hfx.2.2.2.2.2.1
      have hhx := (HH.out x hxm).on hB
      have HX := Lib.hid hx
      obtain ⟨⟨abv, tag, id, bs, ns⟩, u, un⟩ := x
      dsimp only at hbl hnl
      obtain ⟨⟨ab, cb, eu, hcb1, hcb2⟩, an, cn, en, hcn1, hcn2⟩ := heldF_form hhx
      dsimp only at eu en hcb1 hcn1
      subst eu en
      obtain ⟨w3, hst3, hx3, hb3⟩ := fi_laid wr hhx
      have HST3 := Lib.hid hst3
      have hB3 := hB.trans (hb3.mono hB.size)
      have hown3 := hown.on hb3
      have hh3 := hhx.on hb3
      obtain ⟨a3, c3, rfl⟩ := hown.form
      rw [hyl] at hown hown3 ⊢
      have HOW := Lib.hid hown
      have hb5 : wr.heap.size < w3.heap.size := hx3.1
      -- the badges
      have hba : Below w3.heap.size w3 (w3.alloc (.cells #[] 9)) := (Below.refl _ _).alloc (Nat.le_refl _) _
      have hx4 := hx3.below hba
      have hlit : (w3.alloc (.cells #[] 9)).ownsRow w3.heap.size 9 1 (.slice (some ⟨w3.heap.size, 0, none⟩) 0 0) 0 [] := World.ownsRow_lit w3 #[] 0 (Nat.le_refl _) (by decide) rfl
      obtain ⟨hnw, hno⟩ := strSlc_newsC (StrSlc.on hh3.1 hba)
      have c43 := (hx4.2 3 _ rfl).1
      have hwl : (wordsV bs).length = bs.length * 1 := by simp [wordsV]
      have HHX := Lib.hid hhx
      have HBR := Lib.hid hb3
      unfold fiV fiL at HLD HST3
      dsimp only at HLD HST3
      have HX4 := Lib.hid hx4
      have HBA := Lib.hid hba
      have HYL := Lib.hid hyl
      clear hx hat hxm hfx hhx hst3 hx3 hb3 hown hown3 hyl hcb1 hcb2 hcn1 hcn2 hh3 hB3 hx4 hba
      go_wp2_with (first
        | ((with_reducible refine wp_load_at HLD.out ?_ ?_); exact And.intro rfl (And.intro rfl rfl))
        | ((with_reducible refine wp_store_at HST3.out ?_ ?_); exact And.intro rfl (And.intro rfl (And.intro rfl rfl)))
        | (at_builtin
           refine wpList_append_anyC rfl _ _ 25 rfl w3.heap.size 9 i1 _ 1 16 Tryz.underlying25 hi1 hs0 hs1 hs2 rfl (by decide) _ 0 [] rfl hlit ab bs.length cb (wordsV bs) rfl hwl hnw hno (wordsV_ones bs) (by unfold maxLen; omega) (by omega) HBA.out.size ?_
           intro v6 w6 hown6 hgrow6
           rw [Nat.zero_add, List.nil_append] at hown6
           obtain ⟨aq, cq, rfl, hq1, hq2⟩ := row_formG hown6
           have hb36 := HBA.out.grown hgrow6 HBA.out.size (fun k hk => (World.ownsRow.lt hlit k hk).1)
           have hz36 := hb36.size
           have hx6 := lblk_grownC HX4.out hgrow6 (fun e => by have : wr.heap.size = w3.heap.size := Option.some.inj e; omega)
           obtain ⟨d3, f3⟩ := hx6.2 3 _ rfl
           have hx7 := hx6.set 3 (.slice aq bs.length cq) (by show 3 < 5; decide)
           have hon7 : Only wr.heap.size w6 (w6.setCell ⟨wr.heap.size, 3, none⟩ (.slice aq bs.length cq)) := (Only.refl _ w6).setCell (p := ⟨wr.heap.size, 3, none⟩) rfl _
           have hbr7 := (HBR.out.trans (hb36.mono HBR.out.size)).setCell (p := ⟨wr.heap.size, 3, none⟩) (Nat.le_refl _) (.slice aq bs.length cq)
           have hq7 := row_onlyG hown6 hon7 hb5
           have hx8 := hx7.alloc (.cells #[] 107)
           have c84 := (hx8.2 4 _ rfl).1
           have hba8 : Below (w6.setCell ⟨wr.heap.size, 3, none⟩ (.slice aq bs.length cq)).heap.size (w6.setCell ⟨wr.heap.size, 3, none⟩ (.slice aq bs.length cq)) ((w6.setCell ⟨wr.heap.size, 3, none⟩ (.slice aq bs.length cq)).alloc (.cells #[] 107)) := (Below.refl _ _).alloc (Nat.le_refl _) _
           have hbr8 := hbr7.trans (hba8.mono hbr7.size)
           have hq8 := own_below hq7 hba8
           have hlit8 : ((w6.setCell ⟨wr.heap.size, 3, none⟩ (.slice aq bs.length cq)).alloc (.cells #[] 107)).ownsRow w6.heap.size 107 9 (.slice (some ⟨w6.heap.size, 0, none⟩) 0 0) 0 [] := by
             have := World.ownsRow_lit (e := 107) (size := 9) (w6.setCell ⟨wr.heap.size, 3, none⟩ (.slice aq bs.length cq)) #[] 0 (Nat.le_refl _) (by decide) rfl
             rwa [World.size_setCell] at this
           have hz8 : w6.heap.size ≤ ((w6.setCell ⟨wr.heap.size, 3, none⟩ (.slice aq bs.length cq)).alloc (.cells #[] 107)).heap.size := by rw [World.size_alloc, World.size_setCell]; omega
           obtain ⟨hnw8, hno8⟩ := noSlc_newsC (NoSlc.on HHX.out.2 hbr8)
           have HX8 := Lib.hid hx8
           have HBR8 := Lib.hid hbr8
           have HQ8 := Lib.hid hq8
           have HO6 := Lib.hid hown6
           clear hb36 hx6 hx7 hon7 hbr7 hq7 hx8 hba8 hbr8 hq8 hown6 hnw hno c43)
        | (at_builtin
           refine wpList_append_anyC rfl _ _ 26 rfl w6.heap.size 107 i2 _ 9 80 Tryz.underlying26 hi2 hn0 hn1 hn2 rfl (by decide) _ 0 [] rfl hlit8 an ns.length cn (noRs ns).flatten rfl (noRs_flen ns) hnw8 hno8 (noRs_ones ns) (by unfold maxLen; omega) (by omega) hz8 ?_
           intro v9 w9 hown9 hgrow9
           rw [Nat.zero_add, List.nil_append] at hown9
           obtain ⟨ap, cp, rfl, hp1, hp2⟩ := row_formG hown9
           have hlt6 : wr.heap.size < w6.heap.size := by omega
           have hx9 := lblk_grownC HX8.out hgrow9 (fun e => by have : wr.heap.size = w6.heap.size := Option.some.inj e; omega)
           have hbr9 := HBR8.out.grown hgrow9 HBR8.out.size (fun k hk => Nat.le_trans (Nat.le_of_lt hlt6) (World.ownsRow.lt hlit8 k hk).1)
           have hq9 := row_laterC HQ8.out hgrow9 (fun k e => row_freshC HO6.out (World.ownsRow.lt hlit8 k e).1)
           obtain ⟨d4, f4⟩ := hx9.2 4 _ rfl
           have hx10 := hx9.set 4 (.slice ap ns.length cp) (by show 4 < 5; decide)
           have hon10 : Only wr.heap.size w9 (w9.setCell ⟨wr.heap.size, 4, none⟩ (.slice ap ns.length cp)) := (Only.refl _ w9).setCell (p := ⟨wr.heap.size, 4, none⟩) rfl _
           have hbr10 := hbr9.setCell (p := ⟨wr.heap.size, 4, none⟩) (Nat.le_refl _) (.slice ap ns.length cp)
           have hq10 := row_onlyG hq9 hon10 hb5
           have hp10 := row_onlyG hown9 hon10 hlt6
           have HL10 := Lib.hid (load_blk (P := Tryz.prog) (ty := 28) hx10 fi_wide)
           have hone : OneG wr.heap.size ⟨⟨abv, tag, id, bs, ns⟩, .slice aq bs.length cq, .slice ap ns.length cp⟩ (w9.setCell ⟨wr.heap.size, 4, none⟩ (.slice ap ns.length cp)) := ⟨row_baseG hq10 (Nat.le_of_lt hb5), row_baseG hp10 (Nat.le_of_lt hlt6)⟩
           have hba11 : Below (w9.setCell ⟨wr.heap.size, 4, none⟩ (.slice ap ns.length cp)).heap.size (w9.setCell ⟨wr.heap.size, 4, none⟩ (.slice ap ns.length cp)) ((w9.setCell ⟨wr.heap.size, 4, none⟩ (.slice ap ns.length cp)).alloc (.cells (fiL ⟨⟨abv, tag, id, bs, ns⟩, .slice aq bs.length cq, .slice ap ns.length cp⟩).toArray 28)) := (Below.refl _ _).alloc (Nat.le_refl _) _
           have hbr11 := hbr10.trans (hba11.mono hbr10.size)
           have hone11 := hone.on hba11
           have howna := HOW.out.on hbr11
           have hfl := fiL_ones hone11.held
           have hna := news_ofC (LBlk.new (w9.setCell ⟨wr.heap.size, 4, none⟩ (.slice ap ns.length cp)) (fiL ⟨⟨abv, tag, id, bs, ns⟩, .slice aq bs.length cq, .slice ap ns.length cp⟩) 28)
           rw [World.size_setCell] at hna
           have horow := howna.own
           rw [HYL.out] at horow
           have HB11 := Lib.hid (hB.trans (hbr11.mono hB.size))
           unfold fiL at HL10
           dsimp only at HL10
           clear hx9 hbr9 hq9 hx10 hon10 hbr10 hq10 hp10 hone hba11 hown9 hnw8 hno8 c84)
        | ((with_reducible refine wp_load_at HL10.out ?_ ?_); exact And.intro rfl (And.intro rfl rfl))
        | (at_builtin
           refine wpList_append_own _ rfl _ _ 24 rfl w.heap.size 28 i0 _ 5 88 Tryz.underlying24 hi hz0 hz1 hz2 rfl (by decide) _ i (fiRs ys).flatten rfl horow ⟨w9.heap.size, 0, none⟩ 1 1 (fiL ⟨⟨abv, tag, id, bs, ns⟩, .slice aq bs.length cq, .slice ap ns.length cp⟩) rfl rfl hna hfl (by unfold maxLen; omega) (by omega) HB11.out.size ?_
           intro v12 w12 hown12 hgrow12 _
           have HG := Lib.hid (ownG_snoc HYL.out HOW.out howna hone11 hB.size hown12 hgrow12)
           have HBZ := Lib.hid (HB11.out.grown hgrow12 HB11.out.size (fun k' hk' => (World.ownsRow.lt horow k' hk').1)))
        | fail)
      go_roundg (n - (i + 1))
      case measure => omega
      case rel => exact ⟨i + 1, ys ++ [⟨⟨abv, tag, id, bs, ns⟩, .slice aq bs.length cq, .slice ap ns.length cp⟩], by go_num, by omega, by rw [List.length_append, HYL.out]; rfl, Lib.hid (fis_snoc HY.out HX.out rfl), HG.out, HBZ.out⟩
    · have hlt' : ¬ (i : Int) < (n : Int) := by omega
      have HD := Lib.hid (show fis ys = fis xs by
        have := HY.out
        rwa [List.take_of_length_le (by rw [fis_len, HN.out]; omega)] at this)
      obtain ⟨a3, c3, rfl⟩ := hown.form
      have HOW := Lib.hid hown
      subst hyl
      go_wp2_with fail
      go_ret
      exact ⟨_, ys, rfl, HOW.out, HD.out, hB⟩

end Go.Proofs.YtgaggpnlimchkaaGreatDoor.B11
