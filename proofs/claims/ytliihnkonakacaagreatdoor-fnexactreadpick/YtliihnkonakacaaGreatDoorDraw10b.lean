/- Draws of chapter 10: l10Draw. -/
import Derived.Test.YtliihnkonakacaaGreatDoorDraw10
namespace Go.Proofs.YtliihnkonakacaaGreatDoor.B10
open Go.Proofs.YtliihnkonakacaaGreatDoor.P1 Go.Proofs.YtliihnkonakacaaGreatDoor.B1 Go.Proofs.YtliihnkonakacaaGreatDoor.B2 Go.Proofs.YtliihnkonakacaaGreatDoor.T1 Go.Proofs.YtliihnkonakacaaGreatDoor.BT Go.Proofs.YtliihnkonakacaaGreatDoor.P5 Go.Proofs.YtliihnkonakacaaGreatDoor.B5 Go.Proofs.YtliihnkonakacaaGreatDoor.P6 Go.Proofs.YtliihnkonakacaaGreatDoor.B6 Go.Proofs.YtliihnkonakacaaGreatDoor.D1 Go.Proofs.YtliihnkonakacaaGreatDoor.D2 Go.Proofs.YtliihnkonakacaaGreatDoor.D5 Go.Proofs.YtliihnkonakacaaGreatDoor.DB Go.Proofs.YtliihnkonakacaaGreatDoor.W8 Go.Proofs.YtliihnkonakacaaGreatDoor.RC Go.Proofs.YtliihnkonakacaaGreatDoor.RI Go.Proofs.YtliihnkonakacaaGreatDoor.P10
open Go.ChangeShapes Go.WideShapes Go.ChangeAt Go.RowKit
set_option linter.unusedVariables false

/-- A part as a draw makes it. -/
def PtD (p : Pt) : Prop := p.tag.length ≤ 100 ∧ p.id.length ≤ 100 ∧ p.bs.length ≤ 10 ∧ ∀ s ∈ p.bs, s.length ≤ 100

/-- Parts of the call's own, with badges of the call's own. -/
structure OwnP (B : Nat) (v : Value) (xs : List Pv) (W : World) : Prop where
  own : W.ownsRow B 37 4 v xs.length (ptRs xs).flatten
  hs : ∀ x ∈ xs, Words W x.u B x.p.bs
  ok : ∀ x ∈ xs, PtD x.p

theorem OwnP.slc {B : Nat} {v : Value} {xs : List Pv} {W : World} (h : OwnP B v xs W) : PtSlc W v xs := by
  have : RC.Own 37 4 W v B (ptRs xs) := ⟨by rw [ptRs_len]; exact h.own, ptRs_four xs⟩
  exact ⟨this.val.slc, fun x hx => Words.slc (h.hs x hx)⟩

theorem OwnP.call {B c : Nat} {v : Value} {xs : List Pv} {W W' : World} (h : OwnP B v xs W) (ho : Only c W W') (hc : c < B) : OwnP B v xs W' :=
  ⟨own_onlyA h.own ho hc, fun x hx => own_onlyA (h.hs x hx) ho hc, h.ok⟩

theorem OwnP.on {B : Nat} {v : Value} {xs : List Pv} {W W' : World} (h : OwnP B v xs W) (hb : Below W.heap.size W W') : OwnP B v xs W' :=
  ⟨own_below h.own hb, fun x hx => own_below (h.hs x hx) hb, h.ok⟩

theorem OwnP.other {B b : Nat} {v : Value} {xs : List Pv} {W W' : World} (h : OwnP B v xs W) (ho : Only b W W') (h1 : some b ≠ v.ownBlock) (h2 : ∀ x ∈ xs, some b ≠ x.u.ownBlock) : OwnP B v xs W' :=
  ⟨own_otherA h.own ho h1, fun x hx => own_otherA (h.hs x hx) ho (h2 x hx), h.ok⟩

theorem own_new {w : World} {B e size k : Nat} {v : Value} {xs : List Value} (h : w.ownsRow B e size v k xs) {b : Nat} (hb : w.heap.size ≤ b) : some b ≠ v.ownBlock := by
  intro e'
  have := (World.ownsRow.lt h b e'.symm).2
  omega

/-- A row of texts and a row of parts lie apart. -/
theorem own_types {W : World} {B B' k m : Nat} {u v : Value} {xs ys : List Value} (h : W.ownsRow B 9 1 u k xs) (h' : W.ownsRow B' 37 4 v m ys) : u = .slice none 0 0 ∨ u.ownBlock ≠ v.ownBlock := by
  rcases h.2 with ⟨hu, _⟩ | ⟨g, cap, cur, rfl, _, hg, _⟩
  · exact Or.inl hu
  · refine Or.inr fun e => ?_
    rcases h'.2 with ⟨rfl, _⟩ | ⟨g', cap', cur', rfl, _, hg', _⟩
    · cases e
    · have e1 : g = g' := by
        have := Option.some.inj e
        exact this
      subst e1
      rw [hg] at hg'
      have := Option.some.inj hg'
      injection this with _ h2 _
      exact absurd h2 (by decide)

/-- Texts lie as they lay where a row of parts grows. -/
theorem words_grown {W W' : World} {B B' m : Nat} {u v : Value} {ss : List (List UInt8)} {ys : List Value} (h : Words W u B ss) (h' : W.ownsRow B' 37 4 v m ys) (hg : W.grownBy W' v.ownBlock) : Words W' u B ss := by
  rcases own_types h h' with hn | hn
  · exact h.kept hg (Or.inl (by rw [hn]; rfl))
  · exact h.kept hg (Or.inr hn)

/-- Between the parts of a draw: the part that is being made lies in block bp. -/
structure InP (c : Nat) (a : Option Addr) (len cap : Nat) (w : World) (bp : Nat) (v u : Value) (xs : List Pv) (ss : List (List UInt8)) (nr : Bool) (W : World) : Prop where
  fr : Fr c a len cap w W
  blk : ∃ tag id, tag.length ≤ 100 ∧ id.length ≤ 100 ∧ LBlk W bp [.string ⟨(tag : List UInt8).toArray⟩, .string ⟨(id : List UInt8).toArray⟩, u, .bool nr]
  bs : Words W u w.heap.size ss
  ps : OwnP w.heap.size v xs W
  lo : w.heap.size ≤ bp
  n1 : some bp ≠ u.ownBlock
  n2 : some bp ≠ v.ownBlock
  n3 : ∀ x ∈ xs, some bp ≠ x.u.ownBlock
  hc : c < w.heap.size
  okS : (∀ s ∈ ss, s.length ≤ 100) ∧ ss.length ≤ 10

theorem InP.call {c : Nat} {a : Option Addr} {len cap : Nat} {w : World} {bp : Nat} {v u : Value} {xs : List Pv} {ss : List (List UInt8)} {nr : Bool} {W W' : World} (h : InP c a len cap w bp v u xs ss nr W) (hc : Cur W' c a len cap) (ho : Only c W W') : InP c a len cap w bp v u xs ss nr W' := by
  obtain ⟨tag, id, h1, h2, hl⟩ := h.blk
  exact ⟨h.fr.call hc ho, ⟨tag, id, h1, h2, hl.only ho (by have := h.lo; have := h.hc; omega)⟩, own_onlyA h.bs ho h.hc, h.ps.call ho h.hc, h.lo, h.n1, h.n2, h.n3, h.hc, h.okS⟩

theorem InP.alloc {c : Nat} {a : Option Addr} {len cap : Nat} {w : World} {bp : Nat} {v u : Value} {xs : List Pv} {ss : List (List UInt8)} {nr : Bool} {W : World} (h : InP c a len cap w bp v u xs ss nr W) (o : Obj) : InP c a len cap w bp v u xs ss nr (W.alloc o) := by
  obtain ⟨tag, id, h1, h2, hl⟩ := h.blk
  exact ⟨h.fr.alloc o, ⟨tag, id, h1, h2, hl.alloc o⟩, World.ownsRow.alloc h.bs o, h.ps.on ((Below.refl _ _).alloc (Nat.le_refl _) _), h.lo, h.n1, h.n2, h.n3, h.hc, h.okS⟩

theorem only_set (W : World) (b o : Nat) (x : Value) : Only b W (W.setCell ⟨b, o, none⟩ x) := (Only.refl b W).setCell (p := ⟨b, o, none⟩) rfl x

theorem InP.tag {c : Nat} {a : Option Addr} {len cap : Nat} {w : World} {bp : Nat} {v u : Value} {xs : List Pv} {ss : List (List UInt8)} {nr : Bool} {W : World} (h : InP c a len cap w bp v u xs ss nr W) {s : List UInt8} (hs : s.length ≤ 100) : InP c a len cap w bp v u xs ss nr (W.setCell ⟨bp, 0, none⟩ (.string ⟨s.toArray⟩)) := by
  obtain ⟨tag, id, h1, h2, hl⟩ := h.blk
  have ho := only_set W bp 0 (.string ⟨s.toArray⟩)
  exact ⟨h.fr.set h.lo (by have := h.lo; have := h.hc; omega) 0 _, ⟨s, id, hs, h2, hl.set 0 _ (by simp)⟩, own_otherA h.bs ho h.n1, h.ps.other ho h.n2 h.n3, h.lo, h.n1, h.n2, h.n3, h.hc, h.okS⟩

theorem InP.ident {c : Nat} {a : Option Addr} {len cap : Nat} {w : World} {bp : Nat} {v u : Value} {xs : List Pv} {ss : List (List UInt8)} {nr : Bool} {W : World} (h : InP c a len cap w bp v u xs ss nr W) {s : List UInt8} (hs : s.length ≤ 100) : InP c a len cap w bp v u xs ss nr (W.setCell ⟨bp, 1, none⟩ (.string ⟨s.toArray⟩)) := by
  obtain ⟨tag, id, h1, h2, hl⟩ := h.blk
  have ho := only_set W bp 1 (.string ⟨s.toArray⟩)
  exact ⟨h.fr.set h.lo (by have := h.lo; have := h.hc; omega) 1 _, ⟨tag, s, h1, hs, hl.set 1 _ (by simp)⟩, own_otherA h.bs ho h.n1, h.ps.other ho h.n2 h.n3, h.lo, h.n1, h.n2, h.n3, h.hc, h.okS⟩

theorem InP.near {c : Nat} {a : Option Addr} {len cap : Nat} {w : World} {bp : Nat} {v u : Value} {xs : List Pv} {ss : List (List UInt8)} {nr : Bool} {W : World} (h : InP c a len cap w bp v u xs ss nr W) (q : Bool) : InP c a len cap w bp v u xs ss q (W.setCell ⟨bp, 3, none⟩ (.bool q)) := by
  obtain ⟨tag, id, h1, h2, hl⟩ := h.blk
  have ho := only_set W bp 3 (.bool q)
  exact ⟨h.fr.set h.lo (by have := h.lo; have := h.hc; omega) 3 _, ⟨tag, id, h1, h2, hl.set 3 _ (by simp)⟩, own_otherA h.bs ho h.n1, h.ps.other ho h.n2 h.n3, h.lo, h.n1, h.n2, h.n3, h.hc, h.okS⟩

theorem ownP_more {c : Nat} {a : Option Addr} {len cap : Nat} {w : World} {bp d : Nat} {v v7 u : Value} {xs : List Pv} {ss : List (List UInt8)} {nr : Bool} {W W7 : World} {t5 t6 : List UInt8} (hd : xs.length = d) (h : InP c a len cap w bp v u xs ss nr W) (hown : W7.ownsRow w.heap.size 37 4 v7 (d + 1) ((ptRs xs).flatten ++ [.string ⟨t5.toArray⟩, .string ⟨t6.toArray⟩, u, .bool nr])) (hg : W.grownBy W7 v.ownBlock) (h5 : t5.length ≤ 100) (h6 : t6.length ≤ 100) :
    OwnP w.heap.size v7 (xs ++ [⟨⟨t5, t6, ss, nr⟩, u⟩]) W7 := by
  refine ⟨?_, fun x hx => ?_, fun x hx => ?_⟩
  · have e : (ptRs (xs ++ [⟨⟨t5, t6, ss, nr⟩, u⟩])).flatten = (ptRs xs).flatten ++ [.string ⟨t5.toArray⟩, .string ⟨t6.toArray⟩, u, .bool nr] := by unfold ptRs; simp [ptL]
    rw [e, List.length_append, hd]
    exact hown
  · rcases List.mem_append.1 hx with hx | hx
    · exact words_grown (h.ps.hs x hx) h.ps.own hg
    · simp at hx
      subst hx
      exact words_grown h.bs h.ps.own hg
  · rcases List.mem_append.1 hx with hx | hx
    · exact h.ps.ok x hx
    · simp at hx
      subst hx
      exact ⟨h5, h6, h.okS.2, h.okS.1⟩

/-- Some parts of the call's own. -/
def DrawnP (m : Nat) (c : Nat) (a : Option Addr) (len cap : Nat) (w : World) (e : Ending) (w' : World) : Prop :=
  ∃ v xs, e = .returned v ∧ OwnP w.heap.size v xs w' ∧ xs.length ≤ m ∧ 1 ≤ xs.length ∧ Cur w' c a len cap ∧ Only c w w'

def tagWords : List (List UInt8) := [[98, 111, 120], [109, 97, 110], [115, 117, 110]]
def idWords : List (List UInt8) := [[97], [98]]

theorem infoPtD : (Tryz.prog.info? 37).map (fun i => (i.zero, i.size, i.bytes)) = some (some (.agg #[.string ⟨#[]⟩, .string ⟨#[]⟩, .slice none 0 0, .bool false]), 4, 64) := by kernel_rfl

theorem news_ofA {w : World} {b : Nat} {vs : List Value} (h : LBlk w b vs) : ∀ j u, vs[j]? = some u → w.cell? ((⟨b, 0, none⟩ : Addr).add j) = some u := fun j u hu => by
  rw [add_lit, Nat.zero_add]
  exact (h.2 j u hu).1

theorem news_ofS (W : World) (p : Addr) (x : Value) (vs : List Value) (T : TypeId) : ∀ j u, vs[j]? = some u → ((W.setCell p x).alloc (.cells vs.toArray T)).cell? ((⟨W.heap.size, 0, none⟩ : Addr).add j) = some u := by
  have h := LBlk.new (W.setCell p x) vs T
  rw [World.size_setCell] at h
  exact news_ofA h

theorem ownP_shape {B : Nat} {v : Value} {xs : List Pv} {W : World} (h : OwnP B v xs W) : ∃ a c, v = .slice a xs.length c := by
  rcases h.own.2 with ⟨rfl, h0⟩ | ⟨g, cap, cur, rfl, _⟩
  · exact ⟨none, 0, by rw [h0]⟩
  · exact ⟨_, _, rfl⟩

set_option maxRecDepth 20000 in
set_option maxHeartbeats 8000000 in
theorem Draw10_draw (w : World) (c : Nat) (a : Option Addr) (len cap : Nat) (h : Cur w c a len cap) :
    Calls Tryz.prog 138 #[.pointer (some ⟨c, 0, none⟩)] w (DrawnP 2 c a len cap w) := by
  obtain ⟨i0, hi, hz0, hz1, hz2⟩ := info_parts infoPtD
  have hF1 := (Fr.refl h).alloc (.cells #[] 37)
  have hcw := h.lt
  have ho1 : OwnP w.heap.size (.slice (some ⟨w.heap.size, 0, none⟩) 0 0) [] (w.alloc (.cells #[] 37)) := ⟨World.ownsRow_lit w #[] 0 (Nat.le_refl _) (by decide) rfl, fun x hx => (by cases hx), fun x hx => (by cases hx)⟩
  clear h
  go_enter Tryz.func138, Tryz.ntmps138
  go_wp2_with fail
  refine (Below_draw _ c a len cap 2 hF1.cur).mono ?_
  rintro e w2 ⟨x, ⟨hx0, hx1, _⟩, rfl, hc2, hon2⟩
  have hx1' := hx1 (by omega)
  obtain ⟨N, rfl⟩ : ∃ N : Nat, x = (N : Int) := ⟨x.toNat, by omega⟩
  have hF2 := hF1.call hc2 hon2
  have ho2 := ho1.call hon2 hcw
  have hN : N < 2 := by omega
  have hadd : IntKind.i64.wrap (1 + (N : Int)) = ((N + 1 : Nat) : Int) := by rw [IntKind.wrap_i64]; omega
  obtain ⟨N1, eN1⟩ : ∃ N1, N + 1 = N1 := ⟨_, rfl⟩
  rw [eN1] at hadd
  clear hF1 hc2 hon2 ho1 hx0 hx1 hx1'
  go_wp2_with fail
  go_loopg [3, 4] N1 (fun kx s3 s4 wr => ∃ (k : Nat) (xs : List Pv), s4 = .int .i64 (k : Int) ∧ k ≤ kx ∧ xs.length + k = N1 ∧ OwnP w.heap.size s3 xs wr ∧ Fr c a len cap w wr)
  case atStart => exact ⟨N1, [], rfl, Nat.le_refl _, by simp, ho2, hF2⟩
  case round =>
    obtain ⟨k, xs, rfl, hkk, hlen, hown, hF⟩ := hrel
    clear ho2 hF2
    by_cases hk0 : k = 0
    · subst hk0
      go_wp2_with fail
      go_ret
      exact ⟨_, xs, rfl, hown, by omega, by omega, hF.cur, hF.only⟩
    · have hk1 : 0 < k := by omega
      obtain ⟨a3, c3, rfl⟩ := ownP_shape hown
      obtain ⟨d, hd⟩ : ∃ d, xs.length = d := ⟨_, rfl⟩
      rw [hd] at hlen hown ⊢
      have HD := Lib.hid hd
      clear hd
      go_wp2_with fail
      refine (DrawBadges_draw _ c a len cap 2 (by decide) (by decide) hF.cur).mono ?_
      rintro e w3 ⟨u, ss, rfl, hu, hus, hul, hc3, hon3⟩
      have hF3 := hF.call hc3 hon3
      have hown3 := hown.call hon3 hcw
      have hu3 : Words w3 u w.heap.size ss := row_base hu hF.only.size
      obtain ⟨au, cu, rfl⟩ := words_shapeA hu3
      have hI : InP c a len cap w w3.heap.size (.slice a3 d c3) (.slice au ss.length cu) xs ss false (w3.alloc (.cells #[.string ⟨#[]⟩, .string ⟨#[]⟩, .slice au ss.length cu, .bool false] 37)) :=
        ⟨hF3.alloc _, ⟨[], [], by decide, by decide, LBlk.new w3 _ _⟩, World.ownsRow.alloc hu3 _, hown3.on ((Below.refl _ _).alloc (Nat.le_refl _) _), hF3.only.size, own_new hu3 (Nat.le_refl _), own_new hown3.own (Nat.le_refl _), fun x hx => own_new (hown3.hs x hx) (Nat.le_refl _), hcw, hus, by omega⟩
      clear hF hown hF3 hown3 hu hu3 hc3 hon3 hus hul
      obtain ⟨ns, hns⟩ : ∃ ns, ss.length = ns := ⟨_, rfl⟩
      rw [hns] at hI ⊢
      have HNS := Lib.hid hns
      clear hns
      generalize hbp : w3.heap.size = bp at hI
      go_wp2_with fail
      refine (Once_draw _ c a len cap 3 hI.fr.cur).mono ?_
      rintro e w5 ⟨q, rfl, hc5, ho5⟩
      have hI5 := hI.call hc5 ho5
      clear hI ho5 hc5
      go_upto_if 19 with (fail)
      go_cut [] from 10 to 60 (fun wx => InP c a len cap w bp (.slice a3 d c3) (.slice au ns cu) xs ss false wx)
      case first =>
        cases q
        · have hIa := hI5.alloc (.cells #[.string ⟨#[98, 111, 120]⟩, .string ⟨#[109, 97, 110]⟩, .string ⟨#[115, 117, 110]⟩] 9)
          have hla : LBlk (w5.alloc (.cells #[.string ⟨#[98, 111, 120]⟩, .string ⟨#[109, 97, 110]⟩, .string ⟨#[115, 117, 110]⟩] 9)) w5.heap.size (wordsV tagWords) := LBlk.new w5 (wordsV tagWords) 9
          have hcr : w5.heap.size ≠ c := Nat.ne_of_gt hI5.fr.cur.lt
          go_wp2_with fail
          refine (Below_draw _ c a len cap 3 hIa.fr.cur).mono ?_
          rintro e w6 ⟨l, ⟨hl0, hl1, _⟩, rfl, hc6, hon6⟩
          have hl1' := hl1 (by omega)
          obtain ⟨K, rfl⟩ : ∃ K : Nat, l = (K : Int) := ⟨l.toNat, by omega⟩
          have hI6 := hIa.call hc6 hon6
          obtain ⟨s, hsm, cs⟩ := picked (hla.only hon6 hcr) (K := K) (by show K < 3; omega)
          have hs100 : s.length ≤ 100 := by
            have : ∀ x ∈ tagWords, x.length ≤ 100 := by decide
            exact this s hsm
          have hK3 : (K : Int) < 3 := by omega
          have hK0 : (0 : Int) ≤ (K : Int) := by omega
          obtain ⟨t1, t2, _, _, hf⟩ := hI6.blk
          obtain ⟨d0, f0⟩ := hf.2 0 _ rfl
          have hI7 := hI6.tag hs100
          clear hI5 hIa hla hcr hc6 hon6 hl0 hl1 hl1' hsm hI6 hf
          go_wp2_with fail
          go_meet
          exact hI7
        · go_wp2_with fail
          go_meet
          exact hI5
      case rest =>
        clear hI5
        go_wp2_with fail
        refine (Once_draw _ c a len cap 5 hcut.fr.cur).mono ?_
        rintro e w6 ⟨q2, rfl, hc6, ho6⟩
        have hI6 := hcut.call hc6 ho6
        clear hcut hc6 ho6
        go_upto_if 27 with (fail)
        go_cut [] from 10 to 60 (fun wx => InP c a len cap w bp (.slice a3 d c3) (.slice au ns cu) xs ss false wx)
        case first =>
          cases q2
          · go_wp2_with fail
            go_meet
            exact hI6
          · have hIa := hI6.alloc (.cells #[.string ⟨#[97]⟩, .string ⟨#[98]⟩] 9)
            have hla : LBlk (w6.alloc (.cells #[.string ⟨#[97]⟩, .string ⟨#[98]⟩] 9)) w6.heap.size (wordsV idWords) := LBlk.new w6 (wordsV idWords) 9
            have hcr : w6.heap.size ≠ c := Nat.ne_of_gt hI6.fr.cur.lt
            go_wp2_with fail
            refine (Below_draw _ c a len cap 2 hIa.fr.cur).mono ?_
            rintro e w7 ⟨l, ⟨hl0, hl1, _⟩, rfl, hc7, hon7⟩
            have hl1' := hl1 (by omega)
            obtain ⟨K, rfl⟩ : ∃ K : Nat, l = (K : Int) := ⟨l.toNat, by omega⟩
            have hI7 := hIa.call hc7 hon7
            obtain ⟨s, hsm, cs⟩ := picked (hla.only hon7 hcr) (K := K) (by show K < 2; omega)
            have hs100 : s.length ≤ 100 := by
              have : ∀ x ∈ idWords, x.length ≤ 100 := by decide
              exact this s hsm
            have hK3 : (K : Int) < 2 := by omega
            have hK0 : (0 : Int) ≤ (K : Int) := by omega
            obtain ⟨t1, t2, _, _, hf⟩ := hI7.blk
            obtain ⟨d1, f1⟩ := hf.2 1 _ rfl
            have hI8 := hI7.ident hs100
            clear hI6 hIa hla hcr hc7 hon7 hl0 hl1 hl1' hsm hI7 hf
            go_wp2_with fail
            go_meet
            exact hI8
        case rest =>
          clear hI6
          obtain ⟨t1, t2, ht1, ht2, hf⟩ := hcut.blk
          obtain ⟨d0, f0⟩ := hf.2 0 _ rfl
          obtain ⟨d1, f1⟩ := hf.2 1 _ rfl
          obtain ⟨d2, f2⟩ := hf.2 2 _ rfl
          have e1 : (t1 == []) = decide (t1 = []) := by cases t1 <;> rfl
          have e2 : (t2 == []) = decide (t2 = []) := by cases t2 <;> rfl
          go_upto_region 10 with (fail)
          go_cut [47] from 10 to 60 (fun s47 wx => (∃ q : Bool, s47 = .bool q) ∧ InP c a len cap w bp (.slice a3 d c3) (.slice au ns cu) xs ss false wx)
          case first =>
            by_cases h1 : t1 = []
            · rw [decide_eq_true h1] at e1
              by_cases h2 : t2 = []
              · rw [decide_eq_true h2] at e2
                clear h1 h2
                by_cases h3 : ns = 0
                · have h3' : ((ns : Int) == 0) = true := by simp [h3]
                  go_wp2_with fail
                  go_meet
                  exact ⟨⟨_, rfl⟩, hcut⟩
                · have h3' : ((ns : Int) == 0) = false := by simp [h3]
                  go_wp2_with fail
                  go_meet
                  exact ⟨⟨_, rfl⟩, hcut⟩
              · rw [decide_eq_false h2] at e2
                clear h1 h2
                go_wp2_with fail
                go_meet
                exact ⟨⟨_, rfl⟩, hcut⟩
            · rw [decide_eq_false h1] at e1
              clear h1
              go_wp2_with fail
              go_meet
              exact ⟨⟨_, rfl⟩, hcut⟩
          case rest =>
            clear d0 f0 d1 f1 d2 f2 e1 e2 hf
            obtain ⟨⟨q3, rfl⟩, hI9⟩ := hcut
            obtain ⟨r1, r2, hr1, hr2, hf9⟩ := hI9.blk
            obtain ⟨d0, f0⟩ := hf9.2 0 _ rfl
            have hI10 := hI9.tag (s := [98, 111, 120]) (by decide)
            go_upto_if 47 with (fail)
            go_cut [] from 10 to 60 (fun wx => InP c a len cap w bp (.slice a3 d c3) (.slice au ns cu) xs ss false wx)
            case first =>
              cases q3
              · go_wp2_with fail
                go_meet
                exact hI9
              · go_wp2_with fail
                go_meet
                exact hI10
            case rest =>
              clear hI10 hI9 d0 f0 hf9
              obtain ⟨t3, t4, ht3, ht4, hf⟩ := hcut.blk
              by_cases hd0 : d = 0
              · have hd0' : ¬ 0 < d := by omega
                clear hd0
                obtain ⟨d3, f3⟩ := hf.2 3 _ rfl
                have hI11 := hcut.near false
                clear hcut hf hr1 hr2
                obtain ⟨t5, t6, ht5, ht6, hf11⟩ := hI11.blk
                have HL11 := Lib.hid (load_blk (P := Tryz.prog) (ty := 37) hf11 pt_wide)
                go_wp2_with (first | ((with_reducible refine wp_load_at HL11.out ?_ ?_); exact And.intro rfl (And.intro rfl rfl)) | (at_builtin; go_loud (refine wpList_append_own _ rfl _ _ 24 rfl w.heap.size 37 i0 _ 4 64 Tryz.underlying24 hi hz0 hz1 hz2 rfl (by decide) _ d (ptRs xs).flatten rfl (by have := (hI11.alloc (.cells #[.string ⟨t5.toArray⟩, .string ⟨t6.toArray⟩, .slice au ns cu, .bool false] 37)).ps.own; rw [HD.out] at this; exact this) _ 1 1 [.string ⟨t5.toArray⟩, .string ⟨t6.toArray⟩, .slice au ns cu, .bool false] rfl rfl (news_ofS _ _ _ [.string ⟨t5.toArray⟩, .string ⟨t6.toArray⟩, .slice au ns cu, .bool false] 37) (by simp [Value.oneCell']) (by unfold maxLen; omega) (by omega) (hI11.alloc (.cells #[.string ⟨t5.toArray⟩, .string ⟨t6.toArray⟩, .slice au ns cu, .bool false] 37)).fr.only.size ?_; intro v7 w7 hown7 hgrow7 _)))
                go_roundg (k - 1)
                case measure => omega
                case rel =>
                  have hA := hI11.alloc (.cells #[.string ⟨t5.toArray⟩, .string ⟨t6.toArray⟩, .slice au ns cu, .bool false] 37)
                  exact ⟨k - 1, xs ++ [⟨⟨t5, t6, ss, false⟩, .slice au ns cu⟩], by go_num, by omega, by rw [List.length_append, HD.out]; simp; omega, ownP_more HD.out hA hown7 hgrow7 ht5 ht6, fr_grown hA.fr hcw hgrow7 (fun k' hk' => (World.ownsRow.lt hA.ps.own k' hk').1)⟩
              · have hd0' : 0 < d := by omega
                go_wp2_with fail
                refine (Once_draw _ c a len cap 2 hcut.fr.cur).mono ?_
                rintro e w9 ⟨nr, rfl, hc9, ho9⟩
                have hI9 := hcut.call hc9 ho9
                obtain ⟨d3, f3⟩ := (hf.only ho9 (by have := hI9.lo; have := hI9.hc; omega)).2 3 _ rfl
                have hI11 := hI9.near nr
                clear hcut hf hc9 ho9 hI9 hr1 hr2
                obtain ⟨t5, t6, ht5, ht6, hf11⟩ := hI11.blk
                have HL11 := Lib.hid (load_blk (P := Tryz.prog) (ty := 37) hf11 pt_wide)
                go_wp2_with (first | ((with_reducible refine wp_load_at HL11.out ?_ ?_); exact And.intro rfl (And.intro rfl rfl)) | (at_builtin; go_loud (refine wpList_append_own _ rfl _ _ 24 rfl w.heap.size 37 i0 _ 4 64 Tryz.underlying24 hi hz0 hz1 hz2 rfl (by decide) _ d (ptRs xs).flatten rfl (by have := (hI11.alloc (.cells #[.string ⟨t5.toArray⟩, .string ⟨t6.toArray⟩, .slice au ns cu, .bool nr] 37)).ps.own; rw [HD.out] at this; exact this) _ 1 1 [.string ⟨t5.toArray⟩, .string ⟨t6.toArray⟩, .slice au ns cu, .bool nr] rfl rfl (news_ofS _ _ _ [.string ⟨t5.toArray⟩, .string ⟨t6.toArray⟩, .slice au ns cu, .bool nr] 37) (by simp [Value.oneCell']) (by unfold maxLen; omega) (by omega) (hI11.alloc (.cells #[.string ⟨t5.toArray⟩, .string ⟨t6.toArray⟩, .slice au ns cu, .bool nr] 37)).fr.only.size ?_; intro v7 w7 hown7 hgrow7 _)))
                go_roundg (k - 1)
                case measure => omega
                case rel =>
                  have hA := hI11.alloc (.cells #[.string ⟨t5.toArray⟩, .string ⟨t6.toArray⟩, .slice au ns cu, .bool nr] 37)
                  exact ⟨k - 1, xs ++ [⟨⟨t5, t6, ss, nr⟩, .slice au ns cu⟩], by go_num, by omega, by rw [List.length_append, HD.out]; simp; omega, ownP_more HD.out hA hown7 hgrow7 ht5 ht6, fr_grown hA.fr hcw hgrow7 (fun k' hk' => (World.ownsRow.lt hA.ps.own k' hk').1)⟩

end Go.Proofs.YtliihnkonakacaaGreatDoor.B10
