/- FnWeights: the law's walk. -/
import Derived.Test.YtliihnkonakacaaGreatDoorImp10d
import Derived.Test.YtliihnkonakacaaGreatDoorDraw10c
import Derived.Laws.OwnMore
namespace Go.Proofs.YtliihnkonakacaaGreatDoor.B10
open Go.Proofs.YtliihnkonakacaaGreatDoor.P1 Go.Proofs.YtliihnkonakacaaGreatDoor.B1 Go.Proofs.YtliihnkonakacaaGreatDoor.B2 Go.Proofs.YtliihnkonakacaaGreatDoor.T1 Go.Proofs.YtliihnkonakacaaGreatDoor.BT Go.Proofs.YtliihnkonakacaaGreatDoor.P5 Go.Proofs.YtliihnkonakacaaGreatDoor.P6 Go.Proofs.YtliihnkonakacaaGreatDoor.B5 Go.Proofs.YtliihnkonakacaaGreatDoor.B6 Go.Proofs.YtliihnkonakacaaGreatDoor.W8 Go.Proofs.YtliihnkonakacaaGreatDoor.RC Go.Proofs.YtliihnkonakacaaGreatDoor.D1 Go.Proofs.YtliihnkonakacaaGreatDoor.P10
open Go.ChangeShapes Go.WideShapes Go.ChangeAt Go.RowKit
set_option linter.unusedVariables false

theorem wpList_strip {P : Program} {ops : Array Oper} {Q : Exit → Act → World → Prop} {a : Act} {w : World} {rest : List Oper} {o : Oper}
    (hw : Region.wanted o (yielded ops a.tmps) = true) (h : wpList P ops Q ({ o with guard := none } :: rest) a w) : wpList P ops Q (o :: rest) a w := by
  simp only [wpList] at h ⊢
  rw [if_pos hw]
  rw [if_pos (by simp [Region.wanted])] at h
  exact h

theorem weight_pos {p : Pt} (h : partOk p = true) : 1 ≤ partWeight p := by
  unfold partOk at h
  simp only [Bool.and_eq_true] at h
  obtain ⟨_, h4⟩ := h
  obtain ⟨tag, id, bs, near⟩ := p
  unfold partWeight told
  cases tag <;> cases id <;> cases bs <;> simp_all <;> omega

theorem weights_pos : ∀ {ps : List Pt}, 1 ≤ ps.length → (∀ p ∈ ps, partOk p = true) → 1 ≤ (ps.map partWeight).sum
  | [], h, _ => by simp at h
  | [p], _, hp => by
    have := weight_pos (hp p (by simp))
    simpa using this
  | p :: q :: r, _, hp => by
    have h1 := weight_pos (hp p (by simp))
    have h2 := weights_pos (ps := q :: r) (by simp) (fun x hx => hp x (by simp [hx]))
    rw [List.map_cons, List.sum_cons]
    omega

theorem weight_one {p : Pt} (h : partOk p = true) : weightOf [⟨p.tag, p.id, p.bs, false⟩] = partWeight p := by
  have hok : pickOk [⟨p.tag, p.id, p.bs, false⟩] = true := by
    unfold pickOk
    have : partOk ⟨p.tag, p.id, p.bs, false⟩ = partOk p := rfl
    simp [this, h, headNear]
  unfold weightOf
  rw [if_pos hok]
  simp [partWeight]

def tagX : Pt := ⟨[120], [], [], false⟩

theorem tagX_ok : partOk tagX = true := by decide

theorem weight_more {ps : List Pt} (h : pickOk ps = true) (h4 : ps.length ≠ 4) : weightOf (ps ++ [tagX]) = weightOf ps + 1 := by
  obtain ⟨l4, l1, hall, _⟩ := ok_bs h
  have hok : pickOk (ps ++ [tagX]) = true := by
    unfold pickOk at h ⊢
    simp only [Bool.and_eq_true, decide_eq_true_eq, List.all_append, List.length_append, List.length_singleton] at h ⊢
    refine ⟨⟨⟨⟨h.1.1.1, by simpa using tagX_ok⟩, by omega⟩, by omega⟩, ?_⟩
    cases ps with
    | nil => simp at l1
    | cons p r => exact h.2
  unfold weightOf
  rw [if_pos hok, if_pos h, List.map_append, List.sum_append]
  have : ([tagX].map partWeight).sum = 1 := by decide
  omega

theorem ptD_fits {x : Pv} (h : PtD x.p) : Fits x := ⟨by have := h.1; omega, by have := h.2.1; omega, by have := h.2.2.1; omega, fun s hs => by have := h.2.2.2 s hs; omega⟩

theorem ownP_copy {B : Nat} {v v' v7 : Value} {xs : List Pv} {W W7 : World} (h : OwnP B v xs W) (h' : OwnP B v' [] W) (hown : W7.ownsRow B 37 4 v7 xs.length (ptRs xs).flatten) (hg : W.grownBy W7 v'.ownBlock) : OwnP B v7 xs W7 :=
  ⟨hown, fun x hx => words_grown (h.hs x hx) h'.own hg, h.ok⟩

theorem ownP_snoc {B : Nat} {v v7 : Value} {xs : List Pv} {X : Pv} {W W7 : World} (h : OwnP B v xs W) (hX : Words W X.u B X.p.bs) (hok : PtD X.p) (hown : W7.ownsRow B 37 4 v7 (xs.length + 1) ((ptRs xs).flatten ++ ptL X)) (hg : W.grownBy W7 v.ownBlock) : OwnP B v7 (xs ++ [X]) W7 := by
  refine ⟨?_, fun x hx => ?_, fun x hx => ?_⟩
  · have e : (ptRs (xs ++ [X])).flatten = (ptRs xs).flatten ++ ptL X := by unfold ptRs; simp
    rw [e, List.length_append]
    exact hown
  · rcases List.mem_append.1 hx with hx | hx
    · exact words_grown (h.hs x hx) h.own hg
    · obtain rfl : x = X := by simpa using hx
      exact words_grown hX h.own hg
  · rcases List.mem_append.1 hx with hx | hx
    · exact h.ok x hx
    · obtain rfl : x = X := by simpa using hx
      exact hok

theorem one_part {w : World} {b : Nat} {x : Pv} (h : LBlk w b (ptL x)) (hx : Held w x) : PtSlc w (.slice (some ⟨b, 0, none⟩) 1 1) [x] :=
  ⟨⟨_, 1, rfl, Nat.le_refl _, by decide, fun _ => ⟨b, 0, rfl, at_of_blk (rs := ptRs [x]) (by simpa [ptRs] using h) (ptRs_four [x])⟩⟩, fun y hy => by
    obtain rfl : y = x := by simpa using hy
    exact hx⟩

set_option maxRecDepth 100000 in
set_option maxHeartbeats 8000000 in
theorem weights_walk (A0 : Option Addr) (len0 cap0 : Nat) (w : World) (w0 : len0 ≤ 4096 → Bytes w w.heap.size A0 len0) (L : B5.Pow w) :
    Calls Tryz.prog 4 #[.slice A0 len0 cap0] w (Ans (.bool true) w) := by
  obtain ⟨i0, hi', hz0, hz1, hz2⟩ := info_parts infoPtD
  by_cases hbig : 4096 < len0
  · go_enter Tryz.func4, Tryz.ntmps4
    go_wp2
    go_ret
    exact ⟨rfl, Below.refl _ _⟩
  · have hb := w0 (by omega)
    clear w0
    go_enter Tryz.func4, Tryz.ntmps4
    go_wp2_with (first | (go_at_call 11; go_in) | fail)
    refine (WeightOf_draw _ A0 len0 cap0 hb).mono ?_
    rintro e w1 ⟨v, xs, rfl, hv, hlen, hlen1, g1⟩
    have hf : ∀ x ∈ xs, Fits x := fun x hx => ptD_fits (hv.ok x hx)
    obtain ⟨g, k, x0, rest, exs, ev, hBg, hgs, hroom⟩ := ownP_form hv hlen1
    obtain ⟨n, hn⟩ : ∃ n, xs.length = n := ⟨_, rfl⟩
    rw [hn] at ev hlen hlen1 hroom
    subst ev
    have hpl : (pts xs).length = n := by rw [← hn]; simp [pts]
    have HI := Lib.hid (WeightOf_impl xs _ w1 (L.on g1) hv.slc hf (by omega))
    have HS := Lib.hid (fun w' (hb : Below w1.heap.size w1 w') => WeightOf_spec xs _ w' (hv.slc.on hb) hf (by omega))
    have HP := Lib.hid (fun w' (hb : Below w1.heap.size w1 w') => PickOk_spec xs _ w' (hv.slc.on hb) hf (by omega))
    have HV := Lib.hid (fun w' (hb : Below w1.heap.size w1 w') => hv.on hb)
    have HL := Lib.hid (fun w' (hb : Below w1.heap.size w1 w') => (L.on g1).on hb)
    have HF := Lib.hid hf
    have HL0 := Lib.hid (fun w' (hb : Below w.heap.size w w') => L.on hb)
    have HN := Lib.hid hn
    obtain ⟨y, ey⟩ : ∃ y, weightOf (pts xs) = y := ⟨_, rfl⟩
    rw [ey] at HI HS
    have hyy : (y != y) = false := by simp
    clear hb hf hv L exs hn
    go_wp2_with fail
    refine HI.out.mono ?_
    rintro e w2 ⟨rfl, g2⟩
    go_wp2_with fail
    refine (HS.out _ g2).mono ?_
    rintro e w3 ⟨rfl, g3⟩
    have hb3 := g2.trans (g3.mono g2.size)
    go_wp2_with fail
    refine (HP.out _ hb3).mono ?_
    rintro e w4 ⟨rfl, g4⟩
    have hb4 := hb3.trans (g4.mono hb3.size)
    clear HI HS HP g2 g3 g4 hb3
    cases hok : pickOk (pts xs)
    · have : y = -1 := by rw [← ey]; unfold weightOf; rw [hok]; rfl
      subst this
      clear ey hok
      go_wp2_with fail
      go_ret
      exact ⟨rfl, g1.trans (hb4.mono g1.size)⟩
    · obtain ⟨l4, l1, hall, hbs⟩ := ok_bs hok
      rw [hpl] at l4 l1
      have hsum : ((pts xs).map partWeight).sum = y := by rw [← ey]; unfold weightOf; rw [if_pos hok]
      have hyb := weights_le (ps := pts xs) (n := 4) (by omega) hbs
      rw [hsum] at hyb
      have hy1 : 1 ≤ y := by rw [← hsum]; exact weights_pos (by omega) hall
      have HM := Lib.hid (fun (h4 : n ≠ 4) => show weightOf (pts xs ++ [tagX]) = y + 1 by rw [weight_more hok (by omega), ey])
      have HALL := Lib.hid hall
      have HB := Lib.hid hbs
      have HSUM := Lib.hid hsum
      have l4' : (n : Int) ≤ 4 := by omega
      have hnk : (n : Int) ≤ (k : Int) := by omega
      clear hall hbs hsum hok ey
      go_wp2_with fail
      go_loopg [5, 6] n (fun kx s5 s6 wr => ∃ (i : Nat) (acc : Int), s5 = .int .i64 acc ∧ s6 = .int .i64 (i : Int) ∧ kx + i = n ∧ Hid (acc = (((pts xs).take i).map partWeight).sum) ∧ Below w1.heap.size w1 wr)
      case atStart => exact ⟨0, 0, rfl, rfl, by omega, Lib.hid rfl, hb4⟩
      case round =>
        obtain ⟨i, acc, rfl, rfl, hk, HAcc, hB⟩ := hrel
        clear hb4
        by_cases hlt : i < n
        · have hlt' : (i : Int) < (n : Int) := by omega
          have i0' : (0 : Int) ≤ (i : Int) := by omega
          obtain ⟨x, hx⟩ : ∃ x, xs[i]? = some x := ⟨_, List.getElem?_eq_getElem (by rw [HN.out]; exact hlt)⟩
          have hpx : (pts xs)[i]? = some x.p := by unfold pts; rw [List.getElem?_map, hx]; rfl
          have hm := List.mem_of_getElem? hx
          have hv := HV.out _ hB
          have hslc := hv.slc
          obtain ⟨a', c', e', _, _, HA⟩ := hslc.form
          obtain ⟨g', off, eg, hat⟩ := HA (by intro e0; rw [e0] at hx; cases hx)
          rw [HN.out, eg] at e'
          injection e' with e1 e2 e3
          injection e1 with e1
          injection e1 with e1 e4
          subst e1 e4 e3
          have hbd := weights_le (ps := (pts xs).take i) (n := 4) (by rw [List.length_take]; omega) (fun p hp => HB.out p (List.mem_of_mem_take hp))
          rw [← HAcc.out] at hbd
          have hwb := weight_le (HB.out x.p (List.mem_of_getElem? hpx))
          have HT := Lib.hid (show acc + partWeight x.p = (((pts xs).take (i + 1)).map partWeight).sum by rw [HAcc.out]; exact (weight_take hpx).symm)
          have HLD := Lib.hid (pt_load hat hx)
          rw [Nat.zero_add] at HLD
          have hheld := hslc.2 x hm
          obtain ⟨w5, hst5, hx5, hb5⟩ := pt_laid hheld
          have HST5 := Lib.hid hst5
          have hB5 := hB.trans (hb5.mono hB.size)
          obtain ⟨k3, f3⟩ := hx5.2 3 _ rfl
          have hx6 : LBlk (w5.setCell ⟨wr.heap.size, 3, none⟩ (.bool false)) wr.heap.size (ptL ⟨⟨x.p.tag, x.p.id, x.p.bs, false⟩, x.u⟩) := hx5.set 3 _ (by simp [ptL])
          have hb6 : Below wr.heap.size wr (w5.setCell ⟨wr.heap.size, 3, none⟩ (.bool false)) := hb5.setCell (p := ⟨wr.heap.size, 3, none⟩) (Nat.le_refl _) _
          have hB6 := hB.trans (hb6.mono hB.size)
          have hh6 : Held (w5.setCell ⟨wr.heap.size, 3, none⟩ (.bool false)) ⟨⟨x.p.tag, x.p.id, x.p.bs, false⟩, x.u⟩ := StrSlc.on hheld hb6
          have hxd := HV.out _ hB
          obtain ⟨W6, eW6⟩ : ∃ W6, w5.setCell ⟨wr.heap.size, 3, none⟩ (.bool false) = W6 := ⟨_, rfl⟩
          rw [eW6] at hx6 hb6 hB6 hh6
          have HW6 := Lib.hid (show (loadVar 37 ⟨wr.heap.size, 0, none⟩).run Tryz.prog W6 = .ok (ptV ⟨⟨x.p.tag, x.p.id, x.p.bs, false⟩, x.u⟩) W6 from load_blk (P := Tryz.prog) (ty := 37) hx6 pt_wide)
          rw [ptV_is] at HW6
          have h7 : PtSlc (W6.alloc (.cells #[.string ⟨x.p.tag.toArray⟩, .string ⟨x.p.id.toArray⟩, x.u, .bool false] 37)) (.slice (some ⟨W6.heap.size, 0, none⟩) 1 1) [⟨⟨x.p.tag, x.p.id, x.p.bs, false⟩, x.u⟩] := one_part (pt_new W6 ⟨⟨x.p.tag, x.p.id, x.p.bs, false⟩, x.u⟩ 37) (StrSlc.on hh6 ((Below.refl _ _).alloc (Nat.le_refl _) _))
          have hB7 := hB6.alloc hB6.size (.cells #[.string ⟨x.p.tag.toArray⟩, .string ⟨x.p.id.toArray⟩, x.u, .bool false] 37)
          have HC := Lib.hid (WeightOf_impl _ _ _ (HL.out _ hB7) h7 (fun z hz => by
            obtain rfl : z = ⟨⟨x.p.tag, x.p.id, x.p.bs, false⟩, x.u⟩ := by simpa using hz
            exact ptD_fits (hxd.ok x hm)) (by simp))
          rw [show weightOf (pts [⟨⟨x.p.tag, x.p.id, x.p.bs, false⟩, x.u⟩]) = partWeight x.p from weight_one (HALL.out x.p (List.mem_of_getElem? hpx))] at HC
          obtain ⟨z, ez⟩ : ∃ z, partWeight x.p = z := ⟨_, rfl⟩
          rw [ez] at HC HT hwb
          have hwz : IntKind.i64.wrap (acc + z) = acc + z := by rw [IntKind.wrap_i64]; omega
          obtain ⟨⟨tag, id, bs, near⟩, u⟩ := x
          obtain ⟨au, cu, eu, _⟩ := held_form hheld
          dsimp only at eu
          subst eu
          rw [ptV_is] at HLD HST5
          dsimp only at HLD HST5
          dsimp only at HW6 HC hB7
          clear hv hslc HA hat hx hpx hm hheld hst5 hx5 hb5 hB5 hx6 hb6 hh6 hxd h7 ez
          go_wp2_with (first | ((with_reducible refine wp_load_at HLD.out ?_ ?_); exact And.intro rfl (And.intro rfl rfl)) | ((with_reducible refine wp_store_at HST5.out ?_ ?_); exact And.intro rfl (And.intro rfl (And.intro rfl rfl))) | ((with_reducible refine wp_load_at HW6.out ?_ ?_); exact And.intro rfl (And.intro rfl rfl)))
          refine HC.out.mono ?_
          rintro e w7 ⟨rfl, g7⟩
          go_wp2_with fail
          go_roundg (n - (i + 1))
          case measure => omega
          case rel => exact ⟨i + 1, _, rfl, by go_num, by omega, HT, hB7.trans (g7.mono hB7.size)⟩
        · have hlt' : ¬ (i : Int) < (n : Int) := by omega
          have hin : i = n := by omega
          obtain rfl : acc = y := by rw [HAcc.out, hin, List.take_of_length_le (by omega), HSUM.out]
          by_cases h4 : n = 4
          · subst h4
            go_wp2_with fail
            go_ret
            exact ⟨rfl, g1.trans (hB.mono g1.size)⟩
          · have h4' : ((n : Int) == 4) = false := by simp; omega
            have hv := HV.out _ hB
            have ho := hv.own
            rw [HN.out] at ho
            have hfr : OwnP w.heap.size (.slice (some ⟨wr.heap.size, 0, none⟩) 0 0) [] (wr.alloc (.cells #[] 37)) := ⟨World.ownsRow_lit wr #[] 0 (Nat.le_trans g1.size hB.size) (by decide) rfl, fun x hx => (by cases hx), fun x hx => (by cases hx)⟩
            have hG := g1.trans (hB.mono g1.size)
            have hGa := hG.alloc hG.size (.cells #[] 37)
            have hva := hv.on ((Below.refl _ _).alloc (Nat.le_refl _) (.cells #[] 37))
            have hoa := World.ownsRow.alloc ho (.cells #[] 37)
            have hw1 : IntKind.i64.wrap (acc + 1) = acc + 1 := by rw [IntKind.wrap_i64]; omega
            have hpm : pts (xs ++ [⟨tagX, .slice none 0 0⟩]) = pts xs ++ [tagX] := by unfold pts; simp
            have hm4 := HM.out h4
            have hacc : 0 < acc := by omega
            clear HM HALL HB HSUM HAcc hyb
            go_wp2_with (at_builtin; first
              | (refine wpList_strip rfl ?_
                 refine wpList_append_own _ rfl _ _ 24 rfl w.heap.size 37 i0 _ 4 64 Tryz.underlying24 hi' hz0 hz1 hz2 rfl (by decide) _ 0 [] rfl hfr.own ⟨g, 0, none⟩ n k (ptRs xs).flatten rfl hoa.1 (World.ownsRow.cells hoa (g := g) rfl) (ownP_one hva) (by unfold maxLen; omega) (by omega) hGa.size ?_
                 intro v7 w7 hown7 hgr7 _
                 have h7 : OwnP w.heap.size v7 xs w7 := ownP_copy hva hfr (by have h := hown7; rw [Nat.zero_add, List.nil_append] at h; rw [HN.out]; exact h) hgr7
                 have hG7 := hGa.grown hgr7 hGa.size (fun k' hk' => (World.ownsRow.lt hfr.own k' hk').1)
                 have h7b := h7.on ((Below.refl _ _).alloc (Nat.le_refl _) (.cells (ptL ⟨tagX, .slice none 0 0⟩).toArray 37))
                 have hG7b := hG7.alloc hG7.size (.cells (ptL ⟨tagX, .slice none 0 0⟩).toArray 37)
                 have h7o := h7b.own
                 rw [HN.out] at h7o)
              | (refine wpList_strip rfl ?_
                 refine wpList_append_own _ rfl _ _ 24 rfl w.heap.size 37 i0 _ 4 64 Tryz.underlying24 hi' hz0 hz1 hz2 rfl (by decide) _ n (ptRs xs).flatten rfl h7o ⟨w7.heap.size, 0, none⟩ 1 1 (ptL ⟨tagX, .slice none 0 0⟩) rfl rfl (news_ofA (LBlk.new w7 (ptL ⟨tagX, .slice none 0 0⟩) 37)) (by simp [Value.oneCell', ptL]) (by unfold maxLen; omega) (by omega) hG7b.size ?_
                 intro v8 w8 hown8 hgr8 _
                 have h8 : OwnP w.heap.size v8 (xs ++ [⟨tagX, .slice none 0 0⟩]) w8 := ownP_snoc h7b (World.ownsRow_nil _ _ _ _) ⟨by decide, by decide, by decide, by intro s hs; cases hs⟩ (by rw [HN.out]; exact hown8) hgr8
                 have hG8 := hG7b.grown hgr8 hG7b.size (fun k' hk' => (World.ownsRow.lt h7o k' hk').1)
                 have HC := Lib.hid (WeightOf_impl _ _ _ (HL0.out _ hG8) h8.slc (fun x hx => ptD_fits (h8.ok x hx)) (by rw [List.length_append, HN.out]; simp; omega))
                 rw [hpm, hm4] at HC
                 obtain ⟨a8, c8, e8⟩ := ownP_shape h8
                 have hl8 : (xs ++ [(⟨tagX, .slice none 0 0⟩ : Pv)]).length = n + 1 := by simp [HN.out]
                 obtain ⟨M, hM⟩ : ∃ M, n + 1 = M := ⟨_, rfl⟩
                 rw [hl8, hM] at e8
                 subst e8
                 clear hM hl8))
            refine HC.out.mono ?_
            rintro e w9 ⟨rfl, g9⟩
            go_wp2_with fail
            go_ret
            exact ⟨rfl, hG8.trans (g9.mono hG8.size)⟩

end Go.Proofs.YtliihnkonakacaaGreatDoor.B10
