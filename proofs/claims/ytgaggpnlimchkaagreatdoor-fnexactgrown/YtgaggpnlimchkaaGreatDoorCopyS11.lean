/- Chapter 11: the reference's l11Copy. -/
import Derived.Test.YtgaggpnlimchkaaGreatDoorCopy11
namespace Go.Proofs.YtgaggpnlimchkaaGreatDoor.B11
open Go.Proofs.YtgaggpnlimchkaaGreatDoor.P1 Go.Proofs.YtgaggpnlimchkaaGreatDoor.B1 Go.Proofs.YtgaggpnlimchkaaGreatDoor.B2 Go.Proofs.YtgaggpnlimchkaaGreatDoor.T1 Go.Proofs.YtgaggpnlimchkaaGreatDoor.BT Go.Proofs.YtgaggpnlimchkaaGreatDoor.P5 Go.Proofs.YtgaggpnlimchkaaGreatDoor.B5 Go.Proofs.YtgaggpnlimchkaaGreatDoor.P6 Go.Proofs.YtgaggpnlimchkaaGreatDoor.P9 Go.Proofs.YtgaggpnlimchkaaGreatDoor.B6 Go.Proofs.YtgaggpnlimchkaaGreatDoor.B9 Go.Proofs.YtgaggpnlimchkaaGreatDoor.D1 Go.Proofs.YtgaggpnlimchkaaGreatDoor.W8 Go.Proofs.YtgaggpnlimchkaaGreatDoor.RC Go.Proofs.YtgaggpnlimchkaaGreatDoor.RI Go.Proofs.YtgaggpnlimchkaaGreatDoor.P10 Go.Proofs.YtgaggpnlimchkaaGreatDoor.B10 Go.Proofs.YtgaggpnlimchkaaGreatDoor.P11
open Go.ChangeShapes Go.WideShapes Go.ChangeAt Go.RowKit
set_option linter.unusedVariables false

/-- append behind a row of the call's own, whatever slice it takes. -/
theorem run_append_anyC {P : Program} (w : World) (base : Nat) (t ty e : TypeId) (i : TypeInfo) (z : Value) (size bytes : Nat) (ht : P.underlying t = some (.slice e)) (hi : P.info? e = some i) (hz : i.zero = some z)
    (hsize : i.size = size) (hby : i.bytes = bytes) (hzs : z.cells.size = size) (hsz : 0 < size)
    (v : Value) (n : Nat) (xs : List Value) (hown : w.ownsRow base e size v n xs)
    (ad : Option Addr) (m c : Nat) (news : List Value) (hl : news.length = m * size) (hnews : ∀ p, ad = some p → ∀ j u, news[j]? = some u → w.cell? (p.add j) = some u) (hnone : ad = none → m = 0) (h1 : ∀ u ∈ news, u.oneCell' = true)
    (h63 : n + m ≤ maxLen) (hbytes : (n + m) * bytes ≤ 140737488355328) (hbase : base ≤ w.heap.size) :
    ∃ v' w', (Builtin.append_ #[t, t] ty #[v, .slice ad m c]).run P w = .ok v' w' ∧ w'.ownsRow base e size v' (n + m) (xs ++ news) ∧ w.grownBy w' v.ownBlock := by
  cases ad with
  | some p =>
    obtain ⟨v', w', hr, h2, h3, _, _⟩ := run_append_own_at (P := P) w base t ty e i z size bytes ht hi hz hsize hby hzs hsz v n xs hown p m c news hl (hnews p rfl) h1 h63 hbytes hbase
    exact ⟨v', w', hr, h2, h3⟩
  | none =>
    have hm := hnone rfl
    subst hm
    have hn : news = [] := List.eq_nil_of_length_eq_zero (by simpa using hl)
    subst hn
    refine ⟨v, w, ?_, by rw [Nat.add_zero, List.append_nil]; exact hown, ⟨rfl, rfl, rfl, Nat.le_refl _, fun _ _ _ => rfl⟩⟩
    rcases hown.2 with ⟨rfl, rfl⟩ | ⟨g, cap, cur, rfl, _, _, hnc, _⟩
    · simp [Builtin.append_, run_underlying ht, sizeOf, typeInfo, hi, Builtin.lenOf, Builtin.firstCells]
    · simp [Builtin.append_, run_underlying ht, sizeOf, typeInfo, hi, Builtin.lenOf, Builtin.firstCells, hnc, storeCells]

theorem wpList_append_anyC {P : Program} {w : World} {ops : Array Oper} {rest : List Oper} {o : Oper} {a : Act} {Q : Exit → Act → World → Prop} (hgd : o.guard = none) (s x : Operand) (t : TypeId)
    (ho : o.op = .call { callee := .builtin .append, args := #[s, x], argTypes := #[t, t] })
    (base : Nat) (e : TypeId) (i : TypeInfo) (z : Value) (size bytes : Nat) (ht : P.underlying t = some (.slice e)) (hi : P.info? e = some i) (hz : i.zero = some z)
    (hsize : i.size = size) (hby : i.bytes = bytes) (hzs : z.cells.size = size) (hsz : 0 < size)
    (v : Value) (n : Nat) (xs : List Value) (hs : a.eval s = v) (hown : w.ownsRow base e size v n xs)
    (ad : Option Addr) (m c : Nat) (news : List Value) (hx : a.eval x = .slice ad m c) (hl : news.length = m * size) (hnews : ∀ p, ad = some p → ∀ j u, news[j]? = some u → w.cell? (p.add j) = some u) (hnone : ad = none → m = 0) (h1 : ∀ u ∈ news, u.oneCell' = true)
    (h63 : n + m ≤ maxLen) (hbytes : (n + m) * bytes ≤ 140737488355328) (hbase : base ≤ w.heap.size)
    (h : ∀ v' w', w'.ownsRow base e size v' (n + m) (xs ++ news) → w.grownBy w' v.ownBlock → wpList P ops Q rest (a.put o.dst v') w') :
    wpList P ops Q (o :: rest) a w := by
  refine wpList_plain hgd fun K hK => ?_
  obtain ⟨v', w', hr, h2, h3⟩ := run_append_anyC (P := P) w base t o.type e i z size bytes ht hi hz hsize hby hzs hsz v n xs hown ad m c news hl hnews hnone h1 h63 hbytes hbase
  unfold Oper.wp execOp
  simp only [ho, resolve, invoke, builtin, Sem.run_bind, Sem.run_pure, Result.andThen_ok, List.map_toArray, List.map_cons, List.map_nil, hs, hx, hr]
  exact hK _ _ (h v' w' h2 h3)

theorem strSlc_newsC {W : World} {a : Option Addr} {n c : Nat} {ss : List (List UInt8)} (h : StrSlc W (.slice a n c) ss) : (∀ p, a = some p → ∀ j u, (wordsV ss)[j]? = some u → W.cell? (p.add j) = some u) ∧ (a = none → n = 0) := by
  refine ⟨fun p e => by subst e; exact strSlc_news h, fun e => ?_⟩
  subst e
  obtain ⟨a', c', e, h1, h2, h3⟩ := h
  injection e with e1 e2 _
  subst e1
  rw [strRs_len] at e2
  cases ss with
  | nil => exact e2
  | cons x r =>
    obtain ⟨g, off, e, _⟩ := h3 (by simp [strRs])
    cases e

theorem noSlc_newsC {W : World} {a : Option Addr} {n c : Nat} {ns : List No} (h : NoSlc W (.slice a n c) ns) : (∀ p, a = some p → ∀ j u, (noRs ns).flatten[j]? = some u → W.cell? (p.add j) = some u) ∧ (a = none → n = 0) := by
  refine ⟨fun p e => by subst e; exact noSlc_news h, fun e => ?_⟩
  subst e
  obtain ⟨a', c', e, h1, h2, h3⟩ := h
  injection e with e1 e2 _
  subst e1
  rw [noRs_len] at e2
  cases ns with
  | nil => exact e2
  | cons x r =>
    obtain ⟨g, off, e, _⟩ := h3 (by simp [noRs])
    cases e

theorem fiSlc_newsC {W : World} {a : Option Addr} {n c : Nat} {xs : List Fv} (h : FiSlc W (.slice a n c) xs) : (∀ p, a = some p → ∀ j u, (fiRs xs).flatten[j]? = some u → W.cell? (p.add j) = some u) ∧ (a = none → n = 0) := by
  refine ⟨fun p e => by subst e; exact fiSlc_news h, fun e => ?_⟩
  subst e
  obtain ⟨⟨a', c', e, h1, h2, h3⟩, _⟩ := h
  injection e with e1 e2 _
  subst e1
  rw [fiRs_len] at e2
  cases xs with
  | nil => exact e2
  | cons x r =>
    obtain ⟨g, off, e, _⟩ := h3 (by simp [fiRs])
    cases e

theorem lblk_grownC {w w' : World} {b : Nat} {vs : List Value} {row : Option Nat} (h : LBlk w b vs) (hg : w.grownBy w' row) (hne : some b ≠ row) : LBlk w' b vs := by
  have ho : Only ((row.getD (b + 1))) w w' := ⟨hg.os, hg.tape, hg.output, hg.size, fun k hk hl => hg.block k hl (by
    intro e
    rw [← e] at hk
    exact hk rfl)⟩
  refine h.only ho ?_
  cases row with
  | none => simp
  | some g => intro e; exact hne (by rw [e]; rfl)

/-- A row of the call's own, where another of its rows has grown that was made later. -/
theorem row_laterC {W W' : World} {B e s n : Nat} {v : Value} {xs : List Value} {row : Option Nat} (h : W.ownsRow B e s v n xs) (hg : W.grownBy W' row) (hr : ∀ k, row = some k → v.ownBlock ≠ some k) : W'.ownsRow B e s v n xs := by
  refine h.kept hg ?_
  cases hv : v.ownBlock with
  | none => exact Or.inl rfl
  | some b =>
    refine Or.inr fun e0 => ?_
    exact hr b e0.symm hv

theorem row_freshC {W : World} {B e s n : Nat} {v : Value} {xs : List Value} (h : W.ownsRow B e s v n xs) {k : Nat} (hk : W.heap.size ≤ k) : v.ownBlock ≠ some k := fun e0 => by
  rcases h.2 with ⟨rfl, _⟩ | ⟨g, cap, cur, rfl, _, hg, _⟩
  · cases e0
  · have h1 := (Array.getElem?_eq_some_iff.1 hg).1
    have : g = k := Option.some.inj e0
    omega

set_option maxRecDepth 20000 in
set_option maxHeartbeats 4000000 in
theorem l11Copy_spec (xs : List Fv) (v : Value) (w : World) (h : FiSlc w v xs) (hf : ∀ x ∈ xs, FitsF x) (hs : xs.length ≤ 2000000) :
    Calls Tryz.prog 52 #[v] w (TreeC (fis xs) w) := by
  obtain ⟨i0, hi, hz0, hz1, hz2⟩ := info_parts infoFiC
  obtain ⟨i1, hi1, hs0, hs1, hs2⟩ := info_parts infoStr
  obtain ⟨i2, hi2, hn0, hn1, hn2⟩ := info_parts infoNC
  have hB0 : Below w.heap.size w (w.alloc (.cells #[] 28)) := (Below.refl _ _).alloc (Nat.le_refl _) _
  have ho0 := ownG_lit w (Nat.le_refl w.heap.size)
  have HH := Lib.hid h.2
  have HF := Lib.hid hf
  obtain ⟨a, cap, rfl, hnc, hcap, hA⟩ := h.form
  obtain ⟨n, hn⟩ : ∃ n, xs.length = n := ⟨_, rfl⟩
  have HN := Lib.hid hn
  have HA := Lib.hid hA
  rw [hn] at hnc hs ⊢
  have hnc' : (n : Int) ≤ (cap : Int) := by omega
  have hs' : (n : Int) ≤ 2000000 := by omega
  clear h hf hcap hA hn
  go_enter Tryz.func52, Tryz.ntmps52
  go_wp2_with fail
  go_loopg [3, 4] n (fun kx s3 s4 wr => ∃ (i : Nat) (ys : List Fv), s4 = .int .i64 (i : Int) ∧ kx + i = n ∧ ys.length = i ∧ Hid (fis ys = (fis xs).take i) ∧ OwnG w.heap.size s3 ys wr ∧ Below w.heap.size w wr)
  case atStart => exact ⟨0, [], rfl, by omega, rfl, Lib.hid rfl, ho0, hB0⟩
  case round =>
    obtain ⟨i, ys, rfl, hki, hyl, HY, hown, hB⟩ := hrel
    clear ho0 hB0
    by_cases hlt : i < n
    · have hlt' : (i : Int) < (n : Int) := by omega
      have i0' : (0 : Int) ≤ (i : Int) := by omega
      obtain ⟨x, hx⟩ : ∃ x, xs[i]? = some x := ⟨_, List.getElem?_eq_getElem (by rw [HN.out]; exact hlt)⟩
      obtain ⟨g, off, rfl, hat⟩ := HA.out (by intro e0; rw [e0] at hx; cases hx)
      have hxm := List.mem_of_getElem? hx
      have HLD := Lib.hid (fi_load (hat.on hB) hx)
      have hfx := HF.out x hxm
      have hbl : x.f.bs.length ≤ 1048576 := hfx.2.2.2.1
      have hnl : x.f.ns.length ≤ 1048576 := hfx.2.2.2.2.2.1
      have hhx := (HH.out x hxm).on hB
      have HX := Lib.hid hx
      obtain ⟨⟨abv, tag, id, bs, ns⟩, u, un⟩ := x
      dsimp only at hbl hnl
      obtain ⟨⟨ab, cb, eu, hcb1, hcb2⟩, an, cn, en, hcn1, hcn2⟩ := heldF_form hhx
      dsimp only at eu en hcb1 hcn1
      subst eu en
      obtain ⟨w3, hst3, hx3, hb3⟩ := fi_laid wr hhx
      have HST3 := Lib.hid hst3
      have hB3 := hB.trans (hb3.mono hB.size)
      have hown3 := hown.on hb3
      have hh3 := hhx.on hb3
      obtain ⟨a3, c3, rfl⟩ := hown.form
      rw [hyl] at hown hown3 ⊢
      have HOW := Lib.hid hown
      have hb5 : wr.heap.size < w3.heap.size := hx3.1
      -- the badges
      have hba : Below w3.heap.size w3 (w3.alloc (.cells #[] 9)) := (Below.refl _ _).alloc (Nat.le_refl _) _
      have hx4 := hx3.below hba
      have hlit : (w3.alloc (.cells #[] 9)).ownsRow w3.heap.size 9 1 (.slice (some ⟨w3.heap.size, 0, none⟩) 0 0) 0 [] := World.ownsRow_lit w3 #[] 0 (Nat.le_refl _) (by decide) rfl
      obtain ⟨hnw, hno⟩ := strSlc_newsC (StrSlc.on hh3.1 hba)
      have c43 := (hx4.2 3 _ rfl).1
      have hwl : (wordsV bs).length = bs.length * 1 := by simp [wordsV]
      have HHX := Lib.hid hhx
      have HBR := Lib.hid hb3
      unfold fiV fiL at HLD HST3
      dsimp only at HLD HST3
      have HX4 := Lib.hid hx4
      have HBA := Lib.hid hba
      have HYL := Lib.hid hyl
      clear hx hat hxm hfx hhx hst3 hx3 hb3 hown hown3 hyl hcb1 hcb2 hcn1 hcn2 hh3 hB3 hx4 hba
      go_wp2_with (first
        | ((with_reducible refine wp_load_at HLD.out ?_ ?_); exact And.intro rfl (And.intro rfl rfl))
        | ((with_reducible refine wp_store_at HST3.out ?_ ?_); exact And.intro rfl (And.intro rfl (And.intro rfl rfl)))
        | (at_builtin
           refine wpList_append_anyC rfl _ _ 25 rfl w3.heap.size 9 i1 _ 1 16 Tryz.underlying25 hi1 hs0 hs1 hs2 rfl (by decide) _ 0 [] rfl hlit ab bs.length cb (wordsV bs) rfl hwl hnw hno (wordsV_ones bs) (by unfold maxLen; omega) (by omega) HBA.out.size ?_
           intro v6 w6 hown6 hgrow6
           rw [Nat.zero_add, List.nil_append] at hown6
           obtain ⟨aq, cq, rfl, hq1, hq2⟩ := row_formG hown6
           have hb36 := HBA.out.grown hgrow6 HBA.out.size (fun k hk => (World.ownsRow.lt hlit k hk).1)
           have hz36 := hb36.size
           have hx6 := lblk_grownC HX4.out hgrow6 (fun e => by have : wr.heap.size = w3.heap.size := Option.some.inj e; omega)
           obtain ⟨d3, f3⟩ := hx6.2 3 _ rfl
           have hx7 := hx6.set 3 (.slice aq bs.length cq) (by show 3 < 5; decide)
           have hon7 : Only wr.heap.size w6 (w6.setCell ⟨wr.heap.size, 3, none⟩ (.slice aq bs.length cq)) := (Only.refl _ w6).setCell (p := ⟨wr.heap.size, 3, none⟩) rfl _
           have hbr7 := (HBR.out.trans (hb36.mono HBR.out.size)).setCell (p := ⟨wr.heap.size, 3, none⟩) (Nat.le_refl _) (.slice aq bs.length cq)
           have hq7 := row_onlyG hown6 hon7 hb5
           have hx8 := hx7.alloc (.cells #[] 107)
           have c84 := (hx8.2 4 _ rfl).1
           have hba8 : Below (w6.setCell ⟨wr.heap.size, 3, none⟩ (.slice aq bs.length cq)).heap.size (w6.setCell ⟨wr.heap.size, 3, none⟩ (.slice aq bs.length cq)) ((w6.setCell ⟨wr.heap.size, 3, none⟩ (.slice aq bs.length cq)).alloc (.cells #[] 107)) := (Below.refl _ _).alloc (Nat.le_refl _) _
           have hbr8 := hbr7.trans (hba8.mono hbr7.size)
           have hq8 := own_below hq7 hba8
           have hlit8 : ((w6.setCell ⟨wr.heap.size, 3, none⟩ (.slice aq bs.length cq)).alloc (.cells #[] 107)).ownsRow w6.heap.size 107 9 (.slice (some ⟨w6.heap.size, 0, none⟩) 0 0) 0 [] := by
             have := World.ownsRow_lit (e := 107) (size := 9) (w6.setCell ⟨wr.heap.size, 3, none⟩ (.slice aq bs.length cq)) #[] 0 (Nat.le_refl _) (by decide) rfl
             rwa [World.size_setCell] at this
           have hz8 : w6.heap.size ≤ ((w6.setCell ⟨wr.heap.size, 3, none⟩ (.slice aq bs.length cq)).alloc (.cells #[] 107)).heap.size := by rw [World.size_alloc, World.size_setCell]; omega
           obtain ⟨hnw8, hno8⟩ := noSlc_newsC (NoSlc.on HHX.out.2 hbr8)
           have HX8 := Lib.hid hx8
           have HBR8 := Lib.hid hbr8
           have HQ8 := Lib.hid hq8
           have HO6 := Lib.hid hown6
           clear hb36 hx6 hx7 hon7 hbr7 hq7 hx8 hba8 hbr8 hq8 hown6 hnw hno c43)
        | (at_builtin
           refine wpList_append_anyC rfl _ _ 26 rfl w6.heap.size 107 i2 _ 9 80 Tryz.underlying26 hi2 hn0 hn1 hn2 rfl (by decide) _ 0 [] rfl hlit8 an ns.length cn (noRs ns).flatten rfl (noRs_flen ns) hnw8 hno8 (noRs_ones ns) (by unfold maxLen; omega) (by omega) hz8 ?_
           intro v9 w9 hown9 hgrow9
           rw [Nat.zero_add, List.nil_append] at hown9
           obtain ⟨ap, cp, rfl, hp1, hp2⟩ := row_formG hown9
           have hlt6 : wr.heap.size < w6.heap.size := by omega
           have hx9 := lblk_grownC HX8.out hgrow9 (fun e => by have : wr.heap.size = w6.heap.size := Option.some.inj e; omega)
           have hbr9 := HBR8.out.grown hgrow9 HBR8.out.size (fun k hk => Nat.le_trans (Nat.le_of_lt hlt6) (World.ownsRow.lt hlit8 k hk).1)
           have hq9 := row_laterC HQ8.out hgrow9 (fun k e => row_freshC HO6.out (World.ownsRow.lt hlit8 k e).1)
           obtain ⟨d4, f4⟩ := hx9.2 4 _ rfl
           have hx10 := hx9.set 4 (.slice ap ns.length cp) (by show 4 < 5; decide)
           have hon10 : Only wr.heap.size w9 (w9.setCell ⟨wr.heap.size, 4, none⟩ (.slice ap ns.length cp)) := (Only.refl _ w9).setCell (p := ⟨wr.heap.size, 4, none⟩) rfl _
           have hbr10 := hbr9.setCell (p := ⟨wr.heap.size, 4, none⟩) (Nat.le_refl _) (.slice ap ns.length cp)
           have hq10 := row_onlyG hq9 hon10 hb5
           have hp10 := row_onlyG hown9 hon10 hlt6
           have HL10 := Lib.hid (load_blk (P := Tryz.prog) (ty := 28) hx10 fi_wide)
           have hone : OneG wr.heap.size ⟨⟨abv, tag, id, bs, ns⟩, .slice aq bs.length cq, .slice ap ns.length cp⟩ (w9.setCell ⟨wr.heap.size, 4, none⟩ (.slice ap ns.length cp)) := ⟨row_baseG hq10 (Nat.le_of_lt hb5), row_baseG hp10 (Nat.le_of_lt hlt6)⟩
           have hba11 : Below (w9.setCell ⟨wr.heap.size, 4, none⟩ (.slice ap ns.length cp)).heap.size (w9.setCell ⟨wr.heap.size, 4, none⟩ (.slice ap ns.length cp)) ((w9.setCell ⟨wr.heap.size, 4, none⟩ (.slice ap ns.length cp)).alloc (.cells (fiL ⟨⟨abv, tag, id, bs, ns⟩, .slice aq bs.length cq, .slice ap ns.length cp⟩).toArray 28)) := (Below.refl _ _).alloc (Nat.le_refl _) _
           have hbr11 := hbr10.trans (hba11.mono hbr10.size)
           have hone11 := hone.on hba11
           have howna := HOW.out.on hbr11
           have hfl := fiL_ones hone11.held
           have hna := news_ofC (LBlk.new (w9.setCell ⟨wr.heap.size, 4, none⟩ (.slice ap ns.length cp)) (fiL ⟨⟨abv, tag, id, bs, ns⟩, .slice aq bs.length cq, .slice ap ns.length cp⟩) 28)
           rw [World.size_setCell] at hna
           have horow := howna.own
           rw [HYL.out] at horow
           have HB11 := Lib.hid (hB.trans (hbr11.mono hB.size))
           unfold fiL at HL10
           dsimp only at HL10
           clear hx9 hbr9 hq9 hx10 hon10 hbr10 hq10 hp10 hone hba11 hown9 hnw8 hno8 c84)
        | ((with_reducible refine wp_load_at HL10.out ?_ ?_); exact And.intro rfl (And.intro rfl rfl))
        | (at_builtin
           refine wpList_append_own _ rfl _ _ 24 rfl w.heap.size 28 i0 _ 5 88 Tryz.underlying24 hi hz0 hz1 hz2 rfl (by decide) _ i (fiRs ys).flatten rfl horow ⟨w9.heap.size, 0, none⟩ 1 1 (fiL ⟨⟨abv, tag, id, bs, ns⟩, .slice aq bs.length cq, .slice ap ns.length cp⟩) rfl rfl hna hfl (by unfold maxLen; omega) (by omega) HB11.out.size ?_
           intro v12 w12 hown12 hgrow12 _
           have HG := Lib.hid (ownG_snoc HYL.out HOW.out howna hone11 hB.size hown12 hgrow12)
           have HBZ := Lib.hid (HB11.out.grown hgrow12 HB11.out.size (fun k' hk' => (World.ownsRow.lt horow k' hk').1)))
        | fail)
      go_roundg (n - (i + 1))
      case measure => omega
      case rel => exact ⟨i + 1, ys ++ [⟨⟨abv, tag, id, bs, ns⟩, .slice aq bs.length cq, .slice ap ns.length cp⟩], by go_num, by omega, by rw [List.length_append, HYL.out]; rfl, Lib.hid (fis_snoc HY.out HX.out rfl), HG.out, HBZ.out⟩
    · have hlt' : ¬ (i : Int) < (n : Int) := by omega
      have HD := Lib.hid (show fis ys = fis xs by
        have := HY.out
        rwa [List.take_of_length_le (by rw [fis_len, HN.out]; omega)] at this)
      obtain ⟨a3, c3, rfl⟩ := hown.form
      have HOW := Lib.hid hown
      subst hyl
      go_wp2_with fail
      go_ret
      exact ⟨_, ys, rfl, HOW.out, HD.out, hB⟩

end Go.Proofs.YtgaggpnlimchkaaGreatDoor.B11
