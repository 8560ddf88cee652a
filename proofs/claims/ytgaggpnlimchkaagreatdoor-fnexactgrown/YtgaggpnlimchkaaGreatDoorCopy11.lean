/- Chapter 11: copies of figures: slices.Clone, the program's figureCopy and treeCopy, the reference's l11Copy. -/
import Derived.Test.YtgaggpnlimchkaaGreatDoorOwn11
namespace Go.Proofs.YtgaggpnlimchkaaGreatDoor.B11
open Go.Proofs.YtgaggpnlimchkaaGreatDoor.P1 Go.Proofs.YtgaggpnlimchkaaGreatDoor.B1 Go.Proofs.YtgaggpnlimchkaaGreatDoor.B2 Go.Proofs.YtgaggpnlimchkaaGreatDoor.T1 Go.Proofs.YtgaggpnlimchkaaGreatDoor.BT Go.Proofs.YtgaggpnlimchkaaGreatDoor.P5 Go.Proofs.YtgaggpnlimchkaaGreatDoor.B5 Go.Proofs.YtgaggpnlimchkaaGreatDoor.P6 Go.Proofs.YtgaggpnlimchkaaGreatDoor.P9 Go.Proofs.YtgaggpnlimchkaaGreatDoor.B6 Go.Proofs.YtgaggpnlimchkaaGreatDoor.B9 Go.Proofs.YtgaggpnlimchkaaGreatDoor.D1 Go.Proofs.YtgaggpnlimchkaaGreatDoor.W8 Go.Proofs.YtgaggpnlimchkaaGreatDoor.RC Go.Proofs.YtgaggpnlimchkaaGreatDoor.RI Go.Proofs.YtgaggpnlimchkaaGreatDoor.P10 Go.Proofs.YtgaggpnlimchkaaGreatDoor.B10 Go.Proofs.YtgaggpnlimchkaaGreatDoor.P11
open Go.ChangeShapes Go.WideShapes Go.ChangeAt Go.RowKit
set_option linter.unusedVariables false

theorem infoFiC : (Tryz.prog.info? 28).map (fun i => (i.zero, i.size, i.bytes)) = some (some (.agg #[.int .i64 0, .string ⟨#[]⟩, .string ⟨#[]⟩, .slice none 0 0, .slice none 0 0]), 5, 88) := by kernel_rfl
theorem infoNC : (Tryz.prog.info? 107).map (fun i => (i.zero, i.size, i.bytes)) = some (some (.agg #[.int .i64 0, .int .i64 0, .int .i64 0, .int .i64 0, .int .i64 0, .int .i64 0, .int .i64 0, .string ⟨#[]⟩, .bool false]), 9, 80) := by kernel_rfl

theorem flat_inv {m : Nat} : ∀ {rs : List (List Value)} {j : Nat} {u : Value}, (∀ r ∈ rs, r.length = m) → rs.flatten[j]? = some u → ∃ i c r, rs[i]? = some r ∧ r[c]? = some u ∧ j = i * m + c
  | [], j, u, _, h => by simp at h
  | x :: t, j, u, hm, h => by
    have hx := hm x (by simp)
    rw [List.flatten_cons] at h
    rcases Nat.lt_or_ge j m with hl | hl
    · rw [List.getElem?_append_left (by omega)] at h
      exact ⟨0, j, x, rfl, h, by omega⟩
    · rw [List.getElem?_append_right (by omega), hx] at h
      obtain ⟨i, c, r, h1, h2, h3⟩ := flat_inv (fun r hr => hm r (by simp [hr])) h
      exact ⟨i + 1, c, r, by simpa using h1, h2, by rw [Nat.add_mul]; omega⟩

theorem at_newsC {m : Nat} {W : World} {g off : Nat} {rs : List (List Value)} (h : RC.At m W g off rs) (hm : ∀ r ∈ rs, r.length = m) : ∀ j u, rs.flatten[j]? = some u → W.cell? ((⟨g, off, none⟩ : Addr).add j) = some u := fun j u hu => by
  obtain ⟨i, c, r, h1, h2, rfl⟩ := flat_inv hm hu
  have := h.cells i r h1 c u h2
  rw [Nat.add_assoc] at this
  rw [add_lit]
  exact this

theorem strRs_flat (ss : List (List UInt8)) : (strRs ss).flatten = wordsV ss := by
  induction ss with
  | nil => rfl
  | cons x r ih =>
    show [Value.string ⟨x.toArray⟩] ++ (strRs r).flatten = _
    rw [ih]; rfl

theorem strSlc_news {W : World} {a : Addr} {n c : Nat} {ss : List (List UInt8)} (h : StrSlc W (.slice (some a) n c) ss) : ∀ j u, (wordsV ss)[j]? = some u → W.cell? (a.add j) = some u := by
  obtain ⟨a', c', e, h1, h2, h3⟩ := h
  intro j u hu
  injection e with e1 _ _
  obtain ⟨g, off, ea, hat⟩ := h3 (by intro e0; rw [← strRs_flat, e0] at hu; simp at hu)
  rw [ea] at e1
  obtain rfl := Option.some.inj e1
  exact at_newsC hat (strRs_one ss) j u (by rw [strRs_flat]; exact hu)

theorem noSlc_news {W : World} {a : Addr} {n c : Nat} {ns : List No} (h : NoSlc W (.slice (some a) n c) ns) : ∀ j u, (noRs ns).flatten[j]? = some u → W.cell? (a.add j) = some u := by
  obtain ⟨a', c', e, h1, h2, h3⟩ := h
  intro j u hu
  injection e with e1 _ _
  obtain ⟨g, off, ea, hat⟩ := h3 (by intro e0; rw [e0] at hu; simp at hu)
  rw [ea] at e1
  obtain rfl := Option.some.inj e1
  exact at_newsC hat (noRs_nine ns) j u hu

theorem fiSlc_news {W : World} {a : Addr} {n c : Nat} {xs : List Fv} (h : FiSlc W (.slice (some a) n c) xs) : ∀ j u, (fiRs xs).flatten[j]? = some u → W.cell? (a.add j) = some u := by
  obtain ⟨⟨a', c', e, h1, h2, h3⟩, _⟩ := h
  intro j u hu
  injection e with e1 _ _
  obtain ⟨g, off, ea, hat⟩ := h3 (by intro e0; rw [e0] at hu; simp at hu)
  rw [ea] at e1
  obtain rfl := Option.some.inj e1
  exact at_newsC hat (fiRs_five xs) j u hu

theorem noRs_len (ns : List No) : (noRs ns).length = ns.length := by simp [noRs]
theorem noRs_flen (ns : List No) : (noRs ns).flatten.length = ns.length * 9 := by rw [flat_len (noRs_nine ns), noRs_len]
theorem noRs_ones (ns : List No) : ∀ u ∈ (noRs ns).flatten, u.oneCell' = true := fun u hu => by
  obtain ⟨r, hr, hu⟩ := List.mem_flatten.1 hu
  obtain ⟨n, _, rfl⟩ := List.mem_map.1 hr
  simp only [noL, List.mem_cons, List.not_mem_nil, or_false] at hu
  rcases hu with rfl | rfl | rfl | rfl | rfl | rfl | rfl | rfl | rfl <;> rfl
theorem wordsV_ones (ss : List (List UInt8)) : ∀ u ∈ wordsV ss, u.oneCell' = true := fun u hu => by
  obtain ⟨s, _, rfl⟩ := List.mem_map.1 hu
  rfl

theorem eql_nilC {P : Program} (w : World) {t e : TypeId} (a : Option Addr) (n c : Nat) (ht : P.underlying t = some (.slice e)) : (binOp .eql t (.slice a n c) (.slice none 0 0)).run P w = .ok (.bool a.isNone) w := by
  have h : ∀ d : Nat, (Op.equalIn (d + 1) t (.slice a n c) (.slice none 0 0)).run P w = .ok a.isNone w := fun d => by
    cases a <;> simp [Op.equalIn, run_underlying ht]
  simp only [binOp]
  simp [Op.equal, Op.maxDepth, h 9999]

/-- A copy of texts of the call's own. -/
def TextsC (ss : List (List UInt8)) (w : World) (e : Ending) (w' : World) : Prop := ∃ u, e = .returned u ∧ Words w' u w.heap.size ss ∧ Below w.heap.size w w'
def NotesC (ns : List No) (w : World) (e : Ending) (w' : World) : Prop := ∃ u, e = .returned u ∧ Nots w' u w.heap.size ns ∧ Below w.heap.size w w'

set_option maxRecDepth 20000 in
set_option maxHeartbeats 2000000 in
theorem CloneS_impl (ss : List (List UInt8)) (v : Value) (w : World) (h : StrSlc w v ss) (hs : ss.length ≤ 2000000) :
    Calls Tryz.prog 82 #[v] w (TextsC ss w) := by
  obtain ⟨i0, hi, hz0, hz1, hz2⟩ := info_parts infoStr
  obtain ⟨a, cap, rfl, hnc, hcap, hA⟩ := h.form
  cases a with
  | none =>
    have hx : ss = [] := by
      cases ss with
      | nil => rfl
      | cons x r =>
        obtain ⟨g, off, e, _⟩ := hA (by simp)
        cases e
    subst hx
    clear h hA
    have hnil := fun (w' : World) => eql_nilC (P := Tryz.prog) w' none 0 cap Tryz.underlying25
    go_enter Tryz.func82, Tryz.ntmps82
    go_wp2_with fail
    go_ret
    exact ⟨_, rfl, World.ownsRow_nil _ _ _ _, Below.refl _ _⟩
  | some ad =>
    have hB0 : Below w.heap.size w (w.alloc (.cells #[] 9)) := (Below.refl _ _).alloc (Nat.le_refl _) _
    have HNEW := Lib.hid (strSlc_news (StrSlc.on h hB0))
    have hl : (wordsV ss).length = ss.length * 1 := by simp [wordsV]
    have hlit : (w.alloc (.cells #[] 9)).ownsRow w.heap.size 9 1 (.slice (some ⟨w.heap.size, 0, none⟩) 0 0) 0 [] := World.ownsRow_lit w #[] 0 (Nat.le_refl _) (by decide) rfl
    obtain ⟨n, hn⟩ : ∃ n, ss.length = n := ⟨_, rfl⟩
    have HN := Lib.hid hn
    rw [hn] at hl hs ⊢
    have HL := Lib.hid hl
    clear h hA hn hl
    have hnil := fun (w' : World) => eql_nilC (P := Tryz.prog) w' (some ad) n cap Tryz.underlying25
    go_enter Tryz.func82, Tryz.ntmps82
    go_wp2_with (at_builtin; refine wpList_append_own _ rfl _ _ 25 rfl w.heap.size 9 i0 _ 1 16 Tryz.underlying25 hi hz0 hz1 hz2 rfl (by decide) _ 0 [] rfl hlit ad n cap (wordsV ss) rfl HL.out HNEW.out (wordsV_ones ss) (by unfold maxLen; omega) (by omega) hB0.size ?_; intro v4 w4 hown4 hgrow4 _; have hB4 := hB0.grown hgrow4 hB0.size (fun k hk => (World.ownsRow.lt hlit k hk).1))
    go_ret
    refine ⟨v4, rfl, ?_, hB4⟩
    unfold Words
    rw [HN.out]
    rw [Nat.zero_add, List.nil_append] at hown4
    exact hown4

set_option maxRecDepth 20000 in
set_option maxHeartbeats 2000000 in
theorem CloneN_impl (ns : List No) (v : Value) (w : World) (h : NoSlc w v ns) (hs : ns.length ≤ 2000000) :
    Calls Tryz.prog 83 #[v] w (NotesC ns w) := by
  obtain ⟨i0, hi, hz0, hz1, hz2⟩ := info_parts infoNC
  obtain ⟨a, cap, rfl, hnc, hcap, hA⟩ := h.form
  cases a with
  | none =>
    have hx : ns = [] := by
      cases ns with
      | nil => rfl
      | cons x r =>
        obtain ⟨g, off, e, _⟩ := hA (by simp)
        cases e
    subst hx
    clear h hA
    have hnil := fun (w' : World) => eql_nilC (P := Tryz.prog) w' none 0 cap Tryz.underlying26
    go_enter Tryz.func83, Tryz.ntmps83
    go_wp2_with fail
    go_ret
    exact ⟨_, rfl, World.ownsRow_nil _ _ _ _, Below.refl _ _⟩
  | some ad =>
    have hB0 : Below w.heap.size w (w.alloc (.cells #[] 107)) := (Below.refl _ _).alloc (Nat.le_refl _) _
    have HNEW := Lib.hid (noSlc_news (NoSlc.on h hB0))
    have hl : (noRs ns).flatten.length = ns.length * 9 := noRs_flen ns
    have hlit : (w.alloc (.cells #[] 107)).ownsRow w.heap.size 107 9 (.slice (some ⟨w.heap.size, 0, none⟩) 0 0) 0 [] := World.ownsRow_lit w #[] 0 (Nat.le_refl _) (by decide) rfl
    obtain ⟨n, hn⟩ : ∃ n, ns.length = n := ⟨_, rfl⟩
    have HN := Lib.hid hn
    rw [hn] at hl hs ⊢
    have HL := Lib.hid hl
    clear h hA hn hl
    have hnil := fun (w' : World) => eql_nilC (P := Tryz.prog) w' (some ad) n cap Tryz.underlying26
    go_enter Tryz.func83, Tryz.ntmps83
    go_wp2_with (at_builtin; refine wpList_append_own _ rfl _ _ 26 rfl w.heap.size 107 i0 _ 9 80 Tryz.underlying26 hi hz0 hz1 hz2 rfl (by decide) _ 0 [] rfl hlit ad n cap (noRs ns).flatten rfl HL.out HNEW.out (noRs_ones ns) (by unfold maxLen; omega) (by omega) hB0.size ?_; intro v4 w4 hown4 hgrow4 _; have hB4 := hB0.grown hgrow4 hB0.size (fun k hk => (World.ownsRow.lt hlit k hk).1))
    go_ret
    refine ⟨v4, rfl, ?_, hB4⟩
    unfold Nots
    rw [HN.out]
    rw [Nat.zero_add, List.nil_append] at hown4
    exact hown4

/-- A copy of one figure, with rows of the call's own. -/
def FigC (x : Fv) (w : World) (e : Ending) (w' : World) : Prop := ∃ y, e = .returned (fiV y) ∧ y.f = x.f ∧ OneG w.heap.size y w' ∧ Below w.heap.size w w'

set_option maxRecDepth 20000 in
set_option maxHeartbeats 4000000 in
theorem figureCopy_impl (x : Fv) (w : World) (h : HeldF w x) (hs : x.f.bs.length ≤ 2000000) (hs2 : x.f.ns.length ≤ 2000000) :
    Calls Tryz.prog 47 #[fiV x] w (FigC x w) := by
  obtain ⟨⟨abv, tag, id, bs, ns⟩, u, un⟩ := x
  dsimp only at hs hs2
  have HH := Lib.hid h
  obtain ⟨⟨a, cap, eu, hc1, hc2⟩, a2, cap2, en, hc3, hc4⟩ := heldF_form h
  dsimp only at eu hc1 en hc3
  subst eu en
  obtain ⟨W1, eW1⟩ : ∃ W1, w.alloc (.cells #[.int .i64 abv, .string ⟨tag.toArray⟩, .string ⟨id.toArray⟩, .slice a bs.length cap, .slice a2 ns.length cap2] 28) = W1 := ⟨_, rfl⟩
  have hB1 : Below w.heap.size w W1 := by rw [← eW1]; exact (Below.refl _ _).alloc (Nat.le_refl _) _
  have hz1 : W1.heap.size = w.heap.size + 1 := by rw [← eW1]; exact World.size_alloc _ _
  have hl1 : LBlk W1 w.heap.size [.int .i64 abv, .string ⟨tag.toArray⟩, .string ⟨id.toArray⟩, .slice a bs.length cap, .slice a2 ns.length cap2] := by rw [← eW1]; exact LBlk.new w _ _
  obtain ⟨W2, eW2⟩ : ∃ W2, W1.alloc (.cells #[.int .i64 0, .string ⟨#[]⟩, .string ⟨#[]⟩, .slice none 0 0, .slice none 0 0] 28) = W2 := ⟨_, rfl⟩
  have hB2 : Below w.heap.size w W2 := by rw [← eW2]; exact hB1.alloc hB1.size _
  have hz2 : W2.heap.size = w.heap.size + 1 + 1 := by rw [← eW2, World.size_alloc, hz1]
  have hr2 : LBlk W2 (w.heap.size + 1) fiZ := by rw [← eW2, ← hz1]; exact LBlk.new W1 fiZ _
  have hl2 : LBlk W2 w.heap.size [.int .i64 abv, .string ⟨tag.toArray⟩, .string ⟨id.toArray⟩, .slice a bs.length cap, .slice a2 ns.length cap2] := by rw [← eW2]; exact hl1.alloc _
  have HT := Lib.hid (CloneS_impl bs _ W2 (StrSlc.on HH.out.1 hB2) hs)
  rw [fiV_is]
  dsimp only
  have HW := Lib.hid (show (w.alloc (.cells #[.int .i64 abv, .string ⟨tag.toArray⟩, .string ⟨id.toArray⟩, .slice a bs.length cap, .slice a2 ns.length cap2] 28)).alloc (.cells #[.int .i64 0, .string ⟨#[]⟩, .string ⟨#[]⟩, .slice none 0 0, .slice none 0 0] 28) = W2 by rw [eW1, eW2])
  obtain ⟨nb, hnb⟩ : ∃ nb, bs.length = nb := ⟨_, rfl⟩
  obtain ⟨nn, hnn⟩ : ∃ nn, ns.length = nn := ⟨_, rfl⟩
  have HNB := Lib.hid hnb
  have HNN := Lib.hid hnn
  have HS2 := Lib.hid hs2
  have HX := Lib.hid (show HeldF w ⟨⟨abv, tag, id, bs, ns⟩, .slice a nb cap, .slice a2 nn cap2⟩ by rw [← hnb, ← hnn]; exact h)
  have c3 := (hl2.2 3 _ rfl).1
  have HZ2 := Lib.hid hz2
  have HL2 := Lib.hid hl2
  have HR2 := Lib.hid hr2
  rw [hnb] at c3
  rw [hnb, hnn] at HW HL2
  rw [hnb] at HT
  rw [hnb, hnn]
  clear h hc1 hc2 hc3 hc4 eW1 eW2 hB1 hz1 hz2 hl1 hl2 hr2 hs hs2 hnb hnn HH
  go_enter Tryz.func47, Tryz.ntmps47
  go_wp2_with fail
  rw [HW.out]
  refine HT.out.mono ?_
  rintro e w3 ⟨q, rfl, hq, g3⟩
  have hB3 := hB2.trans (g3.mono hB2.size)
  have hl3 := HL2.out.below g3
  have hr3 := HR2.out.below g3
  obtain ⟨aq, cq, rfl, hqc, _⟩ := row_formG hq
  obtain ⟨d3, f3⟩ := hl3.2 3 _ rfl
  have hl4 := hl3.set 3 (.slice aq bs.length cq) (by simp)
  have hr4 := hr3.set_other (show w.heap.size + 1 ≠ w.heap.size by omega) 3 (.slice aq bs.length cq)
  have hB4 := hB3.setCell (p := ⟨w.heap.size, 3, none⟩) (Nat.le_refl _) (.slice aq bs.length cq)
  have hon4 : Only w.heap.size w3 (w3.setCell ⟨w.heap.size, 3, none⟩ (.slice aq bs.length cq)) := (Only.refl w.heap.size w3).setCell (p := ⟨w.heap.size, 3, none⟩) rfl _
  have HQ4 := Lib.hid (show Words (w3.setCell ⟨w.heap.size, 3, none⟩ (.slice aq bs.length cq)) (.slice aq bs.length cq) W2.heap.size bs from row_onlyG hq hon4 (by have := HZ2.out; omega))
  have c4 := (hl4.2 4 _ rfl).1
  have HT2 := Lib.hid (CloneN_impl ns _ _ (NoSlc.on HX.out.2 hB4) HS2.out)
  have HL4 := Lib.hid hl4
  have HR4 := Lib.hid hr4
  have HB4 := Lib.hid hB4
  have HSZ := Lib.hid (show (w3.setCell ⟨w.heap.size, 3, none⟩ (.slice aq bs.length cq)).heap.size = w3.heap.size from World.size_setCell _ _ _)
  have HG3 := Lib.hid g3.size
  rw [HNB.out] at HQ4 HT2 HL4 HR4 HB4 HSZ c4 ⊢
  rw [HNB.out] at hqc
  clear hl3 hr3 hl4 hr4 hB4 hB3 hon4 hq g3 hB2 c3 HL2 HR2 HT HW
  go_wp2_with fail
  refine HT2.out.mono ?_
  rintro e w5 ⟨p, rfl, hp, g5⟩
  obtain ⟨ap, cp, rfl, hpc, _⟩ := row_formG hp
  have hl5 := HL4.out.below g5
  have hr5 := HR4.out.below g5
  obtain ⟨d4, f4⟩ := hl5.2 4 _ rfl
  have hq5 := own_below HQ4.out g5
  have hl6 := hl5.set 4 (.slice ap ns.length cp) (by simp)
  have hr6 := hr5.set_other (show w.heap.size + 1 ≠ w.heap.size by omega) 4 (.slice ap ns.length cp)
  have hon6 : Only w.heap.size w5 (w5.setCell ⟨w.heap.size, 4, none⟩ (.slice ap ns.length cp)) := (Only.refl w.heap.size w5).setCell (p := ⟨w.heap.size, 4, none⟩) rfl _
  have hB5 := HB4.out.trans (g5.mono HB4.out.size)
  have hB6 := hB5.setCell (p := ⟨w.heap.size, 4, none⟩) (Nat.le_refl _) (.slice ap ns.length cp)
  have hlow : w.heap.size + 1 + 1 ≤ w3.heap.size := by have := HZ2.out; have := HG3.out; omega
  rw [HSZ.out] at hp
  have hq6 := row_onlyG hq5 hon6 (by have := HZ2.out; omega)
  have hp6 := row_onlyG hp hon6 (by omega)
  obtain ⟨w7, hst7, hr7, hon7, _⟩ := store_blk (P := Tryz.prog) (ty := 28) (vs := fiL ⟨⟨abv, tag, id, bs, ns⟩, .slice aq nb cq, .slice ap ns.length cp⟩) hr6 fi_wide rfl rfl
  have HST := Lib.hid hst7
  have HL6 := Lib.hid (load_blk (P := Tryz.prog) (ty := 28) hl6 fi_wide)
  have hB7 := hB6.trans (hon7.below (show w.heap.size ≤ w.heap.size + 1 by omega) hB6.size)
  have hq7 := row_onlyG hq6 hon7 (by have := HZ2.out; omega)
  have hp7 := row_onlyG hp6 hon7 (by omega)
  have HONE := Lib.hid (show OneG w.heap.size ⟨⟨abv, tag, id, bs, ns⟩, .slice aq nb cq, .slice ap ns.length cp⟩ w7 from ⟨row_baseG hq7 (by have := HZ2.out; omega), row_baseG hp7 (by omega)⟩)
  unfold fiL at HST
  rw [HNN.out] at HST HL6 HONE hr7 ⊢
  dsimp only at HST
  clear hl5 hr5 hl6 hr6 hon6 hB5 hB6 hq5 hq6 hp6 hp hq7 hp7 hst7 hon7 g5
  go_wp2_with (first | ((with_reducible refine wp_load_at HL6.out ?_ ?_); exact And.intro rfl (And.intro rfl rfl)) | ((with_reducible refine wp_store_at HST.out ?_ ?_); exact And.intro rfl (And.intro rfl (And.intro rfl rfl))))
  exact bodyPost_ret (results_wide (load_blk hr7 fi_wide) rfl rfl) rfl ⟨_, rfl, rfl, HONE.out, hB7⟩

theorem news_ofC {w : World} {b : Nat} {vs : List Value} (h : LBlk w b vs) : ∀ j u, vs[j]? = some u → w.cell? ((⟨b, 0, none⟩ : Addr).add j) = some u := fun j u hu => by
  rw [add_lit, Nat.zero_add]
  exact (h.2 j u hu).1

theorem fiL_ones {W : World} {x : Fv} (h : HeldF W x) : ∀ u ∈ fiL x, u.oneCell' = true := List.all_eq_true.1 (fiL_one h)

theorem fis_snoc {xs ys : List Fv} {i : Nat} {x y : Fv} (h : fis ys = (fis xs).take i) (hx : xs[i]? = some x) (hy : y.f = x.f) : fis (ys ++ [y]) = (fis xs).take (i + 1) := by
  rw [List.take_add_one, fis_at hx, ← h]
  unfold fis
  rw [List.map_append, ← hy]; rfl

/-- A copy of a tree, with rows of the call's own. -/
def TreeC (fs : List Fi) (w : World) (e : Ending) (w' : World) : Prop := ∃ v ys, e = .returned v ∧ OwnG w.heap.size v ys w' ∧ fis ys = fs ∧ Below w.heap.size w w'

set_option maxRecDepth 20000 in
set_option maxHeartbeats 4000000 in
theorem treeCopy_impl (xs : List Fv) (v : Value) (w : World) (h : FiSlc w v xs) (hf : ∀ x ∈ xs, FitsF x) (hs : xs.length ≤ 2000000) :
    Calls Tryz.prog 46 #[v] w (TreeC (fis xs) w) := by
  obtain ⟨i0, hi, hz0, hz1, hz2⟩ := info_parts infoFiC
  have hB0 : Below w.heap.size w (w.alloc (.cells #[] 28)) := (Below.refl _ _).alloc (Nat.le_refl _) _
  have ho0 := ownG_lit w (Nat.le_refl w.heap.size)
  have HH := Lib.hid h.2
  have HF := Lib.hid hf
  obtain ⟨a, cap, rfl, hnc, hcap, hA⟩ := h.form
  obtain ⟨n, hn⟩ : ∃ n, xs.length = n := ⟨_, rfl⟩
  have HN := Lib.hid hn
  have HA := Lib.hid hA
  rw [hn] at hnc hs ⊢
  have hnc' : (n : Int) ≤ (cap : Int) := by omega
  have hs' : (n : Int) ≤ 2000000 := by omega
  clear h hf hcap hA hn
  go_enter Tryz.func46, Tryz.ntmps46
  go_wp2_with fail
  go_loopg [3, 9] n (fun kx s3 s9 wr => ∃ (i : Nat) (ys : List Fv), s9 = .int .i64 (i : Int) ∧ kx + i = n ∧ ys.length = i ∧ Hid (fis ys = (fis xs).take i) ∧ OwnG w.heap.size s3 ys wr ∧ Below w.heap.size w wr)
  case atStart => exact ⟨0, [], rfl, by omega, rfl, Lib.hid rfl, ho0, hB0⟩
  case round =>
    obtain ⟨i, ys, rfl, hki, hyl, HY, hown, hB⟩ := hrel
    clear ho0 hB0
    by_cases hlt : i < n
    · have hlt' : (i : Int) < (n : Int) := by omega
      have i0' : (0 : Int) ≤ (i : Int) := by omega
      obtain ⟨x, hx⟩ : ∃ x, xs[i]? = some x := ⟨_, List.getElem?_eq_getElem (by rw [HN.out]; exact hlt)⟩
      obtain ⟨g, off, rfl, hat⟩ := HA.out (by intro e0; rw [e0] at hx; cases hx)
      have hxm := List.mem_of_getElem? hx
      have HLD := Lib.hid (fi_load (hat.on hB) hx)
      have hfx := HF.out x hxm
      have hhx := (HH.out x hxm).on hB
      obtain ⟨w3, hst3, hx3, hb3⟩ := fi_laid wr hhx
      have HST3 := Lib.hid hst3
      have HL3 := Lib.hid (load_blk (P := Tryz.prog) (ty := 28) hx3 fi_wide)
      have HC := Lib.hid (figureCopy_impl x w3 (hhx.on hb3) (by have := hfx.2.2.2.1; omega) (by have := hfx.2.2.2.2.2.1; omega))
      have hB3 := hB.trans (hb3.mono hB.size)
      have hown3 := hown.on hb3
      obtain ⟨a3, c3, rfl⟩ := hown.form
      have HX := Lib.hid hx
      rw [hyl] at hown hown3 ⊢
      have HOW := Lib.hid hown3
      have HYL := Lib.hid hyl
      unfold fiV fiL at HC HLD HST3 HL3
      clear hx hat hxm hfx hhx hst3 hx3 hb3 hown hown3 hyl
      go_wp2_with (first | ((with_reducible refine wp_load_at HLD.out ?_ ?_); exact And.intro rfl (And.intro rfl rfl)) | ((with_reducible refine wp_store_at HST3.out ?_ ?_); exact And.intro rfl (And.intro rfl (And.intro rfl rfl))) | ((with_reducible refine wp_load_at HL3.out ?_ ?_); exact And.intro rfl (And.intro rfl rfl)))
      refine HC.out.mono ?_
      rintro e w5 ⟨y, rfl, hyf, hy5, g5⟩
      have hown5 := HOW.out.on g5
      have hB5 := hB3.trans (g5.mono hB3.size)
      obtain ⟨⟨au, cu, eu, _⟩, an, cn, en, _⟩ := heldF_form hy5.held
      have hfl := fiL_ones hy5.held
      have HYF := Lib.hid hyf
      obtain ⟨⟨abv, tg, idp, bs, ns⟩, u, un⟩ := y
      dsimp only at eu en
      subst eu en
      have hBa := hB5.alloc hB5.size (.cells (fiL ⟨⟨abv, tg, idp, bs, ns⟩, .slice au bs.length cu, .slice an ns.length cn⟩).toArray 28)
      have hba : Below w5.heap.size w5 (w5.alloc (.cells (fiL ⟨⟨abv, tg, idp, bs, ns⟩, .slice au bs.length cu, .slice an ns.length cn⟩).toArray 28)) := (Below.refl _ _).alloc (Nat.le_refl _) _
      have howna := hown5.on hba
      have hya := hy5.on hba
      have hna := news_ofC (LBlk.new w5 (fiL ⟨⟨abv, tg, idp, bs, ns⟩, .slice au bs.length cu, .slice an ns.length cn⟩) 28)
      have horow := howna.own
      rw [HYL.out] at horow
      rw [fiV_is]
      dsimp only
      go_wp2_with (at_builtin; refine wpList_append_own _ rfl _ _ 24 rfl w.heap.size 28 i0 _ 5 88 Tryz.underlying24 hi hz0 hz1 hz2 rfl (by decide) _ i (fiRs ys).flatten rfl horow ⟨w5.heap.size, 0, none⟩ 1 1 (fiL ⟨⟨abv, tg, idp, bs, ns⟩, .slice au bs.length cu, .slice an ns.length cn⟩) rfl rfl hna hfl (by unfold maxLen; omega) (by omega) hBa.size ?_; intro v7 w7 hown7 hgrow7 _)
      have HG := Lib.hid (ownG_snoc HYL.out HOW.out howna hya hB3.size hown7 hgrow7)
      go_roundg (n - (i + 1))
      case measure => omega
      case rel => exact ⟨i + 1, _, by go_num, by omega, by rw [List.length_append, HYL.out]; rfl, Lib.hid (fis_snoc HY.out HX.out HYF.out), HG.out, hBa.grown hgrow7 hBa.size (fun k' hk' => (World.ownsRow.lt horow k' hk').1)⟩
    · have hlt' : ¬ (i : Int) < (n : Int) := by omega
      have HD := Lib.hid (show fis ys = fis xs by
        have := HY.out
        rwa [List.take_of_length_le (by rw [fis_len, HN.out]; omega)] at this)
      obtain ⟨a3, c3, rfl⟩ := hown.form
      have HOW := Lib.hid hown
      subst hyl
      go_wp2_with fail
      go_ret
      exact ⟨_, ys, rfl, HOW.out, HD.out, hB⟩

end Go.Proofs.YtgaggpnlimchkaaGreatDoor.B11
