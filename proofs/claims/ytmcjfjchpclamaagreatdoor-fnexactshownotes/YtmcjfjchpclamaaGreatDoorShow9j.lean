/- Chapter 9: the program's ShowNotes. -/
import Derived.Test.YtmcjfjchpclamaaGreatDoorShow9i
namespace Go.Proofs.YtmcjfjchpclamaaGreatDoor.B9
open Go.Proofs.YtmcjfjchpclamaaGreatDoor.P1 Go.Proofs.YtmcjfjchpclamaaGreatDoor.B1 Go.Proofs.YtmcjfjchpclamaaGreatDoor.B2 Go.Proofs.YtmcjfjchpclamaaGreatDoor.T1 Go.Proofs.YtmcjfjchpclamaaGreatDoor.BT Go.Proofs.YtmcjfjchpclamaaGreatDoor.P5 Go.Proofs.YtmcjfjchpclamaaGreatDoor.P6 Go.Proofs.YtmcjfjchpclamaaGreatDoor.P8 Go.Proofs.YtmcjfjchpclamaaGreatDoor.P9 Go.Proofs.YtmcjfjchpclamaaGreatDoor.B5 Go.Proofs.YtmcjfjchpclamaaGreatDoor.B6 Go.Proofs.YtmcjfjchpclamaaGreatDoor.V6 Go.Proofs.YtmcjfjchpclamaaGreatDoor.B8 Go.Proofs.YtmcjfjchpclamaaGreatDoor.D1 Go.Proofs.YtmcjfjchpclamaaGreatDoor.W8 Go.Proofs.YtmcjfjchpclamaaGreatDoor.RC Go.Proofs.YtmcjfjchpclamaaGreatDoor.RI
open Go.ChangeShapes Go.WideShapes Go.ChangeAt Go.RowKit
set_option linter.unusedVariables false

/-- strings.Join with a sign and a blank, over a row of texts. -/
theorem join9_at (ls : List (List UInt8)) (n bk cap : Nat) (w : World) (hn : ls.length = n) (hcells : ∀ k l, ls[k]? = some l → w.cell? ⟨bk, k, none⟩ = some (.string ⟨l.toArray⟩)) (hbk : bk < w.heap.size) (hcap : n ≤ cap) (hs : n ≤ 100) (hlen : (joinBy [59, 32] ls).length ≤ 1000) :
    Calls Tryz.prog 33 #[.slice (some ⟨bk, 0, none⟩) n cap, .string ⟨#[59, 32]⟩] w (Ans (.string ⟨(joinBy [59, 32] ls).toArray⟩) w) := by
  subst hn
  have e1 : (ls.map fun l => (⟨l.toArray⟩ : ByteArray)).map (·.data.toList) = ls := by simp [Function.comp_def]
  have e2 : (ls.map fun l => (⟨l.toArray⟩ : ByteArray)).length = ls.length := by simp
  rw [← joinBy_is] at hlen ⊢
  have h := Tryz.strings_Join bk 0 cap (ls.map fun l => (⟨l.toArray⟩ : ByteArray)) ⟨#[59, 32]⟩ w (fun k x hx => by
      rw [List.getElem?_map] at hx
      cases hl : ls[k]? with
      | none => rw [hl] at hx; cases hx
      | some l =>
        rw [hl] at hx
        cases hx
        rw [Nat.zero_add]
        exact hcells k l hl) hbk (by rw [e2]; omega) (by rw [e2]; exact hcap) (by rw [e1]; exact Nat.le_trans hlen (by decide))
  rw [e1, e2] at h
  exact h

set_option maxRecDepth 20000 in
set_option maxHeartbeats 2000000 in
theorem ShowNotes_impl (ns : List No) (v : Value) (w : World) (L : Pow w) (h : NoSlc w v ns) (hs : ns.length ≤ 2000000) (hx : ∀ n ∈ ns, NoF n) :
    Calls Tryz.prog 9 #[v] w (Ans (.string ⟨(showNotes ns).toArray⟩) w) := by
  obtain ⟨i0, hi, hz0, hz1, hz2⟩ := info_parts infoStr
  have HK := Lib.hid (notesOk_impl ns v w L h hs hx)
  have HV := Lib.hid h
  have HP := Lib.hid L
  have HX := Lib.hid hx
  obtain ⟨a, cap, rfl, hnc, hcap, HA⟩ := h.form
  obtain ⟨n, hn⟩ : ∃ n, ns.length = n := ⟨_, rfl⟩
  rw [hn] at HK HV hnc ⊢
  have HN := Lib.hid hn
  replace HA := Lib.hid HA
  have hnc' : (n : Int) ≤ (cap : Int) := by omega
  clear h hs hx hn L hcap
  cases ho : notesOk ns
  · have HE := Lib.hid (show showNotes ns = [] by unfold showNotes; rw [ho]; rfl)
    rw [ho] at HK
    clear ho
    go_enter Tryz.func9, Tryz.ntmps9
    go_wp2_with (go_at_call 31; refine HK.out.mono ?_; rintro e w1 ⟨rfl, g1⟩)
    go_ret
    exact ⟨by rw [HE.out]; rfl, g1⟩
  · have HE := Lib.hid (show showNotes ns = joinBy [59, 32] (ns.map showNote) by unfold showNotes; rw [ho]; rfl)
    have HOK := Lib.hid (notesOk_len ho)
    have hn12 : n ≤ 12 := by have := HOK.out.1; rw [HN.out] at this; exact this
    have h12' : (n : Int) ≤ 12 := by omega
    rw [ho] at HK
    clear ho
    go_enter Tryz.func9, Tryz.ntmps9
    go_wp2_with (go_at_call 31; refine HK.out.mono ?_; rintro e w1 ⟨rfl, g1⟩)
    have ho1 : Words (w1.alloc (.cells #[] 9)) (.slice (some ⟨w1.heap.size, 0, none⟩) 0 0) w1.heap.size [] := World.ownsRow_lit w1 #[] 0 (Nat.le_refl _) (by decide) rfl
    have hB1 : Below w1.heap.size w1 (w1.alloc (.cells #[] 9)) := (Below.refl _ _).alloc (Nat.le_refl _) _
    go_loopg [3, 12] n (fun kx s3 s12 wr => ∃ i : Nat, s12 = .int .i64 (i : Int) ∧ kx + i = n ∧ Words wr s3 w1.heap.size ((ns.take i).map showNote) ∧ (i = 0 → s3 = .slice (some ⟨w1.heap.size, 0, none⟩) 0 0) ∧ w1.heap.size < wr.heap.size ∧ Below w1.heap.size w1 wr)
    case atStart => exact ⟨0, rfl, by omega, ho1, fun _ => rfl, by simp, hB1⟩
    case round =>
      obtain ⟨i, rfl, hk, hown, hz, hlt1, hB⟩ := hrel
      clear ho1 hB1
      by_cases hlt : i < n
      · have hlt' : (i : Int) < (n : Int) := by omega
        have i0' : (0 : Int) ≤ (i : Int) := by omega
        obtain ⟨x, hx⟩ : ∃ x, ns[i]? = some x := ⟨_, List.getElem?_eq_getElem (by rw [HN.out]; exact hlt)⟩
        obtain ⟨g, off, rfl, hat⟩ := HA.out (by intro e0; rw [e0] at hx; cases hx)
        have hBw := g1.trans (hB.mono g1.size)
        have HLD := Lib.hid (no_load (hat.on hBw) hx)
        obtain ⟨w2, hst, hl2, g2⟩ := no_laid wr x
        have HST := Lib.hid hst
        have hB2 := hB.trans (g2.mono hB.size)
        have hBw2 := hBw.trans (g2.mono hBw.size)
        have HL2 := Lib.hid (show (loadVar 33 ⟨wr.heap.size, 0, none⟩).run Tryz.prog w2 = .ok (noV x) w2 from load_blk hl2 no_wide)
        have HT := Lib.hid (noteText_impl x w2 (HP.out.on hBw2) (HX.out x (List.mem_of_getElem? hx)) (HOK.out.2 x (List.mem_of_getElem? hx)))
        have HTK := Lib.hid (show (ns.take i).map showNote ++ [showNote x] = (ns.take (i + 1)).map showNote by rw [List.take_add_one, hx, List.map_append]; rfl)
        have ht1 : ((ns.take i).map showNote).length = i := by rw [List.length_map, List.length_take, HN.out]; omega
        obtain ⟨a3, c3, rfl, _⟩ := words_form hown
        rw [ht1]
        have hown' : w2.ownsRow w1.heap.size 9 1 (.slice a3 i c3) i (wordsV ((ns.take i).map showNote)) := by
          have := hown
          unfold Words at this
          rw [ht1] at this
          exact own_below this g2
        have HT1 := Lib.hid ht1
        clear hx hat hst hl2 hown hz ht1
        go_wp2_with (first | (go_at_call 32; refine HT.out.mono ?_; rintro e w3 ⟨rfl, g3⟩; have hown3 := own_below hown' g3; have hB3 := hB2.trans (g3.mono hB2.size)) | (at_builtin; refine wpList_append_own _ rfl _ _ 38 rfl w1.heap.size 9 i0 _ 1 16 Tryz.underlying38 hi hz0 hz1 hz2 rfl (by decide) _ i (wordsV ((ns.take i).map showNote)) rfl (World.ownsRow.alloc hown3 _) ⟨w3.heap.size, 0, none⟩ 1 1 [.string ⟨(showNote x).toArray⟩] rfl rfl (cell_one_new _ _ _) (by simp [Value.oneCell']) (by simp [maxLen]; omega) (by omega) (by have := hB3.size; simp; omega) ?_; intro v4 w4 hown4 hgrow4 _) | ((with_reducible refine wp_load_at HLD.out ?_ ?_); exact And.intro rfl (And.intro rfl rfl)) | ((with_reducible refine wp_load_at HL2.out ?_ ?_); exact And.intro rfl (And.intro rfl rfl)) | ((with_reducible refine wp_store_at HST.out ?_ ?_); exact And.intro rfl (And.intro rfl (And.intro rfl rfl))))
        go_roundg (n - (i + 1))
        case measure => omega
        case rel => exact ⟨i + 1, by go_num, by omega, by rw [← HTK.out]; exact words_more (by rw [HT1.out]; exact hown4), fun h0 => absurd h0 (Nat.succ_ne_zero i), by have h1 := hgrow4.size; have h2 := g3.size; have h3 := g2.size; simp at h1; omega, (hB3.alloc hB3.size _).grown hgrow4 (by have := hB3.size; simp; omega) (fun k hk => (World.ownsRow.lt hown3 k hk).1)⟩
      · have hlt' : ¬ (i : Int) < (n : Int) := by omega
        have hin : i = n := by omega
        have hD : (ns.take i).map showNote = ns.map showNote := by rw [List.take_of_length_le (by rw [HN.out]; omega)]
        have ht1 : (ns.map showNote).length = n := by rw [List.length_map, HN.out]
        rw [hD] at hown
        have hlen : (joinBy [59, 32] (ns.map showNote)).length ≤ 1000 := by
          have := join_len (m := 50) (b := [59, 32]) (xs := ns.map showNote) (fun l hl => by
            obtain ⟨y, hy, rfl⟩ := List.mem_map.1 hl
            exact note_len (HOK.out.2 y hy))
          rw [ht1] at this
          have h2 : n * (50 + [59, 32].length) ≤ 12 * 52 := Nat.mul_le_mul hn12 (by decide)
          omega
        obtain ⟨a3, c3, rfl, hc3, h3⟩ := words_form hown
        rw [ht1] at hz hc3 ⊢
        have hj : ∃ bk, a3 = some ⟨bk, 0, none⟩ ∧ Calls Tryz.prog 33 #[.slice (some ⟨bk, 0, none⟩) n c3, .string ⟨#[59, 32]⟩] wr (Ans (.string ⟨(joinBy [59, 32] (ns.map showNote)).toArray⟩) wr) := by
          by_cases h0 : n = 0
          · have hv := hz (by omega)
            injection hv with q1 q2 q3
            exact ⟨w1.heap.size, q1, join9_at (ns.map showNote) n w1.heap.size c3 wr ht1 (fun k l hkl => by
              rw [List.length_eq_zero_iff.1 (ht1.trans h0)] at hkl; simp at hkl) hlt1 hc3 (by omega) hlen⟩
          · obtain ⟨gk, rfl, hgk, hcell⟩ := h3 (by intro e0; rw [e0] at ht1; simp at ht1; omega)
            exact ⟨gk, rfl, join9_at (ns.map showNote) n gk c3 wr ht1 hcell hgk hc3 (by omega) hlen⟩
        obtain ⟨bk, rfl, hjoin⟩ := hj
        have HJ := Lib.hid hjoin
        have hBw := g1.trans (hB.mono g1.size)
        clear hjoin hown hz hlen ht1 hD h3 hc3
        go_wp2_with (go_at_call 33; refine HJ.out.mono ?_; rintro e w2 ⟨rfl, g2⟩)
        go_ret
        exact ⟨by rw [HE.out]; rfl, hBw.trans (g2.mono hBw.size)⟩

end Go.Proofs.YtmcjfjchpclamaaGreatDoor.B9
