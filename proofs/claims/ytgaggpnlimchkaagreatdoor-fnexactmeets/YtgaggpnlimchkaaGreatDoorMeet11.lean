/- Chapter 11: Meets of both. -/
import Derived.Test.YtgaggpnlimchkaaGreatDoorMeetS11
import Derived.Test.YtgaggpnlimchkaaGreatDoorMeetI11
import Derived.Test.YtgaggpnlimchkaaGreatDoorImp10
namespace Go.Proofs.YtgaggpnlimchkaaGreatDoor.B11
open Go.Proofs.YtgaggpnlimchkaaGreatDoor.P1 Go.Proofs.YtgaggpnlimchkaaGreatDoor.B1 Go.Proofs.YtgaggpnlimchkaaGreatDoor.B2 Go.Proofs.YtgaggpnlimchkaaGreatDoor.T1 Go.Proofs.YtgaggpnlimchkaaGreatDoor.BT Go.Proofs.YtgaggpnlimchkaaGreatDoor.P5 Go.Proofs.YtgaggpnlimchkaaGreatDoor.B5 Go.Proofs.YtgaggpnlimchkaaGreatDoor.P6 Go.Proofs.YtgaggpnlimchkaaGreatDoor.P9 Go.Proofs.YtgaggpnlimchkaaGreatDoor.B6 Go.Proofs.YtgaggpnlimchkaaGreatDoor.B9 Go.Proofs.YtgaggpnlimchkaaGreatDoor.D1 Go.Proofs.YtgaggpnlimchkaaGreatDoor.W8 Go.Proofs.YtgaggpnlimchkaaGreatDoor.RC Go.Proofs.YtgaggpnlimchkaaGreatDoor.RI Go.Proofs.YtgaggpnlimchkaaGreatDoor.P10 Go.Proofs.YtgaggpnlimchkaaGreatDoor.B10 Go.Proofs.YtgaggpnlimchkaaGreatDoor.P11
open Go.ChangeShapes Go.WideShapes Go.ChangeAt Go.RowKit
set_option linter.unusedVariables false

theorem has_parts {t : List Fi} {i : Int} (h : hasFig t i = true) : 0 ≤ i ∧ i < (t.length : Int) ∧ treeOk t = true := by
  unfold hasFig at h
  simp only [Bool.and_eq_true, decide_eq_true_eq] at h
  exact ⟨h.1.1, h.1.2, h.2⟩

/-- A right tree that holds number i, as it lies. -/
theorem tr_of {w : World} {v : Value} {xs : List Fv} {i : Int} (h : FiSlc w v xs) (hf : ∀ x ∈ xs, FitsF x) (hh : hasFig (fis xs) i = true) : ∃ g off cap, v = .slice (some ⟨g, off, none⟩) xs.length cap ∧ Tr w g off xs.length cap xs := by
  obtain ⟨h0, h1, ht⟩ := has_parts hh
  rw [fis_len] at h1
  obtain ⟨a, cap, rfl, hnc, hcap, hA⟩ := h.form
  obtain ⟨g, off, rfl, hat⟩ := hA (by intro e; rw [e] at h1; simp at h1; omega)
  have h16 := tree_len ht
  rw [fis_len] at h16
  exact ⟨g, off, cap, rfl, h, hat, rfl, hnc, h16, ht, hf⟩

set_option maxRecDepth 20000 in
set_option maxHeartbeats 2000000 in
theorem Meets_spec (xs : List Fv) (ys : List Pv) (i : Int) (v u : Value) (w : World) (h : FiSlc w v xs) (hf : ∀ x ∈ xs, FitsF x) (hs : xs.length ≤ 2000000) (hp : PtSlc w u ys) (hpf : ∀ y ∈ ys, Fits y) (hps : ys.length ≤ 2000000) :
    Calls Tryz.prog 23 #[v, .int .i64 i, u] w (Ans (.bool (meets (fis xs) i (pts ys))) w) := by
  have HH := Lib.hid (Has_spec xs i v w h hf hs)
  have HP := Lib.hid (fun (W : World) (hb : Below w.heap.size w W) => PickOk_spec ys u W (hp.on hb) hpf hps)
  have HM : Hid (∀ (W : World), Below w.heap.size w W → hasFig (fis xs) i = true → pickOk (pts ys) = true → Calls Tryz.prog 61 #[v, .int .i64 i, u] W (Ans (.bool (meetsR (fis xs) (pts ys).reverse i)) W)) := Lib.hid (fun W hb hh hk => by
    obtain ⟨g, off, cap, rfl, hT⟩ := tr_of h hf hh
    obtain ⟨h0, h1, _⟩ := has_parts hh
    rw [fis_len] at h1
    obtain ⟨p4, p1, _, pb⟩ := ok_bs hk
    have hpl : (pts ys).length = ys.length := by simp [pts]
    rw [hpl] at p4 p1
    obtain ⟨m, hm⟩ : ∃ m, ys.length = m + 1 := ⟨ys.length - 1, by omega⟩
    obtain ⟨a2, cap2, rfl, hnc2, hcap2, hA2⟩ := hp.form
    obtain ⟨g2, off2, rfl, hat2⟩ := hA2 (by intro e; rw [e] at hm; simp at hm)
    rw [hm] at hnc2 hp ⊢
    exact MeetsR_spec xs g off xs.length cap m ys g2 off2 cap2 i W (hT.on hb) hm (by omega) hnc2 hcap2 (hp.on hb) (hat2.on hb) (fun y hy => by have := pb y.p (List.mem_map.2 ⟨y, hy, rfl⟩); omega) (by omega) h1)
  have HE := Lib.hid (show meets (fis xs) i (pts ys) = ((hasFig (fis xs) i && pickOk (pts ys)) && meetsR (fis xs) (pts ys).reverse i) from rfl)
  obtain ⟨a, cap, rfl, _⟩ := h.form
  obtain ⟨a2, cap2, rfl, _⟩ := hp.form
  generalize xs.length = n at *
  generalize ys.length = m at *
  clear h hf hs hp hpf hps
  cases hh : hasFig (fis xs) i
  · have HK := Lib.hid (show meets (fis xs) i (pts ys) = false by rw [HE.out, hh]; rfl)
    rw [hh] at HH
    clear hh HM
    go_enter Tryz.func23, Tryz.ntmps23
    go_wp2_with (go_at_call 53; refine HH.out.mono ?_; rintro e w2 ⟨rfl, g2⟩)
    go_ret
    exact ⟨by rw [HK.out]; rfl, g2⟩
  · rw [hh] at HH
    have HM2 := Lib.hid (fun W hb hk => HM.out W hb hh hk)
    clear HM
    cases hk : pickOk (pts ys)
    · have HK := Lib.hid (show meets (fis xs) i (pts ys) = false by rw [HE.out, hh, hk]; rfl)
      rw [hk] at HP
      clear hh hk HM2
      go_enter Tryz.func23, Tryz.ntmps23
      go_wp2_with (first | (go_at_call 53; refine HH.out.mono ?_; rintro e w2 ⟨rfl, g2⟩) | (go_at_call 24; refine (HP.out _ g2).mono ?_; rintro e w3 ⟨rfl, g3⟩))
      go_ret
      exact ⟨by rw [HK.out]; rfl, g2.trans (g3.mono g2.size)⟩
    · have HK := Lib.hid (show meets (fis xs) i (pts ys) = meetsR (fis xs) (pts ys).reverse i by rw [HE.out, hh, hk]; rfl)
      have HM3 := Lib.hid (fun W hb => HM2.out W hb hk)
      rw [hk] at HP
      generalize meetsR (fis xs) (pts ys).reverse i = q at HM3 HK
      clear hh hk HM2
      cases q
      all_goals
        go_enter Tryz.func23, Tryz.ntmps23
        go_wp2_with (first | (go_at_call 53; refine HH.out.mono ?_; rintro e w2 ⟨rfl, g2⟩) | (go_at_call 24; refine (HP.out _ g2).mono ?_; rintro e w3 ⟨rfl, g3⟩; have hB3 := g2.trans (g3.mono g2.size)) | (go_at_call 61; refine (HM3.out _ hB3).mono ?_; rintro e w4 ⟨rfl, g4⟩))
        go_ret
        exact ⟨by rw [HK.out]; rfl, hB3.trans (g4.mono hB3.size)⟩

set_option maxRecDepth 20000 in
set_option maxHeartbeats 2000000 in
theorem Meets_impl (xs : List Fv) (ys : List Pv) (i : Int) (v u : Value) (w : World) (L : Pow w) (h : FiSlc w v xs) (hf : ∀ x ∈ xs, FitsF x) (hs : xs.length ≤ 2000000) (hp : PtSlc w u ys) (hpf : ∀ y ∈ ys, Fits y) (hps : ys.length ≤ 2000000) :
    Calls Tryz.prog 22 #[v, .int .i64 i, u] w (Ans (.bool (meets (fis xs) i (pts ys))) w) := by
  have HH := Lib.hid (isFigure_impl xs i v w L h hf hs)
  have HP := Lib.hid (fun (W : World) (hb : Below w.heap.size w W) => PickOk_impl ys u W (L.on hb) (hp.on hb) hpf hps)
  have HM : Hid (∀ (W : World), Below w.heap.size w W → hasFig (fis xs) i = true → pickOk (pts ys) = true → Calls Tryz.prog 60 #[v, .int .i64 i, u] W (Ans (.bool (meetsR (fis xs) (pts ys).reverse i)) W)) := Lib.hid (fun W hb hh hk => by
    obtain ⟨g, off, cap, rfl, hT⟩ := tr_of h hf hh
    obtain ⟨h0, h1, _⟩ := has_parts hh
    rw [fis_len] at h1
    obtain ⟨k, rfl⟩ : ∃ k : Nat, i = (k : Int) := ⟨i.toNat, by omega⟩
    obtain ⟨p4, p1, _, pb⟩ := ok_bs hk
    have hpl : (pts ys).length = ys.length := by simp [pts]
    rw [hpl] at p4 p1
    obtain ⟨m, hm⟩ : ∃ m, ys.length = m + 1 := ⟨ys.length - 1, by omega⟩
    obtain ⟨a2, cap2, rfl, hnc2, hcap2, hA2⟩ := hp.form
    obtain ⟨g2, off2, rfl, hat2⟩ := hA2 (by intro e; rw [e] at hm; simp at hm)
    rw [hm] at hnc2 hp ⊢
    exact MeetsR_impl xs g off xs.length cap m ys g2 off2 cap2 k W (hT.on hb) hm (by omega) hnc2 hcap2 (hp.on hb) (hat2.on hb) (fun y hy => by have := pb y.p (List.mem_map.2 ⟨y, hy, rfl⟩); omega) (by omega))
  have HE := Lib.hid (show meets (fis xs) i (pts ys) = ((hasFig (fis xs) i && pickOk (pts ys)) && meetsR (fis xs) (pts ys).reverse i) from rfl)
  obtain ⟨a, cap, rfl, _⟩ := h.form
  obtain ⟨a2, cap2, rfl, _⟩ := hp.form
  generalize xs.length = n at *
  generalize ys.length = m at *
  clear h hf hs hp hpf hps L
  cases hh : hasFig (fis xs) i
  · have HK := Lib.hid (show meets (fis xs) i (pts ys) = false by rw [HE.out, hh]; rfl)
    rw [hh] at HH
    clear hh HM
    go_enter Tryz.func22, Tryz.ntmps22
    go_wp2_with (go_at_call 49; refine HH.out.mono ?_; rintro e w2 ⟨rfl, g2⟩)
    go_ret
    exact ⟨by rw [HK.out]; rfl, g2⟩
  · rw [hh] at HH
    have HM2 := Lib.hid (fun W hb hk => HM.out W hb hh hk)
    clear HM
    cases hk : pickOk (pts ys)
    · have HK := Lib.hid (show meets (fis xs) i (pts ys) = false by rw [HE.out, hh, hk]; rfl)
      rw [hk] at HP
      clear hh hk HM2
      go_enter Tryz.func22, Tryz.ntmps22
      go_wp2_with (first | (go_at_call 49; refine HH.out.mono ?_; rintro e w2 ⟨rfl, g2⟩) | (go_at_call 59; refine (HP.out _ g2).mono ?_; rintro e w3 ⟨rfl, g3⟩))
      go_ret
      exact ⟨by rw [HK.out]; rfl, g2.trans (g3.mono g2.size)⟩
    · have HK := Lib.hid (show meets (fis xs) i (pts ys) = meetsR (fis xs) (pts ys).reverse i by rw [HE.out, hh, hk]; rfl)
      have HM3 := Lib.hid (fun W hb => HM2.out W hb hk)
      rw [hk] at HP
      generalize meetsR (fis xs) (pts ys).reverse i = q at HM3 HK
      clear hh hk HM2
      cases q
      all_goals
        go_enter Tryz.func22, Tryz.ntmps22
        go_wp2_with (first | (go_at_call 49; refine HH.out.mono ?_; rintro e w2 ⟨rfl, g2⟩) | (go_at_call 59; refine (HP.out _ g2).mono ?_; rintro e w3 ⟨rfl, g3⟩; have hB3 := g2.trans (g3.mono g2.size)) | (go_at_call 60; refine (HM3.out _ hB3).mono ?_; rintro e w4 ⟨rfl, g4⟩))
        go_ret
        exact ⟨by rw [HK.out]; rfl, hB3.trans (g4.mono hB3.size)⟩

end Go.Proofs.YtgaggpnlimchkaaGreatDoor.B11
