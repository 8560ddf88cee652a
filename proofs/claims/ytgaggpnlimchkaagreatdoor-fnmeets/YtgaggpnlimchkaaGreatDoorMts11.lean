/- FnMeets' walk. -/
import Derived.Test.YtgaggpnlimchkaaGreatDoorMeet11
import Derived.Test.YtgaggpnlimchkaaGreatDoorUp11
import Derived.Test.YtgaggpnlimchkaaGreatDoorDraw11
import Derived.BigQuiet
namespace Go.Proofs.YtgaggpnlimchkaaGreatDoor.B11
open Go.Proofs.YtgaggpnlimchkaaGreatDoor.P1 Go.Proofs.YtgaggpnlimchkaaGreatDoor.B1 Go.Proofs.YtgaggpnlimchkaaGreatDoor.B2 Go.Proofs.YtgaggpnlimchkaaGreatDoor.T1 Go.Proofs.YtgaggpnlimchkaaGreatDoor.BT Go.Proofs.YtgaggpnlimchkaaGreatDoor.P5 Go.Proofs.YtgaggpnlimchkaaGreatDoor.B5 Go.Proofs.YtgaggpnlimchkaaGreatDoor.P6 Go.Proofs.YtgaggpnlimchkaaGreatDoor.P9 Go.Proofs.YtgaggpnlimchkaaGreatDoor.B6 Go.Proofs.YtgaggpnlimchkaaGreatDoor.B9 Go.Proofs.YtgaggpnlimchkaaGreatDoor.D1 Go.Proofs.YtgaggpnlimchkaaGreatDoor.D9 Go.Proofs.YtgaggpnlimchkaaGreatDoor.W8 Go.Proofs.YtgaggpnlimchkaaGreatDoor.RC Go.Proofs.YtgaggpnlimchkaaGreatDoor.RI Go.Proofs.YtgaggpnlimchkaaGreatDoor.P10 Go.Proofs.YtgaggpnlimchkaaGreatDoor.B10 Go.Proofs.YtgaggpnlimchkaaGreatDoor.P11
open Go.ChangeShapes Go.WideShapes Go.ChangeAt Go.RowKit
set_option linter.unusedVariables false

theorem ptD_fits11 {x : Pv} (h : PtD x.p) : Fits x := ⟨by have := h.1; omega, by have := h.2.1; omega, by have := h.2.2.1; omega, fun s hs => by have := h.2.2.2 s hs; omega⟩

theorem fiD_fits {x : Fv} (h : FiD x.f) : FitsF x := by
  obtain ⟨h0, h1, h2, h3, h4, h5, h6⟩ := h
  exact ⟨by omega, by omega, by omega, by omega, fun s hs => by have := h4 s hs; omega, by omega, fun n hn => by
    obtain ⟨n0, n1, n2⟩ := h6 n hn
    exact ⟨by omega, by omega⟩⟩

theorem path_nil {t : List Fi} {i : Int} : path t i = [] ↔ hasFig t i = false := by
  unfold path
  cases h : hasFig t i
  · simp
  · obtain ⟨h0, h1, ht⟩ := has_parts h
    simp only [if_true]
    rw [wayUp_cons ht h0 h1]
    simp

/-- What of those above is asked so far. -/
def upA (near : Bool) (f : Int → Bool) (l : List Int) : Bool := if near = true then (l.take 1).any f else l.any f

theorem upA_nil (near : Bool) (f : Int → Bool) : upA near f [] = false := by unfold upA; cases near <;> rfl

theorem upA_snoc (near : Bool) (f : Int → Bool) (l : List Int) (x : Int) : upA near f (l ++ [x]) = (upA near f l || ((decide (l.length = 0) || !near) && f x)) := by
  unfold upA
  cases near
  · simp
  · cases l with
    | nil => simp
    | cons a r => simp

theorem upA_is {t : List Fi} (ht : treeOk t = true) (near : Bool) (R : List Pt) {ab : Int} (hab : ab < (t.length : Int)) : upA near (meetsR t R) (wayUp t ab) = upOk t near R ab := by
  unfold upA upOk
  cases near
  · rfl
  · simp only [if_true]
    by_cases h : ab < 0
    · rw [wayUp_neg h, meetsR_neg h]; rfl
    · rw [wayUp_cons ht (by omega) hab]
      simp

theorem any_take {α : Type} {l : List α} {f : α → Bool} {i : Nat} {x : α} (h : l[i]? = some x) : (l.take (i + 1)).any f = ((l.take i).any f || f x) := by
  rw [List.take_add_one, h, List.any_append]; simp

theorem all_take {α : Type} {l : List α} {f : α → Bool} {i : Nat} {x : α} (h : l[i]? = some x) : (l.take (i + 1)).all f = ((l.take i).all f && f x) := by
  rw [List.take_add_one, h, List.all_append]; simp

theorem hasB_any (bs : List (List UInt8)) (s : List UInt8) : hasB bs s = bs.any (fun b => b == s) := by
  unfold hasB
  rw [Bool.eq_iff_iff, List.any_eq_true, List.contains_iff_mem]
  constructor
  · intro h; exact ⟨s, h, by simp⟩
  · rintro ⟨b, hb, he⟩
    rw [← (by simpa using he : b = s)]; exact hb

theorem intRow_slc {w : World} {v : Value} {B : Nat} {l : List Int} (h : IntRow w v B l) : ∃ a c, v = .slice a l.length c ∧ l.length ≤ c ∧ (∀ k x, l[k]? = some x → ∃ g, a = some ⟨g, 0, none⟩ ∧ g < w.heap.size ∧ w.cell? ⟨g, k, none⟩ = some (.int .i64 x)) := by
  rcases h.2 with ⟨rfl, h0⟩ | ⟨g, cap, cur, rfl, hb, hg, hc, _⟩
  · exact ⟨none, 0, by rw [h0], by omega, fun k x hx => by have := (List.getElem?_eq_some_iff.1 hx).1; omega⟩
  · refine ⟨_, _, rfl, hc, fun k x hx => ⟨g, rfl, (Array.getElem?_eq_some_iff.1 hg).1, ?_⟩⟩
    have hk := (List.getElem?_eq_some_iff.1 hx).1
    rw [World.ownsRow.cellAt h k (by omega)]
    simp [intsV, hx]

theorem path_cons {t : List Fi} {i : Int} (h : hasFig t i = true) : path t i = i :: wayUp t (aboveAt t i) := by
  unfold path
  rw [if_pos h]
  obtain ⟨h0, h1, ht⟩ := has_parts h
  exact wayUp_cons ht h0 h1

theorem path_has {t : List Fi} {i x : Int} (h : hasFig t i = true) (hx : x ∈ path t i) : hasFig t x = true := by
  obtain ⟨h0, h1, ht⟩ := has_parts h
  unfold path at hx
  rw [if_pos h] at hx
  have := wayUp_mem ht i.toNat i (Nat.le_refl _) h1 x hx
  unfold hasFig
  simp only [Bool.and_eq_true, decide_eq_true_eq]
  exact ⟨⟨this.1, by omega⟩, ht⟩

theorem meets_take {t : List Fi} {ps : List Pt} {x : Int} {M : Nat} (hp : pickOk ps = true) (h1 : 1 ≤ M) (h2 : M ≤ ps.length) (hx : hasFig t x = true) : meets t x (ps.take M) = meetsR t (ps.take M).reverse x := by
  unfold meets
  rw [hx, pick_take hp h1 h2]; rfl

theorem put_none11 (a : Act) (v : Value) : a.put none v = a := rfl

set_option maxRecDepth 100000 in
set_option maxHeartbeats 8000000 in
theorem fnMeets_walk (A0 : Option Addr) (len0 cap0 : Nat) (w : World) (w0 : len0 ≤ 4096 → Bytes w w.heap.size A0 len0) (L : B5.Pow w) :
    Calls Tryz.prog 4 #[.slice A0 len0 cap0] w (Ans (.bool true) w) := by
  by_cases hbig : 4096 < len0
  · go_enter Tryz.func4, Tryz.ntmps4
    go_wp2
    go_ret
    exact ⟨rfl, Below.refl _ _⟩
  · have hb := w0 (by omega)
    clear w0
    go_enter Tryz.func4, Tryz.ntmps4
    go_wp2_with (first | (go_at_call 9; go_in) | fail)
    refine (Meets_draw _ A0 len0 cap0 hb).mono ?_
    rintro e w1 ⟨v, xs, i, u, ys, rfl, hT, hlen, hi0, hi1, hP, hpl, hpl1, g1⟩
    have hf : ∀ x ∈ xs, FitsF x := fun x hx => fiD_fits (hT.ok x hx)
    have hpf : ∀ y ∈ ys, Fits y := fun y hy => ptD_fits11 (hP.ok y hy)
    have hTS := hT.slc
    have hPS := hP.slc
    have HI := Lib.hid (fun (W : World) (hW : Below w1.heap.size w1 W) => Meets_impl xs ys i v u W ((L.on g1).on hW) (hTS.on hW) hf (by omega) (hPS.on hW) hpf (by omega))
    have HS := Lib.hid (fun (W : World) (hW : Below w1.heap.size w1 W) => Meets_spec xs ys i v u W (hTS.on hW) hf (by omega) (hPS.on hW) hpf (by omega))
    have HPA := Lib.hid (fun (W : World) (hW : Below w1.heap.size w1 W) => Path_spec xs i v W (hTS.on hW) hf (by omega))
    have HPK := Lib.hid (fun (W : World) (hW : Below w1.heap.size w1 W) => PickOk_spec ys u W (hPS.on hW) hpf (by omega))
    have HRI := Lib.hid (fun (ys' : List Pv) (u' : Value) (j : Int) (W : World) (hW : Below w1.heap.size w1 W) (hp' : PtSlc w1 u' ys') (hpf' : ∀ y ∈ ys', Fits y) (hl' : ys'.length ≤ 8) => Meets_impl xs ys' j v u' W ((L.on g1).on hW) (hTS.on hW) hf (by omega) (hp'.on hW) hpf' (by omega))
    obtain ⟨a1, cap1, rfl, hnc1, _, hA1⟩ := hTS.form
    obtain ⟨a2, cap2, rfl, hnc2, _, hA2⟩ := hPS.form
    obtain ⟨n, hn⟩ : ∃ n, xs.length = n := ⟨_, rfl⟩
    obtain ⟨m, hm⟩ : ∃ m, ys.length = m := ⟨_, rfl⟩
    have HE := Lib.hid (show meets (fis xs) i (pts ys) = ((hasFig (fis xs) i && pickOk (pts ys)) && meetsR (fis xs) (pts ys).reverse i) from rfl)
    obtain ⟨yv, eyv⟩ : ∃ yv, meets (fis xs) i (pts ys) = yv := ⟨_, rfl⟩
    rw [eyv] at HI HS HE
    have HTT := Lib.hid hTS
    have HPP := Lib.hid hPS
    have HFF := Lib.hid hf
    have HPF := Lib.hid hpf
    have HA1 := Lib.hid hA1
    have HA2 := Lib.hid hA2
    have HN := Lib.hid hn
    have HM := Lib.hid hm
    rw [hn] at hlen hnc1
    rw [hm] at hpl hpl1 hnc2
    rw [hn, hm] at HI HS
    rw [hn] at HPA
    rw [hm] at HPK
    rw [hn, hm]
    have HRI2 := Lib.hid (show ∀ (ys' : List Pv) (u' : Value) (j : Int) (W : World), Below w1.heap.size w1 W → PtSlc w1 u' ys' → (∀ y ∈ ys', Fits y) → ys'.length ≤ 8 → Calls Tryz.prog 22 #[.slice a1 n cap1, .int .i64 j, u'] W (Ans (.bool (meets (fis xs) j (pts ys'))) W) from fun ys' u' j W h1 h2 h3 h4 => by rw [← hn]; exact HRI.out ys' u' j W h1 h2 h3 h4)
    clear hT hP hTS hPS hf hpf hA1 hA2 hn hm HRI eyv
    have hyy : (yv != yv) = false := by simp
    go_wp2_with (fail)
    refine (HI.out _ (Below.refl _ _)).mono ?_
    rintro e w2 ⟨rfl, g2⟩
    go_wp2_with fail
    refine (HS.out _ g2).mono ?_
    rintro e w3 ⟨rfl, g3⟩
    have hB3 := g2.trans (g3.mono g2.size)
    clear HI HS g3
    go_wp2_with fail
    refine (HPA.out _ hB3).mono ?_
    rintro e w4 ⟨pv, rfl, hpr, g4⟩
    have hB4 := hB3.trans (g4.mono hB3.size)
    obtain ⟨ap, cp, rfl, hpc, hcells⟩ := intRow_slc hpr
    obtain ⟨Q, hQ⟩ : ∃ Q, path (fis xs) i = Q := ⟨_, rfl⟩
    rw [hQ] at hpc hcells ⊢
    have HQ := Lib.hid hQ
    have HCE := Lib.hid hcells
    obtain ⟨q, hq⟩ : ∃ q, Q.length = q := ⟨_, rfl⟩
    rw [hq] at hpc ⊢
    have HQL := Lib.hid hq
    clear hpr hQ hcells hq HPA g4
    by_cases hq0 : q = 0
    · have hq0' : ((q : Int) == 0) = true := by simp [hq0]
      have HY := Lib.hid (show yv = false by
        have : hasFig (fis xs) i = false := path_nil.1 (by rw [HQ.out]; exact List.eq_nil_of_length_eq_zero (by rw [HQL.out]; exact hq0))
        rw [HE.out, this]; rfl)
      obtain rfl := HY.out
      clear hq0
      go_wp2_with fail
      go_ret
      exact ⟨rfl, g1.trans (hB4.mono g1.size)⟩
    · have hq0' : ((q : Int) == 0) = false := by simp [hq0]
      have hhas : hasFig (fis xs) i = true := by
        cases h : hasFig (fis xs) i
        · exfalso
          have := path_nil.2 h
          rw [HQ.out] at this
          rw [this] at HQL
          have := HQL.out
          simp at this
          omega
        · rfl
      cases hpk : pickOk (pts ys)
      · have HY := Lib.hid (show yv = false by rw [HE.out, hpk, Bool.and_false]; rfl)
        obtain rfl := HY.out
        rw [hpk] at HPK
        clear hpk hq0
        go_wp2_with (go_at_call 24; refine (HPK.out _ hB4).mono ?_; rintro e w5 ⟨rfl, g5⟩)
        go_ret
        exact ⟨rfl, g1.trans ((hB4.trans (g5.mono hB4.size)).mono g1.size)⟩
      · rw [hpk] at HPK
        obtain ⟨h0, h1, htree⟩ := has_parts hhas
        rw [fis_len, HN.out] at h1
        obtain ⟨k, rfl⟩ : ∃ k : Nat, i = (k : Int) := ⟨i.toNat, by omega⟩
        have HY := Lib.hid (show yv = meetsR (fis xs) (pts ys).reverse (k : Int) by rw [HE.out, hhas, hpk]; rfl)
        obtain ⟨M, hM⟩ : ∃ M, m - 1 = M := ⟨_, rfl⟩
        have hmM : m = M + 1 := by omega
        have hsub : IntKind.i64.wrap ((m : Int) - 1) = (M : Int) := by rw [IntKind.wrap_i64]; omega
        have hMm : (M : Int) < (m : Int) := by omega
        have hM0 : (0 : Int) ≤ (M : Int) := by omega
        obtain ⟨x, hx⟩ : ∃ x, xs[k]? = some x := ⟨_, List.getElem?_eq_getElem (by rw [HN.out]; omega)⟩
        obtain ⟨y, hy⟩ : ∃ y, ys[M]? = some y := ⟨_, List.getElem?_eq_getElem (by rw [HM.out]; omega)⟩
        obtain ⟨g, off, rfl, hat⟩ := HA1.out (by intro e0; rw [e0] at hx; cases hx)
        obtain ⟨gp, offp, rfl, hatp⟩ := HA2.out (by intro e0; rw [e0] at hy; cases hy)
        have hxm := List.mem_of_getElem? hx
        have hym := List.mem_of_getElem? hy
        have HHX := Lib.hid (HTT.out.2 x hxm)
        have HHY := Lib.hid (HPP.out.2 y hym)
        have HLF := Lib.hid (fun (W : World) (hW : Below w1.heap.size w1 W) => fi_load (hat.on hW) hx)
        have HLP := Lib.hid (fun (W : World) (hW : Below w1.heap.size w1 W) => pt_load (hatp.on hW) hy)
        have hfx := HFF.out x hxm
        have hfy := HPF.out y hym
        have HRR := Lib.hid (pts_split (by rw [HM.out]; exact hmM) hy)
        have HFF := Lib.hid hfx
        have HFY := Lib.hid hfy
        have hk0 := h0
        have hk1 := h1
        obtain ⟨b1, et1⟩ : ∃ b, (y.p.tag == []) = b := ⟨_, rfl⟩
        obtain ⟨b2, hq1⟩ : ∃ b, (y.p.tag == x.f.tag) = b := ⟨_, rfl⟩
        obtain ⟨b3, ei1⟩ : ∃ b, (y.p.id == []) = b := ⟨_, rfl⟩
        obtain ⟨b4, hq2⟩ : ∃ b, (y.p.id == x.f.id) = b := ⟨_, rfl⟩
        have HONE := Lib.hid (show oneOk x.f y.p = (y.p.bs.all (hasB x.f.bs) && ((b1 || b2) && (b3 || b4))) by
          rw [← et1, ← hq1, ← ei1, ← hq2, show (y.p.tag == []) = y.p.tag.isEmpty by cases y.p.tag <;> rfl, show (y.p.id == []) = y.p.id.isEmpty by cases y.p.id <;> rfl]; rfl)
        obtain ⟨ua, uc, eu, hu1, hu2, HUA0⟩ := (show StrSlc w1 x.u x.f.bs from HHX.out.1).form
        obtain ⟨_, na, nc, en, _⟩ := heldF_form HHX.out
        obtain ⟨pa, pc, ep, hp1, hp2, HPA0⟩ := (show StrSlc w1 y.u y.p.bs from HHY.out).form
        have HUA := Lib.hid HUA0
        have HPX := Lib.hid HPA0
        have HTREE := Lib.hid htree
        have HPKT := Lib.hid hpk
        have HXI := Lib.hid hx
        have HHASX := Lib.hid hhas
        have HMM := Lib.hid hmM
        clear hxm hym hfx hfy hx hy hat hatp htree hhas hpk hq0 HUA0 HPA0 hmM hM
        go_wp2_with fail
        refine (HPK.out _ hB4).mono ?_
        rintro e w5 ⟨rfl, g5⟩
        have hB5 := hB4.trans (g5.mono hB4.size)
        have HLP5 := Lib.hid (HLP.out _ hB5)
        obtain ⟨w6, hst6, hx6, hb6⟩ := pt_laid (StrSlc.on HHY.out hB5)
        have HST6 := Lib.hid hst6
        have hB6 := hB5.trans (hb6.mono hB5.size)
        have HLF6 := Lib.hid (HLF.out _ hB6)
        obtain ⟨w7, hst7, hx7, hb7⟩ := fi_laid w6 (HHX.out.on hB6)
        have HST7 := Lib.hid hst7
        have hB7 := hB6.trans (hb7.mono hB6.size)
        have hx6' := hx6.below hb7
        have H47 := Lib.hid (g5.trans ((hb6.trans (hb7.mono hb6.size)).mono g5.size))
        clear hst6 hst7 hx6 hb6 hb7 g5
        go_upto_region 12 with (first
          | ((with_reducible refine wp_load_at HLP5.out ?_ ?_); exact And.intro rfl (And.intro rfl rfl))
          | ((with_reducible refine wp_store_at HST6.out ?_ ?_); exact And.intro rfl (And.intro rfl (And.intro rfl rfl)))
          | ((with_reducible refine wp_load_at HLF6.out ?_ ?_); exact And.intro rfl (And.intro rfl rfl))
          | ((with_reducible refine wp_store_at HST7.out ?_ ?_); exact And.intro rfl (And.intro rfl (And.intro rfl rfl)))
          | fail)
        rw [put_none11]
        obtain ⟨c0, c1, c2, c3, c4⟩ := fi_blk hx7
        obtain ⟨d0, d1, d2, d3⟩ := pt_blk hx6'
        rw [eu] at c3
        rw [ep] at d2
        clear HLP5 HST6 HLF6 HST7
        go_cut [10] from 58 to 79 (fun s10 wx => s10 = .bool ((b1 || b2) && (b3 || b4)) ∧ w7 = wx)
        case first =>
          rcases three_ways b1 b2 with ⟨rfl, rfl⟩ | ⟨rfl, rfl⟩ | rfl <;> rcases three_ways b3 b4 with ⟨rfl, rfl⟩ | ⟨rfl, rfl⟩ | rfl
          all_goals
            go_wp2_with fail
            go_meet
            exact ⟨by simp, rfl⟩
        case rest =>
          obtain ⟨rfl, rfl⟩ := hcut
          obtain ⟨o0, eo0⟩ : ∃ o, ((b1 || b2) && (b3 || b4)) = o := ⟨_, rfl⟩
          have eo0' : Hid (((b1 || b2) && (b3 || b4)) = o0) := Lib.hid eo0
          rw [eo0] at HONE ⊢
          obtain ⟨nb, hnb⟩ : ∃ nb, y.p.bs.length = nb := ⟨_, rfl⟩
          obtain ⟨nf, hnf⟩ : ∃ nf, x.f.bs.length = nf := ⟨_, rfl⟩
          rw [hnb] at ep hp1
          rw [hnf] at eu hu1
          have hnbs : nb ≤ 2000000 := by have := HFY.out.2.2.1; omega
          have hnfs : nf ≤ 2000000 := by have := HFF.out.2.2.2.1; omega
          have HNB := Lib.hid hnb
          have HNF := Lib.hid hnf
          have HX7 := Lib.hid hx7
          have HX6 := Lib.hid hx6'
          have hnbc : (nb : Int) ≤ (pc : Int) := by omega
          have hnfc : (nf : Int) ≤ (uc : Int) := by omega
          clear hnb hnf hx7 hx6' eo0 et1 hq1 ei1 hq2 c0 c1 c2 d0 d1
          go_wp2_with fail
          go_loopg [10, 11] nb (fun kx s10 s11 wr => ∃ (k2 : Nat) (o : Bool), s10 = .bool o ∧ s11 = .int .i64 (k2 : Int) ∧ kx + k2 = nb ∧ Hid ((o0 && (y.p.bs.take k2).all (hasB x.f.bs)) = o) ∧ Below w7.heap.size w7 wr)
          case atStart => exact ⟨0, o0, rfl, rfl, by omega, Lib.hid (by simp), Below.refl _ _⟩
          case round =>
            obtain ⟨k2, o, rfl, rfl, hki, HO, hB⟩ := hrel
            clear c3 c4 d2 d3
            obtain ⟨c0, c1, c2, c3, c4⟩ := fi_blk (HX7.out.below hB)
            obtain ⟨d0, d1, d2, d3⟩ := pt_blk (HX6.out.below hB)
            rw [eu] at c3
            rw [ep] at d2
            clear c0 c1 c2 d0 d1
            by_cases hlt : k2 < nb
            · have hlt' : (k2 : Int) < (nb : Int) := by omega
              have i0' : (0 : Int) ≤ (k2 : Int) := by omega
              obtain ⟨s, hs⟩ : ∃ s, y.p.bs[k2]? = some s := ⟨_, List.getElem?_eq_getElem (by rw [HNB.out]; exact hlt)⟩
              obtain ⟨gq, offq, rfl, hatq⟩ := HPX.out (by intro e0; rw [e0] at hs; cases hs)
              have HCS := Lib.hid (fun (W : World) (hW : Below w1.heap.size w1 W) => str_cell (hatq.on hW) hs)
              have HO2 := Lib.hid (fun (b : Bool) (h : hasB x.f.bs s = b) => (show (o0 && (y.p.bs.take (k2 + 1)).all (hasB x.f.bs)) = (o && b) by rw [all_take hs, ← Bool.and_assoc, HO.out, h]))
              have HHS := Lib.hid (hasB_any x.f.bs s)
              clear hs hatq HO
              go_wp2_with fail
              go_loopg [12, 13] nf (fun kx s12 s13 wr => ∃ (j : Nat) (so : Bool), s12 = .bool so ∧ s13 = .int .i64 (j : Int) ∧ kx + j = nf ∧ Hid ((x.f.bs.take j).any (fun b => b == s) = so) ∧ Below w7.heap.size w7 wr)
              case atStart => exact ⟨0, false, rfl, rfl, by omega, Lib.hid (by simp), hB⟩
              case round =>
                obtain ⟨j, so, rfl, rfl, hkj, HSO, hB2⟩ := hrel
                clear c3 c4 d2 d3
                obtain ⟨c0, c1, c2, c3, c4⟩ := fi_blk (HX7.out.below hB2)
                obtain ⟨d0, d1, d2, d3⟩ := pt_blk (HX6.out.below hB2)
                rw [eu] at c3
                rw [ep] at d2
                clear c0 c1 c2 d0 d1
                have h1r := hB7.trans (hB2.mono hB7.size)
                by_cases hj : j < nf
                · have hj' : (j : Int) < (nf : Int) := by omega
                  have j0' : (0 : Int) ≤ (j : Int) := by omega
                  obtain ⟨r, hr⟩ : ∃ r, x.f.bs[j]? = some r := ⟨_, List.getElem?_eq_getElem (by rw [HNF.out]; exact hj)⟩
                  obtain ⟨gf, offf, rfl, hatf⟩ := HUA.out (by intro e0; rw [e0] at hr; cases hr)
                  have cs := HCS.out wr h1r
                  have cr := str_cell (hatf.on h1r) hr
                  have HSO2 := Lib.hid (any_take (f := fun b => b == s) hr)
                  obtain ⟨e, he⟩ : ∃ e, (r == s) = e := ⟨_, rfl⟩
                  have HE2 := Lib.hid he
                  clear hr hatf h1r
                  cases so
                  · go_upto_region 20 with fail
                    go_quiet (fail)
                    go_wp2_with fail
                    go_roundg (nf - (j + 1))
                    case measure => omega
                    case rel => exact ⟨j + 1, e, rfl, by go_num, by omega, Lib.hid (by rw [HSO2.out, HSO.out, HE2.out]; rfl), ⟨hB2.os, hB2.tape, hB2.output, hB2.size, hB2.block⟩⟩
                  · go_upto_region 20 with fail
                    go_quiet (fail)
                    go_wp2_with fail
                    go_roundg (nf - (j + 1))
                    case measure => omega
                    case rel => exact ⟨j + 1, true, rfl, by go_num, by omega, Lib.hid (by rw [HSO2.out, HSO.out]; rfl), ⟨hB2.os, hB2.tape, hB2.output, hB2.size, hB2.block⟩⟩
                · have hj' : ¬ (j : Int) < (nf : Int) := by omega
                  have HSF := Lib.hid (show hasB x.f.bs s = so by
                    have := HSO.out
                    rw [List.take_of_length_le (by rw [HNF.out]; omega)] at this
                    rw [HHS.out]; exact this)
                  have HO3 := Lib.hid (HO2.out so HSF.out)
                  cases o
                  · go_wp2_with fail
                    go_roundg (nb - (k2 + 1))
                    case measure => omega
                    case rel => exact ⟨k2 + 1, false, rfl, by go_num, by omega, HO3, hB2⟩
                  · go_wp2_with fail
                    go_roundg (nb - (k2 + 1))
                    case measure => omega
                    case rel => exact ⟨k2 + 1, so, rfl, by go_num, by omega, Lib.hid (by have := HO3.out; rwa [Bool.true_and] at this), hB2⟩
            · have hlt' : ¬ (k2 : Int) < (nb : Int) := by omega
              have HON := Lib.hid (show oneOk x.f y.p = o by
                have := HO.out
                rw [List.take_of_length_le (by rw [HNB.out]; omega)] at this
                rw [HONE.out, ← this, Bool.and_comm])
              clear HO HONE HHX HHY HLF HLP
              have h1B := hB7.trans (hB.mono hB7.size)
              by_cases hM1 : M = 0
              · have HYO := Lib.hid (show yv = o by
                  rw [HY.out, HRR.out, hM1, show (pts (ys.take 0)).reverse = [] from rfl, meetsR_one hk0, oneAt_is HXI.out]; exact HON.out)
                have hK : ((m : Int) == 1) = true := by have := HMM.out; simp; omega
                have hoo : (yv == o) = true := by rw [HYO.out]; simp
                clear hM1
                go_wp2_with fail
                go_ret
                exact ⟨rfl, g1.trans (h1B.mono g1.size)⟩
              · have hK : ((m : Int) == 1) = false := by have := HMM.out; simp; omega
                have hsl := fun (w' : World) => pt_toAt gp offp m cap2 M (by have := HMM.out; omega) (by omega) w'
                have hPM : PtSlc w1 (.slice (some ⟨gp, offp, none⟩) M cap2) (ys.take M) := ptSlc_to HPP.out rfl (j := M) (by rw [HM.out]; omega) (by omega)
                obtain ⟨R, hR⟩ : ∃ R, (pts (ys.take M)).reverse = R := ⟨_, rfl⟩
                have HMT : Hid (∀ (j : Int) (W : World), Below w1.heap.size w1 W → j ∈ path (fis xs) (k : Int) → Calls Tryz.prog 22 #[.slice (some ⟨g, off, none⟩) n cap1, .int .i64 j, .slice (some ⟨gp, offp, none⟩) M cap2] W (Ans (.bool (meetsR (fis xs) R j)) W)) := Lib.hid (fun j W hW hj => by
                  have := HRI2.out (ys.take M) _ j W hW hPM (fun y hy => HPF.out y (List.mem_of_mem_take hy)) (by rw [List.length_take]; have := HM.out; omega)
                  rw [pts_take, meets_take HPKT.out (by omega) (by unfold pts; rw [List.length_map, HM.out]; have := HMM.out; omega) (path_has HHASX.out hj), ← pts_take, hR] at this
                  exact this)
                have HTL := Lib.hid (show Q = (k : Int) :: wayUp (fis xs) (aboveAt (fis xs) (k : Int)) by rw [← HQ.out, path_cons HHASX.out])
                have hq1 : 1 ≤ q := by rw [← HQL.out, HTL.out]; simp
                have hqb : q ≤ 17 := by
                  rw [← HQL.out, ← HQ.out]
                  unfold path
                  rw [if_pos HHASX.out]
                  have := wayUp_len (t := fis xs) (k : Int)
                  rw [fis_len, HN.out] at this
                  omega
                obtain ⟨nr, hnr⟩ : ∃ b, y.p.near = b := ⟨_, rfl⟩
                have hRne : R ≠ [] := by
                  intro e0
                  have e1 := congrArg List.length hR
                  rw [e0, List.length_reverse, pts, List.length_map, List.length_take, HM.out] at e1
                  simp at e1
                  have := HMM.out
                  omega
                obtain ⟨F, hF⟩ : ∃ F, meetsR (fis xs) R = F := ⟨_, rfl⟩
                have HYF := Lib.hid (show yv = (o && upA nr F (wayUp (fis xs) (aboveAt (fis xs) (k : Int)))) by
                  rw [HY.out, HRR.out, hR, meetsR_more hk0 hRne, oneAt_is HXI.out, HON.out, ← hF, upA_is HTREE.out nr R (by
                    have := (above_lt HTREE.out (i := (k : Int)) hk0 (by rw [fis_len, HN.out]; exact hk1)).2.1
                    rw [fis_len, HN.out]; omega)]
                  unfold upOk
                  rw [hnr])
                rw [hF] at HMT
                have HNR := Lib.hid hnr
                have hM1' : (1 : Int) ≤ (M : Int) := by omega
                clear hM1 hPM hR hRne hF hnr HRI2
                go_wp2_with fail
                go_loopg [15, 16] (q - 1) (fun kx s15 s16 wq => ∃ (kk : Nat) (ab : Bool), s15 = .bool ab ∧ s16 = .int .i64 (kk : Int) ∧ 1 ≤ kk ∧ kx + kk = q ∧ Hid (upA nr F ((Q.drop 1).take (kk - 1)) = ab) ∧ Below w7.heap.size w7 wq)
                case atStart => exact ⟨1, false, rfl, rfl, Nat.le_refl _, by omega, Lib.hid (upA_nil nr F), hB⟩
                case round =>
                  obtain ⟨kk, ab, rfl, rfl, hkk1, hkq, HAB, hB2⟩ := hrel
                  have h1r := hB7.trans (hB2.mono hB7.size)
                  obtain ⟨d0, d1, d2, d3⟩ := pt_blk (HX6.out.below hB2)
                  rw [HNR.out] at d3
                  clear d0 d1 d2
                  by_cases hkk : kk < q
                  · have hkk' : (kk : Int) < (q : Int) := by omega
                    have kk0' : (0 : Int) ≤ (kk : Int) := by omega
                    obtain ⟨x2, hx2⟩ : ∃ x2, Q[kk]? = some x2 := ⟨_, List.getElem?_eq_getElem (by rw [HQL.out]; exact hkk)⟩
                    obtain ⟨gk, rfl, hgk, hck⟩ := HCE.out kk x2 hx2
                    have h4r := H47.out.trans (hB2.mono H47.out.size)
                    have ck := (h4r.cell (p := ⟨gk, kk, none⟩) hgk).trans hck
                    have HUP := Lib.hid (show upA nr F ((Q.drop 1).take (kk + 1 - 1)) = (ab || ((decide (kk = 1) || !nr) && F x2)) by
                      have e : (Q.drop 1)[kk - 1]? = some x2 := by rw [List.getElem?_drop, show 1 + (kk - 1) = kk by omega]; exact hx2
                      rw [show kk + 1 - 1 = (kk - 1) + 1 by omega, List.take_add_one, e]
                      show upA nr F (_ ++ [x2]) = _
                      rw [upA_snoc, HAB.out, List.length_take, List.length_drop, HQL.out]
                      congr 3
                      by_cases h1 : kk = 1
                      · subst h1; simp
                      · rw [decide_eq_false h1, decide_eq_false (by omega)])
                    have HMX := Lib.hid (HMT.out x2 wr h1r (by rw [HQ.out]; exact List.mem_of_getElem? hx2))
                    obtain ⟨r2, hr2⟩ : ∃ r2, F x2 = r2 := ⟨_, rfl⟩
                    rw [hr2] at HUP HMX
                    clear hx2 hgk hck h4r HAB hr2 hkk
                    cases ab
                    · by_cases h1 : kk = 1
                      · have hke : ((kk : Int) == 1) = true := by simp; omega
                        have HU2 := Lib.hid (show upA nr F ((Q.drop 1).take (kk + 1 - 1)) = r2 by rw [HUP.out, decide_eq_true h1]; simp)
                        clear h1 HUP
                        go_wp2_with fail
                        refine HMX.out.mono ?_
                        rintro e w9 ⟨rfl, g9⟩
                        go_wp2_with fail
                        go_roundg (q - (kk + 1))
                        case measure => omega
                        case rel => exact ⟨kk + 1, r2, rfl, by go_num, by omega, by omega, HU2, hB2.trans (g9.mono hB2.size)⟩
                      · have hke : ((kk : Int) == 1) = false := by simp; omega
                        cases nr
                        · have HU2 := Lib.hid (show upA false F ((Q.drop 1).take (kk + 1 - 1)) = r2 by rw [HUP.out]; simp)
                          clear h1 HUP
                          go_wp2_with fail
                          refine HMX.out.mono ?_
                          rintro e w9 ⟨rfl, g9⟩
                          go_wp2_with fail
                          go_roundg (q - (kk + 1))
                          case measure => omega
                          case rel => exact ⟨kk + 1, r2, rfl, by go_num, by omega, by omega, HU2, hB2.trans (g9.mono hB2.size)⟩
                        · have HU2 := Lib.hid (show upA true F ((Q.drop 1).take (kk + 1 - 1)) = false by rw [HUP.out, decide_eq_false h1]; rfl)
                          clear h1 HUP HMX
                          go_wp2_with fail
                          go_roundg (q - (kk + 1))
                          case measure => omega
                          case rel => exact ⟨kk + 1, false, rfl, by go_num, by omega, by omega, HU2, hB2⟩
                    · have HU2 := Lib.hid (show upA nr F ((Q.drop 1).take (kk + 1 - 1)) = true by rw [HUP.out]; rfl)
                      clear HUP HMX
                      go_wp2_with fail
                      go_roundg (q - (kk + 1))
                      case measure => omega
                      case rel => exact ⟨kk + 1, true, rfl, by go_num, by omega, by omega, HU2, hB2⟩
                  · have hkk' : ¬ (kk : Int) < (q : Int) := by omega
                    have HZ := Lib.hid (show yv = (o && ab) by
                      have := HAB.out
                      rw [show kk - 1 = (Q.drop 1).length by rw [List.length_drop, HQL.out]; omega, List.take_length, HTL.out] at this
                      rw [HYF.out, ← this]; rfl)
                    cases o
                    · have hoo : (yv == false) = true := by rw [HZ.out]; rfl
                      go_wp2_with fail
                      go_ret
                      exact ⟨rfl, g1.trans (h1r.mono g1.size)⟩
                    · have hoo : (yv == ab) = true := by rw [HZ.out]; simp
                      go_wp2_with fail
                      go_ret
                      exact ⟨rfl, g1.trans (h1r.mono g1.size)⟩

end Go.Proofs.YtgaggpnlimchkaaGreatDoor.B11
