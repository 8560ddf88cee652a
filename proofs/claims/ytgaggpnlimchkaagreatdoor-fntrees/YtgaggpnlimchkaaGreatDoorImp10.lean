/- Chapter 10 of the program: told, eachBehind, names and badges. -/
import Derived.Test.YtgaggpnlimchkaaGreatDoorBase10
namespace Go.Proofs.YtgaggpnlimchkaaGreatDoor.B10
open Go.Proofs.YtgaggpnlimchkaaGreatDoor.P1 Go.Proofs.YtgaggpnlimchkaaGreatDoor.B1 Go.Proofs.YtgaggpnlimchkaaGreatDoor.B2 Go.Proofs.YtgaggpnlimchkaaGreatDoor.T1 Go.Proofs.YtgaggpnlimchkaaGreatDoor.BT Go.Proofs.YtgaggpnlimchkaaGreatDoor.P5 Go.Proofs.YtgaggpnlimchkaaGreatDoor.B5 Go.Proofs.YtgaggpnlimchkaaGreatDoor.P6 Go.Proofs.YtgaggpnlimchkaaGreatDoor.B6 Go.Proofs.YtgaggpnlimchkaaGreatDoor.V6 Go.Proofs.YtgaggpnlimchkaaGreatDoor.D1 Go.Proofs.YtgaggpnlimchkaaGreatDoor.W8 Go.Proofs.YtgaggpnlimchkaaGreatDoor.RC Go.Proofs.YtgaggpnlimchkaaGreatDoor.RI Go.Proofs.YtgaggpnlimchkaaGreatDoor.P10
open Go.ChangeShapes Go.WideShapes Go.ChangeAt Go.RowKit
set_option linter.unusedVariables false

theorem told_take {ss : List (List UInt8)} {i : Nat} {s : List UInt8} (h : ss[i]? = some s) : told (ss.take (i + 1)) = told (ss.take i) ++ (if s = [] then [] else [s]) := by
  unfold told
  rw [List.take_add_one, h, List.filter_append]
  congr 1
  by_cases hs : s = []
  · subst hs; rfl
  · rw [if_neg hs]
    show List.filter _ [s] = [s]
    rw [List.filter_cons, if_pos (by simpa using hs)]
    rfl

theorem told_len (ss : List (List UInt8)) : (told ss).length ≤ ss.length := List.length_filter_le _ _

theorem words_snoc {w : World} {v : Value} {B n : Nat} {ss : List (List UInt8)} {s : List UInt8} (hn : ss.length = n) (h : w.ownsRow B 9 1 v (n + 1) (wordsV ss ++ [.string ⟨s.toArray⟩])) : Words w v B (ss ++ [s]) := by
  unfold Words
  have e : wordsV (ss ++ [s]) = wordsV ss ++ [.string ⟨s.toArray⟩] := by simp [wordsV]
  rw [e, List.length_append, List.length_singleton, hn]
  exact h

theorem words_shape {w : World} {v : Value} {B : Nat} {ss : List (List UInt8)} (h : Words w v B ss) : ∃ a c, v = .slice a ss.length c := by
  rcases h.2 with ⟨rfl, h0⟩ | ⟨g, cap, cur, rfl, _⟩
  · exact ⟨none, 0, by rw [h0]⟩
  · exact ⟨_, _, rfl⟩

set_option maxRecDepth 20000 in
set_option maxHeartbeats 2000000 in
theorem told_impl (ss : List (List UInt8)) (v : Value) (w : World) (h : StrSlc w v ss) (hs : ss.length ≤ 2000000) :
    Calls Tryz.prog 103 #[v] w fun e w' => ∃ r, e = .returned r ∧ Words w' r w.heap.size (told ss) ∧ Below w.heap.size w w' := by
  obtain ⟨i0, hi, hz0, hz1, hz2⟩ := info_parts infoStr
  obtain ⟨a, cap, rfl, hnc, hcap, HA0⟩ := h.form
  obtain ⟨n, hn⟩ : ∃ n, ss.length = n := ⟨_, rfl⟩
  rw [hn] at hnc hs ⊢
  have HN := Lib.hid hn
  have HA := Lib.hid HA0
  have hnc' : (n : Int) ≤ (cap : Int) := by omega
  have hs' : (n : Int) ≤ 2000000 := by omega
  have ho0 : Words (w.alloc (.cells #[] 9)) (.slice (some ⟨w.heap.size, 0, none⟩) 0 0) w.heap.size (told []) := World.ownsRow_lit w #[] 0 (Nat.le_refl _) (by decide) rfl
  have hB0 : Below w.heap.size w (w.alloc (.cells #[] 9)) := (Below.refl _ _).alloc (Nat.le_refl _) _
  clear h hn HA0 hcap
  go_enter Tryz.func103, Tryz.ntmps103
  go_wp2_with fail
  go_loopg [3, 9] n (fun kx s3 s9 wr => ∃ i : Nat, s9 = .int .i64 (i : Int) ∧ kx + i = n ∧ Words wr s3 w.heap.size (told (ss.take i)) ∧ Below w.heap.size w wr)
  case atStart => exact ⟨0, rfl, by omega, ho0, hB0⟩
  case round =>
    obtain ⟨i, rfl, hk, hown, hB⟩ := hrel
    clear ho0 hB0
    by_cases hlt : i < n
    · have hlt' : (i : Int) < (n : Int) := by omega
      have i0' : (0 : Int) ≤ (i : Int) := by omega
      obtain ⟨s, hsx⟩ : ∃ s, ss[i]? = some s := ⟨_, List.getElem?_eq_getElem (by rw [HN.out]; exact hlt)⟩
      obtain ⟨g, off, rfl, hat⟩ := HA.out (by intro e0; rw [e0] at hsx; cases hsx)
      have c0 := str_cell (hat.on hB) hsx
      obtain ⟨a3, c3, rfl⟩ := words_shape hown
      have HT := Lib.hid (told_take hsx)
      obtain ⟨d, hd⟩ : ∃ d, (told (ss.take i)).length = d := ⟨_, rfl⟩
      have hdn : d ≤ i := by rw [← hd]; exact Nat.le_trans (told_len _) (by rw [List.length_take]; omega)
      have hown' : wr.ownsRow w.heap.size 9 1 (.slice a3 d c3) d (wordsV (told (ss.take i))) := by
        have := hown
        unfold Words at this
        rwa [hd] at this
      rw [hd]
      have HD := Lib.hid hd
      clear hsx hat hown hd
      by_cases he : s = []
      · have he1 : (s == []) = true := by rw [he]; rfl
        have he2 : (s != []) = false := by rw [he]; rfl
        have HT2 := Lib.hid (show told (ss.take (i + 1)) = told (ss.take i) by rw [HT.out, if_pos he, List.append_nil])
        clear he HT
        go_wp2_with fail
        go_roundg (n - (i + 1))
        case measure => omega
        case rel => exact ⟨i + 1, by go_num, by omega, by rw [HT2.out]; unfold Words; rw [HD.out]; exact hown', hB⟩
      · have he1 : (s == []) = false := by simpa using he
        have he2 : (s != []) = true := by simpa using he
        have HT2 := Lib.hid (show told (ss.take (i + 1)) = told (ss.take i) ++ [s] by rw [HT.out, if_neg he])
        clear he HT
        go_wp2_with (at_builtin; refine wpList_append_own _ rfl _ _ 25 rfl w.heap.size 9 i0 _ 1 16 Tryz.underlying25 hi hz0 hz1 hz2 rfl (by decide) _ d (wordsV (told (ss.take i))) rfl (World.ownsRow.alloc hown' _) ⟨wr.heap.size, 0, none⟩ 1 1 [.string ⟨s.toArray⟩] rfl rfl (cell_one_new _ _ _) (by simp [Value.oneCell']) (by simp [maxLen] <;> omega) (by omega) (by have := hB.size; simp; omega) ?_; intro v4 w4 hown4 hgrow4 _)
        go_roundg (n - (i + 1))
        case measure => omega
        case rel => exact ⟨i + 1, by go_num, by omega, by rw [HT2.out]; exact words_snoc HD.out hown4, (hB.alloc hB.size _).grown hgrow4 (by have := hB.size; simp; omega) (fun k hk => (World.ownsRow.lt hown' k hk).1)⟩
    · have hlt' : ¬ (i : Int) < (n : Int) := by omega
      have HD := Lib.hid (show told (ss.take i) = told ss by rw [List.take_of_length_le (by rw [HN.out]; omega)])
      rw [HD.out] at hown
      go_wp2_with fail
      go_ret
      exact ⟨_, rfl, hown, hB⟩

theorem mark_take {m : UInt8} {ss : List (List UInt8)} {i : Nat} {s : List UInt8} (h : ss[i]? = some s) : marked10 m (ss.take (i + 1)) = marked10 m (ss.take i) ++ m :: s := by
  unfold marked10
  rw [List.take_add_one, h, List.flatMap_append]
  simp

theorem mark_le {m : UInt8} {ss : List (List UInt8)} {i : Nat} : (marked10 m (ss.take i)).length ≤ (marked10 m ss).length := by
  unfold marked10
  conv => rhs; rw [← List.take_append_drop i ss, List.flatMap_append, List.length_append]
  exact Nat.le_add_right _ _

set_option maxHeartbeats 1000000 in
theorem shortName_impl (s : List UInt8) (w : World) (L : Pow w) (hl : s.length ≤ 9223372036854775807) : Calls Tryz.prog 101 #[.string ⟨s.toArray⟩] w (Ans (.bool (isName s 8)) w) := by
  have HN := Lib.hid (isName_impl s 8 (by decide) w L hl)
  clear L hl
  go_enter Tryz.func101, Tryz.ntmps101
  go_wp2_with (go_at_call 115; refine HN.out.mono ?_; rintro e w' ⟨rfl, g1⟩)
  go_ret
  exact ⟨rfl, g1⟩

set_option maxRecDepth 20000 in
set_option maxHeartbeats 2000000 in
theorem allOkS_impl (ss : List (List UInt8)) (v : Value) (w : World) (L : Pow w) (h : StrSlc w v ss) (hf : ∀ s ∈ ss, s.length ≤ 1048576) (hs : ss.length ≤ 2000000) :
    Calls Tryz.prog 110 #[v, .func (.func 101) #[] #[]] w (Ans (.bool (ss.all fun s => isName s 8)) w) := by
  obtain ⟨a, cap, rfl, hnc, hcap, HA0⟩ := h.form
  obtain ⟨n, hn⟩ : ∃ n, ss.length = n := ⟨_, rfl⟩
  rw [hn] at hnc hs ⊢
  have HF := Lib.hid hf
  have HN := Lib.hid hn
  have HA := Lib.hid HA0
  have HP := Lib.hid L
  have hnc' : (n : Int) ≤ (cap : Int) := by omega
  have hs' : (n : Int) ≤ 2000000 := by omega
  clear h hn HA0 hcap hf L
  go_enter Tryz.func110, Tryz.ntmps110
  go_wp2_with fail
  go_loopg [9] n (fun kx s9 wr => ∃ i : Nat, s9 = .int .i64 (i : Int) ∧ kx + i = n ∧ Hid (∀ j x, j < i → ss[j]? = some x → isName x 8 = true) ∧ Below w.heap.size w wr)
  case atStart => exact ⟨0, rfl, by omega, Lib.hid fun j x hj => absurd hj (Nat.not_lt_zero _), Below.refl _ _⟩
  case round =>
    obtain ⟨i, rfl, hk, I, hB⟩ := hrel
    by_cases hlt : i < n
    · have hlt' : (i : Int) < (n : Int) := by omega
      have i0' : (0 : Int) ≤ (i : Int) := by omega
      obtain ⟨s, hsx⟩ : ∃ s, ss[i]? = some s := ⟨_, List.getElem?_eq_getElem (by rw [HN.out]; exact hlt)⟩
      obtain ⟨g, off, rfl, hat⟩ := HA.out (by intro e0; rw [e0] at hsx; cases hsx)
      have c0 := str_cell (hat.on hB) hsx
      have hsl := HF.out s (List.mem_of_getElem? hsx)
      have HT := Lib.hid (shortName_impl s wr (HP.out.on hB) (by omega))
      have HX := Lib.hid hsx
      clear hat hsl hsx
      cases hok : isName s 8
      · have HA := Lib.hid (show (ss.all fun s => isName s 8) = false by
          rw [Bool.eq_false_iff]
          intro ha
          have := List.all_eq_true.1 ha s (List.mem_of_getElem? HX.out)
          rw [hok] at this; cases this)
        rw [hok] at HT
        clear hok
        go_wp2_with (go_at_call 101; refine HT.out.mono ?_; rintro e w2 ⟨rfl, g2⟩)
        go_ret
        exact ⟨by rw [HA.out]; rfl, hB.trans (g2.mono hB.size)⟩
      · have HI := Lib.hid (show ∀ j y, j < i + 1 → ss[j]? = some y → isName y 8 = true from fun j y hj hy => by
          rcases Nat.lt_or_eq_of_le (Nat.le_of_lt_succ hj) with h | h
          · exact I.out j y h hy
          · rw [h, HX.out] at hy; cases hy; exact hok)
        rw [hok] at HT
        clear hok
        go_wp2_with (go_at_call 101; refine HT.out.mono ?_; rintro e w2 ⟨rfl, g2⟩)
        go_roundg (n - (i + 1))
        case measure => omega
        case rel => exact ⟨i + 1, by go_num, by omega, HI, hB.trans (g2.mono hB.size)⟩
    · have hlt' : ¬ (i : Int) < (n : Int) := by omega
      have HA := Lib.hid (show (ss.all fun s => isName s 8) = true by
        rw [List.all_eq_true]
        intro x hx
        obtain ⟨j, hj, e⟩ := List.getElem_of_mem hx
        exact I.out j x (by rw [HN.out] at hj; omega) (by rw [List.getElem?_eq_getElem hj, e]))
      go_wp2_with fail
      go_ret
      exact ⟨by rw [HA.out]; rfl, hB⟩

set_option maxHeartbeats 1000000 in
theorem namesOk_impl (ss : List (List UInt8)) (v : Value) (w : World) (L : Pow w) (h : StrSlc w v ss) (hf : ∀ s ∈ ss, s.length ≤ 1048576) (hs : ss.length ≤ 2000000) :
    Calls Tryz.prog 102 #[v] w (Ans (.bool (ss.all fun s => isName s 8)) w) := by
  have HN := Lib.hid (allOkS_impl ss v w L h hf hs)
  obtain ⟨a, cap, rfl, _⟩ := h.form
  generalize ss.length = n at *
  clear L h hf hs
  go_enter Tryz.func102, Tryz.ntmps102
  go_wp2_with (go_at_call 110; refine HN.out.mono ?_; rintro e w' ⟨rfl, g1⟩)
  go_ret
  exact ⟨rfl, g1⟩

theorem bytes_inj : ∀ {xs ys : List (List UInt8)}, xs.map (fun s => (⟨s.toArray⟩ : ByteArray)) = ys.map (fun s => (⟨s.toArray⟩ : ByteArray)) → xs = ys
  | [], [], _ => rfl
  | [], _ :: _, h => by cases h
  | _ :: _, [], h => by cases h
  | x :: xs, y :: ys, h => by
    injection h with h1 h2
    injection h1 with h1
    have : x = y := by
      have := congrArg Array.toList h1
      simpa using this
    rw [this, bytes_inj h2]

theorem strEq_impl (xs ys : List (List UInt8)) (v u : Value) (w : World) (hx : StrSlc w v xs) (hy : StrSlc w u ys) :
    Calls Tryz.prog 116 #[v, u] w (Ans (.bool (decide (xs = ys))) w) := by
  obtain ⟨a, c, rfl, h1, h2, h3⟩ := hx.form
  obtain ⟨b, d, rfl, k1, k2, k3⟩ := hy.form
  by_cases hl : xs.length = ys.length
  · by_cases h0 : xs = []
    · subst h0
      have hy0 : ys = [] := List.eq_nil_of_length_eq_zero hl.symm
      subst hy0
      refine (Tryz.slices_Equal_string_empty a b c 0 d w (by decide)).mono ?_
      rintro e w' ⟨rfl, rfl⟩
      exact ⟨rfl, Below.refl _ _⟩
    · have hy0 : ys ≠ [] := by intro e; rw [e] at hl; exact h0 (List.eq_nil_of_length_eq_zero hl)
      obtain ⟨b1, o1, rfl, hat1⟩ := h3 h0
      obtain ⟨b2, o2, rfl, hat2⟩ := k3 hy0
      have cells : ∀ (zs : List (List UInt8)) (g off : Nat), RC.At 1 w g off (strRs zs) → ∀ j, j < (zs.map (fun s => (⟨s.toArray⟩ : ByteArray))).length → w.cell? ⟨g, off + j, none⟩ = some (.string ((zs.map (fun s => (⟨s.toArray⟩ : ByteArray))).getD j ByteArray.empty)) := fun zs g off hat j hj => by
        rw [List.length_map] at hj
        rw [str_cell hat (List.getElem?_eq_getElem hj), List.getD_eq_getElem?_getD, List.getElem?_map, List.getElem?_eq_getElem hj]
        rfl
      refine (Tryz.slices_Equal_string b1 o1 xs.length c b2 o2 ys.length d (xs.map fun s => ⟨s.toArray⟩) (ys.map fun s => ⟨s.toArray⟩) w (by simp) (by simp) (by omega) (by omega) (cells xs b1 o1 hat1) (cells ys b2 o2 hat2)).mono ?_
      rintro e w' ⟨rfl, q, rfl⟩
      refine ⟨?_, below_drewN (Below.refl _ _) q⟩
      rw [List.take_of_length_le (by simp), List.take_of_length_le (by simp)]
      congr 2
      by_cases he : xs = ys
      · rw [he]; simp
      · rw [decide_eq_false he, decide_eq_false (fun e => he (bytes_inj e))]
  · refine (Tryz.slices_Equal_string_lens a b xs.length c ys.length d w hl).mono ?_
    rintro e w' ⟨rfl, rfl⟩
    refine ⟨?_, Below.refl _ _⟩
    rw [decide_eq_false (fun e => hl (by rw [e]))]

theorem badges_is (bs : List (List UInt8)) (m : Nat) : badgesOk bs m = (decide (bs.length ≤ m) && (bs.all (fun s => isName s 8) && decide (rising bs = bs))) := by
  unfold badgesOk
  have e : decide (rising bs = bs) = rises bs := by
    rw [Bool.eq_iff_iff, decide_eq_true_eq]
    exact rising_self
  rw [e]
  cases decide (bs.length ≤ m) <;> cases (bs.all fun s => isName s 8) <;> cases rises bs <;> rfl

set_option maxRecDepth 20000 in
set_option maxHeartbeats 2000000 in
theorem badgesOk_impl (m : Nat) (hm : m ≤ 1000) (bs : List (List UInt8)) (u : Value) (w : World) (L : Pow w) (h : StrSlc w u bs) (hf : ∀ s ∈ bs, s.length ≤ 1048576) :
    Calls Tryz.prog 104 #[.int .i64 (m : Int), u] w (Ans (.bool (badgesOk bs m)) w) := by
  have HE := Lib.hid (badges_is bs m)
  have HH := Lib.hid h
  have HL := Lib.hid L
  have HF := Lib.hid hf
  obtain ⟨a, cap, rfl, _⟩ := h.form
  obtain ⟨n, hn⟩ : ∃ n, bs.length = n := ⟨_, rfl⟩
  rw [hn] at HE HH ⊢
  have HNN := Lib.hid hn
  clear h L hf hn
  by_cases hle : n ≤ m
  · have hle' : (n : Int) ≤ (m : Int) := by omega
    have hn2 : bs.length ≤ 2000000 := by rw [HNN.out]; omega
    have HN := Lib.hid (namesOk_impl bs _ w HL.out HH.out HF.out hn2)
    cases hall : bs.all fun s => isName s 8
    · have HK := Lib.hid (show badgesOk bs m = false by rw [HE.out, hall]; simp)
      rw [hall] at HN
      clear hall hn2 hle
      go_enter Tryz.func104, Tryz.ntmps104
      go_wp2_with (go_at_call 102; refine HN.out.mono ?_; rintro e w1 ⟨rfl, g1⟩)
      go_ret
      exact ⟨by rw [HK.out]; rfl, g1⟩
    · have HK := Lib.hid (show badgesOk bs m = decide (rising bs = bs) by rw [HE.out, hall, decide_eq_true hle]; rfl)
      have HR := Lib.hid (fun w' (hb : Below w.heap.size w w') => rising_impl bs _ w' (HH.out.on hb) hn2)
      have HQ := Lib.hid (fun w' r (hr : Words w' r w.heap.size (rising bs)) (hb : Below w.heap.size w w') => strEq_impl (rising bs) bs r _ w' (Words.slc hr) (HH.out.on hb))
      have HS := Lib.hid (fun (w' : World) (r : Value) (hr : Words w' r w.heap.size (rising bs)) => words_shape hr)
      rw [hall] at HN
      generalize decide (rising bs = bs) = q at HK HQ
      clear hall hn2 hle
      go_enter Tryz.func104, Tryz.ntmps104
      go_wp2_with (go_at_call 102; refine HN.out.mono ?_; rintro e w1 ⟨rfl, g1⟩)
      refine (HR.out _ g1).mono ?_
      rintro e w2 ⟨r, rfl, hr, g2⟩
      have hB2 := g1.trans (g2.mono g1.size)
      have hr' : Words w2 r w.heap.size (rising bs) := ⟨hr.1, by
        rcases hr.2 with hn | ⟨g, cap, cur, hv, hbg, rest⟩
        · exact .inl hn
        · exact .inr ⟨g, cap, cur, hv, Nat.le_trans g1.size hbg, rest⟩⟩
      have HQ2 := Lib.hid (HQ.out w2 r hr' hB2)
      clear HR HQ hr hr' g2
      cases q
      all_goals
        go_wp2_with (go_at_call 116; refine HQ2.out.mono ?_; rintro e w3 ⟨rfl, g3⟩)
        go_ret
        exact ⟨by rw [HK.out]; rfl, hB2.trans (g3.mono hB2.size)⟩
  · have hle' : ¬ (n : Int) ≤ (m : Int) := by omega
    have HK := Lib.hid (show badgesOk bs m = false by rw [HE.out, decide_eq_false hle]; rfl)
    go_enter Tryz.func104, Tryz.ntmps104
    go_wp2_with fail
    go_ret
    exact ⟨by rw [HK.out]; rfl, Below.refl _ _⟩

end Go.Proofs.YtgaggpnlimchkaaGreatDoor.B10

namespace Go.Proofs.YtgaggpnlimchkaaGreatDoor.B10
open Go.Proofs.YtgaggpnlimchkaaGreatDoor.P1 Go.Proofs.YtgaggpnlimchkaaGreatDoor.B1 Go.Proofs.YtgaggpnlimchkaaGreatDoor.B2 Go.Proofs.YtgaggpnlimchkaaGreatDoor.T1 Go.Proofs.YtgaggpnlimchkaaGreatDoor.BT Go.Proofs.YtgaggpnlimchkaaGreatDoor.P5 Go.Proofs.YtgaggpnlimchkaaGreatDoor.B5 Go.Proofs.YtgaggpnlimchkaaGreatDoor.P6 Go.Proofs.YtgaggpnlimchkaaGreatDoor.B6 Go.Proofs.YtgaggpnlimchkaaGreatDoor.V6 Go.Proofs.YtgaggpnlimchkaaGreatDoor.D1 Go.Proofs.YtgaggpnlimchkaaGreatDoor.W8 Go.Proofs.YtgaggpnlimchkaaGreatDoor.RC Go.Proofs.YtgaggpnlimchkaaGreatDoor.RI Go.Proofs.YtgaggpnlimchkaaGreatDoor.P10
open Go.ChangeShapes Go.WideShapes Go.ChangeAt Go.RowKit
set_option linter.unusedVariables false

theorem part_is (p : Pt) : partOk p = (decide (0 < (told [p.tag, p.id]).length + p.bs.length) && ((told [p.tag, p.id]).all (fun s => isName s 8) && badgesOk p.bs 3)) := by
  obtain ⟨tag, id, bs, near⟩ := p
  unfold partOk told
  dsimp only
  cases tag with
  | nil =>
    cases id with
    | nil =>
      cases bs with
      | nil => simp [badgesOk, rises]
      | cons b bs => simp
    | cons c id =>
      simp
      cases isName (c :: id) 8 <;> simp
      intro _; omega
  | cons c tag =>
    cases id with
    | nil =>
      simp
      cases isName (c :: tag) 8 <;> simp
      intro _; omega
    | cons d id =>
      simp
      cases isName (c :: tag) 8 <;> cases isName (d :: id) 8 <;> simp
      intro _; omega

/-- Texts written out as a slice. -/
theorem lit_strs (w : World) (ss : List (List UInt8)) (h : ss.length ≤ 1000) : StrSlc (w.alloc (.cells (wordsV ss).toArray 9)) (.slice (some ⟨w.heap.size, 0, none⟩) ss.length ss.length) ss := by
  have e : ∀ (l : List (List UInt8)), (strRs l).flatten = wordsV l := fun l => by
    induction l with
    | nil => rfl
    | cons x r ih =>
      show [Value.string ⟨x.toArray⟩] ++ (strRs r).flatten = _
      rw [ih]; rfl
  have hl := LBlk.new w (wordsV ss) 9
  rw [← e] at hl
  refine ⟨_, _, by rw [strRs_len], by rw [strRs_len]; exact Nat.le_refl _, by omega, fun _ => ⟨_, _, rfl, ?_⟩⟩
  have := at_of_blk hl (strRs_one ss)
  rw [e] at this
  exact this

theorem told_two (a b : List UInt8) : (told [a, b]).length ≤ 2 ∧ ∀ s ∈ told [a, b], s = a ∨ s = b := by
  refine ⟨told_len _, fun s hs => ?_⟩
  have := (List.mem_filter.1 hs).1
  simpa using this

set_option maxRecDepth 20000 in
set_option maxHeartbeats 1000000 in
theorem rightPart_impl (x : Pv) (w : World) (L : Pow w) (h : Held w x) (hf : Fits x) :
    Calls Tryz.prog 93 #[ptV x] w (Ans (.bool (partOk x.p)) w) := by
  obtain ⟨⟨tag, id, bs, near⟩, u⟩ := x
  obtain ⟨f1, f2, f3, f4⟩ := hf
  dsimp only at f1 f2 f3 f4
  have HE := Lib.hid (part_is ⟨tag, id, bs, near⟩)
  have HH := Lib.hid (show StrSlc w u bs from h)
  obtain ⟨a, cap, eu, hc1, hc2⟩ := held_form h
  dsimp only at eu hc1
  subst eu
  have hl0 := pt_new w ⟨⟨tag, id, bs, near⟩, .slice a bs.length cap⟩ 47
  have hB0 : Below w.heap.size w (w.alloc (.cells #[.string ⟨tag.toArray⟩, .string ⟨id.toArray⟩, .slice a bs.length cap, .bool near] 47)) := (Below.refl _ _).alloc (Nat.le_refl _) _
  have hl1 := Lib.hid (hl0.alloc (.cells #[.string ⟨tag.toArray⟩, .string ⟨id.toArray⟩] 9))
  have hB1 := hB0.alloc hB0.size (.cells #[.string ⟨tag.toArray⟩, .string ⟨id.toArray⟩] 9)
  have HT0 := told_impl [tag, id] _ _ (lit_strs (w.alloc (.cells #[.string ⟨tag.toArray⟩, .string ⟨id.toArray⟩, .slice a bs.length cap, .bool near] 47)) [tag, id] (by simp)) (by simp)
  have es : (w.alloc (.cells #[.string ⟨tag.toArray⟩, .string ⟨id.toArray⟩, .slice a bs.length cap, .bool near] 47)).heap.size = w.heap.size + 1 := World.size_alloc _ _
  have el : ([tag, id] : List (List UInt8)).length = 2 := rfl
  have ew : (wordsV [tag, id]).toArray = #[.string ⟨tag.toArray⟩, .string ⟨id.toArray⟩] := rfl
  rw [es, el, ew] at HT0
  have HT := Lib.hid HT0
  clear HT0 es el ew
  have HN := Lib.hid (fun w' (hb : Below w.heap.size w w') r B (hr : Words w' r B (told [tag, id])) => namesOk_impl (told [tag, id]) r w' (L.on hb) (Words.slc hr) (fun s hs => by
    rcases (told_two tag id).2 s hs with rfl | rfl
    · exact f1
    · exact f2) (by have := (told_two tag id).1; omega))
  have HQ := Lib.hid (fun w' (hb : Below w.heap.size w w') => badgesOk_impl 3 (by decide) bs _ w' (L.on hb) (HH.out.on hb) f4)
  have hk2 := (told_two tag id).1
  obtain ⟨k, hk⟩ : ∃ k, (told [tag, id]).length = k := ⟨_, rfl⟩
  rw [hk] at hk2
  have HK := Lib.hid hk
  obtain ⟨nb, hnb⟩ : ∃ nb, bs.length = nb := ⟨_, rfl⟩
  have HEN : Hid (partOk ⟨tag, id, bs, near⟩ = (decide (0 < k + nb) && ((told [tag, id]).all (fun s => isName s 8) && badgesOk bs 3))) := Lib.hid (by rw [← hk, ← hnb]; exact HE.out)
  rw [hnb] at hl1 hB1 HT HQ f3
  have hk2' : (k : Int) ≤ 2 := by omega
  have hn2' : (nb : Int) ≤ 1048576 := by omega
  generalize (told [tag, id]).all (fun s => isName s 8) = qa at HN HEN
  generalize badgesOk bs 3 = qb at HQ HEN
  rw [ptV_is]
  dsimp only
  rw [hnb]
  clear h HE hl0 hB0 hc1 hc2 L HH hk hnb
  go_enter Tryz.func93, Tryz.ntmps93
  go_wp2_with fail
  refine HT.out.mono ?_
  rintro e w1 ⟨r, rfl, hr, g1⟩
  have hB2 := hB1.trans (g1.mono hB1.size)
  have hl2 := hl1.out.below g1
  obtain ⟨c0, c1, c2, c3⟩ := pt_blk hl2
  dsimp only at c0 c1 c2 c3
  have HN2 := Lib.hid (HN.out w1 hB2 r _ hr)
  obtain ⟨ar, cr, rfl⟩ := words_shape hr
  rw [HK.out] at HN2 ⊢
  clear HT HN hr g1 hl1
  by_cases hpos : 0 < k + nb
  · have hpos' : 0 < (k : Int) + (nb : Int) := by omega
    cases qa
    · have HF := Lib.hid (show partOk ⟨tag, id, bs, near⟩ = false by rw [HEN.out]; simp)
      go_wp2_with (go_at_call 102; refine HN2.out.mono ?_; rintro e w2 ⟨rfl, g2⟩)
      go_ret
      exact ⟨by rw [HF.out]; rfl, hB2.trans (g2.mono hB2.size)⟩
    · have HF := Lib.hid (show partOk ⟨tag, id, bs, near⟩ = qb by rw [HEN.out, decide_eq_true hpos]; rfl)
      have HL2 := Lib.hid hl2
      clear c0 c1 c2 c3 hl2
      have c2 := Lib.hid (fun (w' : World) (hb : Below w1.heap.size w1 w') => (pt_blk (HL2.out.below hb)).2.2.1)
      dsimp only at c2
      cases qb
      all_goals
        have c2a := c2.out w1 (Below.refl _ _)
        go_wp2_with (first | (go_at_call 102; refine HN2.out.mono ?_; rintro e w2 ⟨rfl, g2⟩; have c2b := c2.out w2 g2) | (go_at_call 104; refine (HQ.out _ (hB2.trans (g2.mono hB2.size))).mono ?_; rintro e w3 ⟨rfl, g3⟩))
        go_ret
        have hB3 := hB2.trans (g2.mono hB2.size)
        exact ⟨by rw [HF.out]; rfl, hB3.trans (g3.mono hB3.size)⟩
  · have hpos' : ¬ 0 < (k : Int) + (nb : Int) := by omega
    have HF := Lib.hid (show partOk ⟨tag, id, bs, near⟩ = false by rw [HEN.out, decide_eq_false hpos]; rfl)
    go_wp2_with fail
    go_ret
    exact ⟨by rw [HF.out]; rfl, hB2⟩

end Go.Proofs.YtgaggpnlimchkaaGreatDoor.B10

namespace Go.Proofs.YtgaggpnlimchkaaGreatDoor.B10
open Go.Proofs.YtgaggpnlimchkaaGreatDoor.P1 Go.Proofs.YtgaggpnlimchkaaGreatDoor.B1 Go.Proofs.YtgaggpnlimchkaaGreatDoor.B2 Go.Proofs.YtgaggpnlimchkaaGreatDoor.T1 Go.Proofs.YtgaggpnlimchkaaGreatDoor.BT Go.Proofs.YtgaggpnlimchkaaGreatDoor.P5 Go.Proofs.YtgaggpnlimchkaaGreatDoor.B5 Go.Proofs.YtgaggpnlimchkaaGreatDoor.P6 Go.Proofs.YtgaggpnlimchkaaGreatDoor.B6 Go.Proofs.YtgaggpnlimchkaaGreatDoor.V6 Go.Proofs.YtgaggpnlimchkaaGreatDoor.D1 Go.Proofs.YtgaggpnlimchkaaGreatDoor.W8 Go.Proofs.YtgaggpnlimchkaaGreatDoor.RC Go.Proofs.YtgaggpnlimchkaaGreatDoor.RI Go.Proofs.YtgaggpnlimchkaaGreatDoor.P10
open Go.ChangeShapes Go.WideShapes Go.ChangeAt Go.RowKit
set_option linter.unusedVariables false

set_option maxRecDepth 20000 in
set_option maxHeartbeats 4000000 in
theorem allOkP_impl (xs : List Pv) (v : Value) (w : World) (L : Pow w) (h : PtSlc w v xs) (hf : ∀ x ∈ xs, Fits x) (hs : xs.length ≤ 2000000) :
    Calls Tryz.prog 92 #[v, .func (.func 93) #[] #[]] w (Ans (.bool ((pts xs).all partOk)) w) := by
  obtain ⟨a, cap, rfl, hnc, hcap, HA0⟩ := h.form
  have HH := Lib.hid h.2
  obtain ⟨n, hn⟩ : ∃ n, xs.length = n := ⟨_, rfl⟩
  rw [hn] at hnc hs ⊢
  have HF := Lib.hid hf
  have HN := Lib.hid hn
  have HA := Lib.hid HA0
  have HP := Lib.hid L
  have hnc' : (n : Int) ≤ (cap : Int) := by omega
  have hs' : (n : Int) ≤ 2000000 := by omega
  clear h hn HA0 hcap hf L
  go_enter Tryz.func92, Tryz.ntmps92
  go_wp2_with fail
  go_loopg [9] n (fun kx s9 wr => ∃ i : Nat, s9 = .int .i64 (i : Int) ∧ kx + i = n ∧ Hid (∀ j x, j < i → xs[j]? = some x → partOk x.p = true) ∧ Below w.heap.size w wr)
  case atStart => exact ⟨0, rfl, by omega, Lib.hid fun j x hj => absurd hj (Nat.not_lt_zero _), Below.refl _ _⟩
  case round =>
    obtain ⟨i, rfl, hk, I, hB⟩ := hrel
    by_cases hlt : i < n
    · have hlt' : (i : Int) < (n : Int) := by omega
      have i0' : (0 : Int) ≤ (i : Int) := by omega
      obtain ⟨x, hx⟩ : ∃ x, xs[i]? = some x := ⟨_, List.getElem?_eq_getElem (by rw [HN.out]; exact hlt)⟩
      obtain ⟨g, off, rfl, hat⟩ := HA.out (by intro e0; rw [e0] at hx; cases hx)
      have hm := List.mem_of_getElem? hx
      have HLD := Lib.hid (pt_load (hat.on hB) hx)
      have hheld := (HH.out x hm).on hB
      obtain ⟨w2, hst2, hx2, hb2⟩ := pt_laid hheld
      have HST2 := Lib.hid hst2
      have hB2 := hB.trans (hb2.mono hB.size)
      have HL3 := Lib.hid (load_blk (P := Tryz.prog) (ty := 47) hx2 pt_wide)
      have HT := Lib.hid (rightPart_impl x w2 (HP.out.on hB2) (hheld.on hb2) (HF.out x hm))
      have HX := Lib.hid hx
      rw [ptV_is] at HT HLD HST2
      unfold ptL at HL3
      clear hat hx hm hheld hst2 hx2 hb2
      cases hok : partOk x.p
      · have HA := Lib.hid (show (pts xs).all partOk = false by
          rw [Bool.eq_false_iff]
          intro ha
          have := List.all_eq_true.1 ha x.p (List.mem_map.2 ⟨x, List.mem_of_getElem? HX.out, rfl⟩)
          rw [hok] at this; cases this)
        rw [hok] at HT
        clear hok
        go_wp2_with (first | (go_at_call 93; refine HT.out.mono ?_; rintro e w3 ⟨rfl, g3⟩) | ((with_reducible refine wp_load_at HLD.out ?_ ?_); exact And.intro rfl (And.intro rfl rfl)) | ((with_reducible refine wp_store_at HST2.out ?_ ?_); exact And.intro rfl (And.intro rfl (And.intro rfl rfl))) | ((with_reducible refine wp_load_at HL3.out ?_ ?_); exact And.intro rfl (And.intro rfl rfl)))
        go_ret
        exact ⟨by rw [HA.out]; rfl, hB2.trans (g3.mono hB2.size)⟩
      · have HI := Lib.hid (show ∀ j y, j < i + 1 → xs[j]? = some y → partOk y.p = true from fun j y hj hy => by
          rcases Nat.lt_or_eq_of_le (Nat.le_of_lt_succ hj) with h | h
          · exact I.out j y h hy
          · rw [h, HX.out] at hy; cases hy; exact hok)
        rw [hok] at HT
        clear hok
        go_wp2_with (first | (go_at_call 93; refine HT.out.mono ?_; rintro e w3 ⟨rfl, g3⟩) | ((with_reducible refine wp_load_at HLD.out ?_ ?_); exact And.intro rfl (And.intro rfl rfl)) | ((with_reducible refine wp_store_at HST2.out ?_ ?_); exact And.intro rfl (And.intro rfl (And.intro rfl rfl))) | ((with_reducible refine wp_load_at HL3.out ?_ ?_); exact And.intro rfl (And.intro rfl rfl)))
        go_roundg (n - (i + 1))
        case measure => omega
        case rel => exact ⟨i + 1, by go_num, by omega, HI, hB2.trans (g3.mono hB2.size)⟩
    · have hlt' : ¬ (i : Int) < (n : Int) := by omega
      have HA := Lib.hid (show (pts xs).all partOk = true by
        rw [List.all_eq_true]
        intro p hp
        obtain ⟨x, hx, rfl⟩ := List.mem_map.1 hp
        obtain ⟨j, hj, e⟩ := List.getElem_of_mem hx
        exact I.out j x (by rw [HN.out] at hj; omega) (by rw [List.getElem?_eq_getElem hj, e]))
      go_wp2_with fail
      go_ret
      exact ⟨by rw [HA.out]; rfl, hB⟩

theorem pick_isI (ps : List Pt) : pickOk ps = (P1.within (ps.length : Int) 1 4 && (!headNear ps && ps.all partOk)) := by
  unfold pickOk
  have e : P1.within (ps.length : Int) 1 4 = (decide (1 ≤ ps.length) && decide (ps.length ≤ 4)) := by
    unfold P1.within
    congr 1
    · rw [decide_eq_decide]; omega
    · rw [decide_eq_decide]; omega
  rw [e]
  cases ps.all partOk <;> cases decide (1 ≤ ps.length) <;> cases decide (ps.length ≤ 4) <;> cases headNear ps <;> rfl

set_option maxRecDepth 20000 in
set_option maxHeartbeats 4000000 in
theorem PickOk_impl (xs : List Pv) (v : Value) (w : World) (L : Pow w) (h : PtSlc w v xs) (hf : ∀ x ∈ xs, Fits x) (hs : xs.length ≤ 2000000) :
    Calls Tryz.prog 59 #[v] w (Ans (.bool (pickOk (pts xs))) w) := by
  have HA := Lib.hid (allOkP_impl xs v w L h hf hs)
  have HE := Lib.hid (pick_isI (pts xs))
  have HW := Lib.hid (fun w' => within_impl (xs.length : Int) 1 4 w')
  obtain ⟨a, cap, rfl, hnc, hcap, HA0⟩ := h.form
  have hpl : (pts xs).length = xs.length := by simp [pts]
  rw [hpl] at HE
  generalize hq : P1.within (xs.length : Int) 1 4 = q at HE HW
  generalize (pts xs).all partOk = qa at HA HE
  cases q
  · have HF := Lib.hid (show pickOk (pts xs) = false by rw [HE.out]; rfl)
    clear h hf L hcap HA0 HA hq hpl HE
    generalize xs.length = n at *
    go_enter Tryz.func59, Tryz.ntmps59
    go_wp2_with (go_at_call 85; refine (HW.out _).mono ?_; rintro e w2 ⟨rfl, rfl⟩)
    go_ret
    exact ⟨by rw [HF.out]; rfl, Below.refl _ _⟩
  · have hr := within_true hq
    cases xs with
    | nil => simp at hr
    | cons x r =>
      obtain ⟨g, off, rfl, hat⟩ := HA0 (by simp)
      obtain ⟨_, _, _, c3⟩ := pt_cells hat (i := 0) (x := x) rfl
      have hh : headNear (pts (x :: r)) = x.p.near := rfl
      rw [hh] at HE
      simp only [Nat.zero_mul, Nat.add_zero] at c3
      generalize hn : (x :: r).length = n at *
      have hn0 : (0 : Int) < (n : Int) := by omega
      have hnc' : (n : Int) ≤ (cap : Int) := by omega
      generalize x.p.near = nr at HE c3
      clear h hf L hcap HA0 hq hpl hat hn hr hnc
      cases nr
      · have HF := Lib.hid (show pickOk (pts (x :: r)) = qa by rw [HE.out]; rfl)
        cases qa
        all_goals
          go_enter Tryz.func59, Tryz.ntmps59
          go_wp2_with (first | (go_at_call 85; refine (HW.out _).mono ?_; rintro e w2 ⟨rfl, rfl⟩) | (go_at_call 92; refine HA.out.mono ?_; rintro e w3 ⟨rfl, g3⟩))
          go_ret
          exact ⟨by rw [HF.out]; rfl, g3⟩
      · have HF := Lib.hid (show pickOk (pts (x :: r)) = false by rw [HE.out]; rfl)
        go_enter Tryz.func59, Tryz.ntmps59
        go_wp2_with (go_at_call 85; refine (HW.out _).mono ?_; rintro e w2 ⟨rfl, rfl⟩)
        go_ret
        exact ⟨by rw [HF.out]; rfl, Below.refl _ _⟩

end Go.Proofs.YtgaggpnlimchkaaGreatDoor.B10
