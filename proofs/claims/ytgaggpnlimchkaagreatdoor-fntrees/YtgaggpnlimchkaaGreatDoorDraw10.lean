/- Chapter 10: the reference's l10Put. -/
import Derived.Test.YtgaggpnlimchkaaGreatDoorBase10
import Derived.Laws.AppendOwnNone
import Derived.Test.YtgaggpnlimchkaaGreatDoorDraw5
import Derived.Laws.OwnMore
namespace Go.Proofs.YtgaggpnlimchkaaGreatDoor.B10
open Go.Proofs.YtgaggpnlimchkaaGreatDoor.P1 Go.Proofs.YtgaggpnlimchkaaGreatDoor.B1 Go.Proofs.YtgaggpnlimchkaaGreatDoor.B2 Go.Proofs.YtgaggpnlimchkaaGreatDoor.T1 Go.Proofs.YtgaggpnlimchkaaGreatDoor.BT Go.Proofs.YtgaggpnlimchkaaGreatDoor.P5 Go.Proofs.YtgaggpnlimchkaaGreatDoor.B5 Go.Proofs.YtgaggpnlimchkaaGreatDoor.P6 Go.Proofs.YtgaggpnlimchkaaGreatDoor.B6 Go.Proofs.YtgaggpnlimchkaaGreatDoor.D1 Go.Proofs.YtgaggpnlimchkaaGreatDoor.W8 Go.Proofs.YtgaggpnlimchkaaGreatDoor.RC Go.Proofs.YtgaggpnlimchkaaGreatDoor.RI Go.Proofs.YtgaggpnlimchkaaGreatDoor.P10
open Go.ChangeShapes Go.WideShapes Go.ChangeAt Go.RowKit
set_option linter.unusedVariables false

theorem put_far {s : List UInt8} : ∀ {ss : List (List UInt8)} {k : Nat}, (∀ j x, j < k → ss[j]? = some x → x < s) → k ≤ ss.length → put s ss = ss.take k ++ put s (ss.drop k)
  | _, 0, _, _ => rfl
  | [], k + 1, _, hk => by simp at hk
  | x :: r, k + 1, h, hk => by
    have hx : x < s := h 0 x (by omega) rfl
    show (if x < s then x :: put s r else _) = _
    rw [if_pos hx, put_far (k := k) (fun j y hj hy => h (j + 1) y (by omega) hy) (by simp at hk; omega)]
    rfl

theorem put_end {s : List UInt8} {ss : List (List UInt8)} (h : ∀ j x, j < ss.length → ss[j]? = some x → x < s) : put s ss = ss ++ [s] := by
  rw [put_far h (Nat.le_refl _)]
  simp [put]

theorem put_mid {s x : List UInt8} {ss : List (List UInt8)} {k : Nat} (h : ∀ j x, j < k → ss[j]? = some x → x < s) (hx : ss[k]? = some x) (hn : ¬ x < s) : put s ss = if x = s then ss else ss.take k ++ s :: ss.drop k := by
  have hk := (List.getElem?_eq_some_iff.1 hx)
  obtain ⟨hk, e⟩ := hk
  rw [put_far h (by omega)]
  have ed : ss.drop k = x :: ss.drop (k + 1) := by rw [List.drop_eq_getElem_cons hk, e]
  rw [ed]
  show ss.take k ++ (if x < s then _ else if x = s then _ else _) = _
  rw [if_neg hn]
  split
  · rw [← ed, List.take_append_drop]
  · rfl

theorem str_to (g off L C K : Nat) (h : K ≤ C) (w : World) : (Instr.slice 25 (.slice (some ⟨g, off, none⟩) L C) none (some (.int .i64 (K : Int))) none).run Tryz.prog w = .ok (.slice (some ⟨g, off, none⟩) K C) w := by
  have z3 := Tryz.sizeOf9
  have h' : (K : Int) ≤ (C : Int) := by omega
  by_cases hC : C = 0
  · subst hC
    obtain rfl : K = 0 := by omega
    go_simp
  · go_simp

theorem str_from (g off L C K : Nat) (h : K ≤ L) (hC : L ≤ C) (w : World) : (Instr.slice 25 (.slice (some ⟨g, off, none⟩) L C) (some (.int .i64 (K : Int))) none none).run Tryz.prog w = .ok (.slice (some (if C = K then ⟨g, off, none⟩ else ⟨g, off + K, none⟩)) (L - K) (C - K)) w := by
  have z3 := Tryz.sizeOf9
  have h' : (K : Int) ≤ (L : Int) := by omega
  by_cases hne : C = K
  · subst hne
    obtain rfl : L = C := by omega
    go_simp
  · go_simp

theorem wordsV_one (l : List (List UInt8)) : ∀ u ∈ wordsV l, u.oneCell' = true := fun u hu => by
  obtain ⟨x, _, rfl⟩ := List.mem_map.1 hu
  rfl

/-- The cells of a stretch of a row of texts. -/
theorem news_at {W : World} {g : Nat} {ss : List (List UInt8)} {l : List (List UInt8)} {o : Nat} (h : RC.At 1 W g 0 (strRs ss)) (hl : ∀ j x, l[j]? = some x → ss[o + j]? = some x) : ∀ j u, (wordsV l)[j]? = some u → W.cell? ((⟨g, o, none⟩ : Addr).add j) = some u := fun j u hu => by
  unfold wordsV at hu
  rw [List.getElem?_map] at hu
  cases hx : l[j]? with
  | none => rw [hx] at hu; cases hu
  | some x =>
    rw [hx] at hu
    obtain rfl := Option.some.inj hu
    rw [W8.add_lit]
    have := str_cell h (hl j x hx)
    rwa [Nat.zero_add] at this

theorem own_row_at {w : World} {v : Value} {B : Nat} {ss : List (List UInt8)} (h : Words w v B ss) (hne : v ≠ .slice none 0 0) : ∃ g cap, v = .slice (some ⟨g, 0, none⟩) ss.length cap ∧ B ≤ g ∧ ss.length ≤ cap ∧ RC.At 1 w g 0 (strRs ss) := by
  rcases h.2 with ⟨hn, _⟩ | ⟨g, cap, cur, rfl, hB, hg, h1, h2, h3, h4⟩
  · exact absurd hn hne
  · refine ⟨g, cap, rfl, hB, h1, ⟨fun i r hr j u hu => ?_, (Array.getElem?_eq_some_iff.1 hg).1⟩⟩
    unfold strRs at hr
    rw [List.getElem?_map] at hr
    cases hx : ss[i]? with
    | none => rw [hx] at hr; cases hr
    | some x =>
      rw [hx] at hr
      obtain rfl := Option.some.inj hr
      have hj : j = 0 := by
        have := (List.getElem?_eq_some_iff.1 hu).1
        simp at this; exact this
      subst hj
      obtain rfl := Option.some.inj hu
      have hi : i < ss.length := (List.getElem?_eq_some_iff.1 hx).1
      have hw : (cur.toList.take (ss.length * 1))[i]? = some (.string ⟨x.toArray⟩) := by
        rw [h4]; unfold wordsV; rw [List.getElem?_map, hx]; rfl
      rw [Nat.mul_one, List.getElem?_take_of_lt hi] at hw
      rw [Nat.zero_add, Nat.mul_one, Nat.add_zero]
      simp only [World.cell?, hg]
      simpa using hw

theorem words_app {w : World} {v : Value} {B k : Nat} {l : List (List UInt8)} (hk : l.length = k) (h : w.ownsRow B 9 1 v k (wordsV l)) : Words w v B l := by
  unfold Words; rw [hk]; exact h

theorem wordsV_app (a b : List (List UInt8)) : wordsV (a ++ b) = wordsV a ++ wordsV b := by unfold wordsV; exact List.map_append

theorem rest_at {w5 W : World} {B m g c : Nat} {l : List Value} (h : w5.ownsRow B 9 1 (.slice (some ⟨g, 0, none⟩) m c) (0 + m) ([] ++ l)) (hb : Below w5.heap.size w5 W) : ∀ j u, l[j]? = some u → W.cell? ((⟨g, 0, none⟩ : Addr).add j) = some u := fun j u hu => by
  rcases h.2 with ⟨h0, _⟩ | ⟨g', cap, cur, h0, _, hg, h1, h2, h3, h4⟩
  · cases h0
  · injection h0 with h0 _ _
    injection h0 with h0
    injection h0 with h0 _ _
    subst h0
    have hj : j < l.length := (List.getElem?_eq_some_iff.1 hu).1
    have hl : l.length = m := by have := h.1; simpa using this
    have hlt : g < w5.heap.size := (Array.getElem?_eq_some_iff.1 hg).1
    rw [W8.add_lit, Nat.zero_add]
    rw [hb.cell (p := ⟨g, j, none⟩) hlt]
    have hw : (cur.toList.take ((0 + m) * 1))[j]? = some u := by rw [h4, List.nil_append]; exact hu
    rw [List.getElem?_take_of_lt (by omega)] at hw
    simp only [World.cell?, hg]
    simpa using hw

theorem row_base {w : World} {v : Value} {B B' : Nat} {ss : List (List UInt8)} (h : Words w v B ss) (hb : B' ≤ B) : Words w v B' ss := ⟨h.1, by
  rcases h.2 with hn | ⟨g, cap, cur, hv, hbg, rest⟩
  · exact .inl hn
  · exact .inr ⟨g, cap, cur, hv, Nat.le_trans hb hbg, rest⟩⟩

set_option maxRecDepth 20000 in
set_option maxHeartbeats 4000000 in
theorem Put_nil (s : List UInt8) (w : World) :
    Calls Tryz.prog 99 #[.slice none 0 0, .string ⟨s.toArray⟩] w fun e w' => ∃ r, e = .returned r ∧ Words w' r w.heap.size [s] ∧ Below w.heap.size w w' := by
  obtain ⟨i0, hi, hz0, hz1, hz2⟩ := info_parts infoStr
  obtain ⟨W1, eW1⟩ : ∃ W1, w.alloc (.cells #[] 9) = W1 := ⟨_, rfl⟩
  have hB1 : Below w.heap.size w W1 := by rw [← eW1]; exact (Below.refl _ _).alloc (Nat.le_refl _) _
  have ho1 : W1.ownsRow w.heap.size 9 1 (.slice (some ⟨w.heap.size, 0, none⟩) 0 0) 0 [] := by rw [← eW1]; exact World.ownsRow_lit w #[] 0 (Nat.le_refl _) (by decide) rfl
  obtain ⟨W2, eW2⟩ : ∃ W2, W1.alloc (.cells #[] 9) = W2 := ⟨_, rfl⟩
  have hB2 : Below w.heap.size w W2 := by rw [← eW2]; exact hB1.alloc hB1.size _
  have ho2 : W2.ownsRow w.heap.size 9 1 (.slice (some ⟨W1.heap.size, 0, none⟩) 0 0) 0 [] := by rw [← eW2]; exact World.ownsRow_lit W1 #[] 0 hB1.size (by decide) rfl
  have ho3 := World.ownsRow.alloc ho2 (.cells #[.string ⟨s.toArray⟩] 9)
  have hB3 := hB2.alloc hB2.size (.cells #[.string ⟨s.toArray⟩] 9)
  go_enter Tryz.func99, Tryz.ntmps99
  go_wp2_with fail
  go_loopg [5] 0 (fun kx s5 wr => s5 = .int .i64 0 ∧ wr = w)
  case atStart => exact ⟨rfl, rfl⟩
  case round =>
    obtain ⟨rfl, ew⟩ := hrel
    rw [ew]
    clear ew
    go_wp2_with (first | (at_builtin; have hq := ho1; refine wpList_append_own_none rfl _ _ 25 rfl w.heap.size 9 i0 1 Tryz.underlying25 hi _ 0 [] rfl ho1 rfl ?_; clear ho1) | (at_builtin; have hq := ho2; refine wpList_append_own_none rfl _ _ 25 rfl w.heap.size 9 i0 1 Tryz.underlying25 hi _ 0 [] rfl ho2 rfl ?_; clear ho2) | (at_builtin; have hq := ho3; refine wpList_append_own _ rfl _ _ 25 rfl w.heap.size 9 i0 _ 1 16 Tryz.underlying25 hi hz0 hz1 hz2 rfl (by decide) _ 0 [] rfl ho3 ⟨W2.heap.size, 0, none⟩ 1 1 [.string ⟨s.toArray⟩] rfl rfl (cell_one_new _ _ _) (by simp [Value.oneCell']) (by decide) (by decide) hB3.size ?_; intro v4 w4 hown4 hg4 _; have hB4 := hB3.grown hg4 hB3.size (fun k hk => (World.ownsRow.lt ho3 k hk).1); clear ho3; go_frame) | (at_builtin; refine wpList_append_own _ rfl _ _ 25 rfl w.heap.size 9 i0 _ 1 16 Tryz.underlying25 hi hz0 hz1 hz2 rfl (by decide) _ (0 + 1) _ rfl hown4 ⟨w.heap.size, 0, none⟩ 0 0 [] rfl rfl (fun j u hu => by simp at hu) (by simp) (by decide) (by decide) hB4.size ?_; intro v5 w5 hown5 hg5 _))
    go_ret
    have hB5 := hB4.grown hg5 hB4.size (fun k hk => (World.ownsRow.lt hown4 k hk).1)
    exact ⟨_, rfl, by unfold Words; simpa [wordsV] using hown5, hB5⟩

set_option maxRecDepth 20000 in
set_option maxHeartbeats 4000000 in
theorem Put_row (s : List UInt8) (ss : List (List UInt8)) (g n cap B : Nat) (w : World) (hn : ss.length = n) (h : Words w (.slice (some ⟨g, 0, none⟩) n cap) B ss) (hB : B ≤ w.heap.size) (hnc : n ≤ cap) (hat : RC.At 1 w g 0 (strRs ss)) (hs : n ≤ 1000000) :
    Calls Tryz.prog 99 #[.slice (some ⟨g, 0, none⟩) n cap, .string ⟨s.toArray⟩] w fun e w' => ∃ r, e = .returned r ∧ Words w' r B (put s ss) ∧ Below w.heap.size w w' := by
  obtain ⟨i0, hi, hz0, hz1, hz2⟩ := info_parts infoStr
  have HN := Lib.hid hn
  have HW := Lib.hid h
  have hnc' : (n : Int) ≤ (cap : Int) := by omega
  have hs' : (n : Int) ≤ 1000000 := by omega
  clear hn h
  go_enter Tryz.func99, Tryz.ntmps99
  go_wp2_with fail
  go_loopg [5] n (fun kx s5 wr => ∃ i : Nat, s5 = .int .i64 (i : Int) ∧ kx + i = n ∧ Hid (∀ j x, j < i → ss[j]? = some x → x < s) ∧ wr = w)
  case atStart => exact ⟨0, rfl, by omega, Lib.hid fun j x hj => absurd hj (Nat.not_lt_zero _), rfl⟩
  case round =>
    obtain ⟨i, rfl, hk, I, ew⟩ := hrel
    rw [ew]
    clear ew
    by_cases hlt : i < n
    · have hlt' : (i : Int) < (n : Int) := by omega
      have i0' : (0 : Int) ≤ (i : Int) := by omega
      obtain ⟨x, hx⟩ : ∃ x, ss[i]? = some x := ⟨_, List.getElem?_eq_getElem (by rw [HN.out]; exact hlt)⟩
      have c0 := str_cell hat hx
      rw [Nat.zero_add] at c0
      have HX := Lib.hid hx
      clear hx
      by_cases hxs : x < s
      · have hq : Op.bytesLess x s = true := by rw [bytesLess_eq]; exact decide_eq_true hxs
        have HI := Lib.hid (show ∀ j y, j < i + 1 → ss[j]? = some y → y < s from fun j y hj hy => by
          rcases Nat.lt_or_eq_of_le (Nat.le_of_lt_succ hj) with h | h
          · exact I.out j y h hy
          · rw [h, HX.out] at hy; cases hy; exact hxs)
        clear hxs
        go_wp2_with fail
        go_roundg (n - (i + 1))
        case measure => omega
        case rel => exact ⟨i + 1, by go_num, by omega, HI, rfl⟩
      · have hq : Op.bytesLess x s = false := by rw [bytesLess_eq]; exact decide_eq_false hxs
        have hpm := put_mid I.out HX.out hxs
        by_cases hes : x = s
        · have he1 : (x == s) = true := by simpa using hes
          rw [if_pos hes] at hpm
          have HPUT := Lib.hid hpm
          clear hxs hes hpm
          go_wp2_with fail
          go_ret
          exact ⟨_, rfl, by rw [HPUT.out]; exact HW.out, Below.refl _ _⟩
        · have he1 : (x == s) = false := by simpa using hes
          rw [if_neg hes] at hpm
          have HPUT := Lib.hid hpm
          clear hxs hes hpm
          have HFR := Lib.hid (fun w' => str_from g 0 n cap i (by omega) hnc w')
          have HTO := Lib.hid (fun w' => str_to g 0 n cap i (by omega) w')
          obtain ⟨D, eD⟩ : ∃ D : Addr, (if cap = i then (⟨g, 0, none⟩ : Addr) else ⟨g, 0 + i, none⟩) = D := ⟨_, rfl⟩
          rw [eD] at HFR
          have HND := Lib.hid (fun (W : World) (hW : Below w.heap.size w W) => show ∀ j u, (wordsV (ss.drop i))[j]? = some u → W.cell? (D.add j) = some u by
            by_cases hc : cap = i
            · have : ss.drop i = [] := List.drop_eq_nil_of_le (by rw [HN.out]; omega)
              rw [this]
              intro j u hu
              simp [wordsV] at hu
            · rw [if_neg hc, Nat.zero_add] at eD
              rw [← eD]
              exact news_at (hat.on hW) (fun j x hx => by rw [List.getElem?_drop] at hx; exact hx))
          have HNT := Lib.hid (fun (W : World) (hW : Below w.heap.size w W) => show ∀ j u, (wordsV (ss.take i))[j]? = some u → W.cell? ((⟨g, 0, none⟩ : Addr).add j) = some u from news_at (hat.on hW) (fun j x hx => by
            rw [Nat.zero_add]
            rw [List.getElem?_take] at hx
            split at hx
            · exact hx
            · cases hx))
          have hld : (ss.drop i).length = n - i := by rw [List.length_drop, HN.out]
          have hlt2 : (ss.take i).length = i := by rw [List.length_take, HN.out]; omega
          have HLD := Lib.hid (show (wordsV (ss.drop i)).length = (n - i) * 1 by unfold wordsV; rw [List.length_map, hld, Nat.mul_one])
          have HLT := Lib.hid (show (wordsV (ss.take i)).length = i * 1 by unfold wordsV; rw [List.length_map, hlt2, Nat.mul_one])
          have HFIN := Lib.hid (show wordsV (put s ss) = wordsV (ss.take i) ++ [.string ⟨s.toArray⟩] ++ wordsV (ss.drop i) ∧ (put s ss).length = i + 1 + (n - i) by
            rw [HPUT.out]
            constructor
            · rw [wordsV_app]
              show _ ++ ([.string ⟨s.toArray⟩] ++ wordsV (ss.drop i)) = _
              rw [List.append_assoc]
            · rw [List.length_append, List.length_cons, hlt2, hld]; omega)
          obtain ⟨W1, eW1⟩ : ∃ W1, w.alloc (.cells #[] 9) = W1 := ⟨_, rfl⟩
          have hB1 : Below w.heap.size w W1 := by rw [← eW1]; exact (Below.refl _ _).alloc (Nat.le_refl _) _
          have ho1 : W1.ownsRow w.heap.size 9 1 (.slice (some ⟨w.heap.size, 0, none⟩) 0 0) 0 [] := by rw [← eW1]; exact World.ownsRow_lit w #[] 0 (Nat.le_refl _) (by decide) rfl
          have hkn : (i : Int) ≤ (n : Int) := by omega
          have hkk : (i : Int) ≤ 1000000 := by omega
          have hbd1 : (0 + (n - i)) ≤ maxLen := by unfold maxLen; omega
          have hbd2 : (0 + i) ≤ maxLen := by unfold maxLen; omega
          rw [if_neg (by omega : ¬ cap = i), Nat.zero_add] at eD
          subst eD
          clear hld hlt2 HPUT
          go_wp2_with (first | (at_builtin; have hq1 := hbd1; refine wpList_append_own _ rfl _ _ 25 rfl w.heap.size 9 i0 _ 1 16 Tryz.underlying25 hi hz0 hz1 hz2 rfl (by decide) _ 0 [] rfl ho1 ⟨g, i, none⟩ (n - i) (cap - i) (wordsV (ss.drop i)) rfl HLD.out (HND.out _ hB1) (wordsV_one _) hbd1 (by omega) hB1.size ?_; intro v5 w5 hown5 hg5 hn5; clear hbd1; obtain ⟨g5, c5, rfl⟩ : ∃ g c, v5 = .slice (some ⟨g, 0, none⟩) (n - i) c := (by
              rcases hown5.2 with ⟨h0, _⟩ | ⟨g, c, cur, h0, _⟩
              · have := (hn5.1 h0).1; cases this
              · exact ⟨g, c, by rw [h0, Nat.zero_add]⟩); have hB5 := hB1.grown hg5 hB1.size (fun k hk => (World.ownsRow.lt ho1 k hk).1); have ho6 : (w5.alloc (.cells #[] 9)).ownsRow w5.heap.size 9 1 (.slice (some ⟨w5.heap.size, 0, none⟩) 0 0) 0 [] := World.ownsRow_lit w5 #[] 0 (Nat.le_refl _) (by decide) rfl; have hB6 : Below w5.heap.size w5 (w5.alloc (.cells #[] 9)) := (Below.refl _ _).alloc (Nat.le_refl _) _; go_frame) | (at_builtin; have hq1 := hbd2; refine wpList_append_own _ rfl _ _ 25 rfl w5.heap.size 9 i0 _ 1 16 Tryz.underlying25 hi hz0 hz1 hz2 rfl (by decide) _ 0 [] rfl ho6 ⟨g, 0, none⟩ i cap (wordsV (ss.take i)) rfl HLT.out (HNT.out _ (hB5.trans (hB6.mono hB5.size))) (wordsV_one _) hbd2 (by omega) hB6.size ?_; intro v7 w7 hown7 hg7 _; clear hbd2; have hB7 := hB6.grown hg7 hB6.size (fun k hk => (World.ownsRow.lt ho6 k hk).1); have ho8 := World.ownsRow.alloc hown7 (.cells #[.string ⟨s.toArray⟩] 9); have hB8 := hB7.alloc hB7.size (.cells #[.string ⟨s.toArray⟩] 9); go_frame) | (at_builtin; have hq1 := ho8; refine wpList_append_own _ rfl _ _ 25 rfl w5.heap.size 9 i0 _ 1 16 Tryz.underlying25 hi hz0 hz1 hz2 rfl (by decide) _ (0 + i) _ rfl ho8 ⟨w7.heap.size, 0, none⟩ 1 1 [.string ⟨s.toArray⟩] rfl rfl (cell_one_new _ _ _) (by simp [Value.oneCell']) (by unfold maxLen; omega) (by omega) hB8.size ?_; intro v9 w9 hown9 hg9 _; have hB9 := hB8.grown hg9 hB8.size (fun k hk => (World.ownsRow.lt ho8 k hk).1); clear ho8; go_frame) | (at_builtin; refine wpList_append_own _ rfl _ _ 25 rfl w5.heap.size 9 i0 _ 1 16 Tryz.underlying25 hi hz0 hz1 hz2 rfl (by decide) _ (0 + i + 1) _ rfl hown9 ⟨g5, 0, none⟩ (n - i) c5 (wordsV (ss.drop i)) rfl HLD.out (rest_at hown5 hB9) (wordsV_one _) (by unfold maxLen; omega) (by omega) hB9.size ?_; intro v10 w10 hown10 hg10 _))
          go_ret
          have hB10 := hB9.grown hg10 hB9.size (fun k hk => (World.ownsRow.lt hown9 k hk).1)
          refine ⟨_, rfl, ?_, hB5.trans (hB10.mono hB5.size)⟩
          have e1 := HFIN.out.1
          have e2 := HFIN.out.2
          refine row_base ?_ (Nat.le_trans hB hB5.size)
          unfold Words
          rw [e1, e2]
          simpa [Nat.zero_add, List.append_assoc] using hown10
    · have hlt' : ¬ (i : Int) < (n : Int) := by omega
      obtain rfl : i = n := by omega
      have HPUT := Lib.hid (show put s ss = ss.take i ++ [s] by
        rw [put_end (fun j x hj hx => I.out j x (by rw [HN.out] at hj; exact hj) hx), List.take_of_length_le (by rw [HN.out]; exact Nat.le_refl _)])
      have HTO := Lib.hid (fun w' => str_to g 0 i cap i (by omega) w')
      have HNT := Lib.hid (fun (W : World) (hW : Below w.heap.size w W) => show ∀ j u, (wordsV (ss.take i))[j]? = some u → W.cell? ((⟨g, 0, none⟩ : Addr).add j) = some u from news_at (hat.on hW) (fun j x hx => by
        rw [Nat.zero_add]
        rw [List.getElem?_take] at hx
        split at hx
        · exact hx
        · cases hx))
      have hlt2 : (ss.take i).length = i := by rw [List.length_take, HN.out]; omega
      have HLT := Lib.hid (show (wordsV (ss.take i)).length = i * 1 by unfold wordsV; rw [List.length_map, hlt2, Nat.mul_one])
      have HFIN := Lib.hid (show wordsV (put s ss) = wordsV (ss.take i) ++ [.string ⟨s.toArray⟩] ++ [] ∧ (put s ss).length = i + 1 by
        rw [HPUT.out]
        constructor
        · rw [wordsV_app]
          rw [List.append_nil]; rfl
        · rw [List.length_append, hlt2]; rfl)
      obtain ⟨W1, eW1⟩ : ∃ W1, w.alloc (.cells #[] 9) = W1 := ⟨_, rfl⟩
      have hB1 : Below w.heap.size w W1 := by rw [← eW1]; exact (Below.refl _ _).alloc (Nat.le_refl _) _
      have ho1 : W1.ownsRow w.heap.size 9 1 (.slice (some ⟨w.heap.size, 0, none⟩) 0 0) 0 [] := by rw [← eW1]; exact World.ownsRow_lit w #[] 0 (Nat.le_refl _) (by decide) rfl
      have hkk : (i : Int) ≤ 1000000 := by omega
      have hbd1 : (0 : Nat) ≤ 0 := Nat.le_refl _
      have hbd2 : (0 + i) ≤ maxLen := by unfold maxLen; omega
      clear hlt2 HPUT
      by_cases hcn : cap = i
      all_goals
        go_wp2_with (first | (at_builtin; have hq1 := hbd1; refine wpList_append_own _ rfl _ _ 25 rfl w.heap.size 9 i0 _ 1 16 Tryz.underlying25 hi hz0 hz1 hz2 rfl (by decide) _ 0 [] rfl ho1 _ 0 _ [] rfl rfl (fun j u hu => by simp at hu) (by simp) (by decide) (by decide) hB1.size ?_; intro v5 w5 hown5 hg5 hn5; clear hbd1; obtain ⟨g5, c5, rfl⟩ : ∃ g c, v5 = .slice (some ⟨g, 0, none⟩) 0 c := (by
            rcases hown5.2 with ⟨h0, _⟩ | ⟨g, c, cur, h0, _⟩
            · have := (hn5.1 h0).1; cases this
            · exact ⟨g, c, h0⟩); have hB5 := hB1.grown hg5 hB1.size (fun k hk => (World.ownsRow.lt ho1 k hk).1); have ho6 : (w5.alloc (.cells #[] 9)).ownsRow w5.heap.size 9 1 (.slice (some ⟨w5.heap.size, 0, none⟩) 0 0) 0 [] := World.ownsRow_lit w5 #[] 0 (Nat.le_refl _) (by decide) rfl; have hB6 : Below w5.heap.size w5 (w5.alloc (.cells #[] 9)) := (Below.refl _ _).alloc (Nat.le_refl _) _; go_frame) | (at_builtin; have hq1 := hbd2; refine wpList_append_own _ rfl _ _ 25 rfl w5.heap.size 9 i0 _ 1 16 Tryz.underlying25 hi hz0 hz1 hz2 rfl (by decide) _ 0 [] rfl ho6 ⟨g, 0, none⟩ i _ (wordsV (ss.take i)) rfl HLT.out (HNT.out _ (hB5.trans (hB6.mono hB5.size))) (wordsV_one _) hbd2 (by omega) hB6.size ?_; intro v7 w7 hown7 hg7 _; clear hbd2; have hB7 := hB6.grown hg7 hB6.size (fun k hk => (World.ownsRow.lt ho6 k hk).1); have ho8 := World.ownsRow.alloc hown7 (.cells #[.string ⟨s.toArray⟩] 9); have hB8 := hB7.alloc hB7.size (.cells #[.string ⟨s.toArray⟩] 9); go_frame) | (at_builtin; have hq1 := ho8; refine wpList_append_own _ rfl _ _ 25 rfl w5.heap.size 9 i0 _ 1 16 Tryz.underlying25 hi hz0 hz1 hz2 rfl (by decide) _ (0 + i) _ rfl ho8 ⟨w7.heap.size, 0, none⟩ 1 1 [.string ⟨s.toArray⟩] rfl rfl (cell_one_new _ _ _) (by simp [Value.oneCell']) (by unfold maxLen; omega) (by omega) hB8.size ?_; intro v9 w9 hown9 hg9 _; have hB9 := hB8.grown hg9 hB8.size (fun k hk => (World.ownsRow.lt ho8 k hk).1); clear ho8; go_frame) | (at_builtin; refine wpList_append_own _ rfl _ _ 25 rfl w5.heap.size 9 i0 _ 1 16 Tryz.underlying25 hi hz0 hz1 hz2 rfl (by decide) _ (0 + i + 1) _ rfl hown9 ⟨g5, 0, none⟩ 0 c5 [] rfl rfl (fun j u hu => by simp at hu) (by simp) (by unfold maxLen; omega) (by omega) hB9.size ?_; intro v10 w10 hown10 hg10 _))
        go_ret
        have hB10 := hB9.grown hg10 hB9.size (fun k hk => (World.ownsRow.lt hown9 k hk).1)
        refine ⟨_, rfl, ?_, hB5.trans (hB10.mono hB5.size)⟩
        have e1 := HFIN.out.1
        have e2 := HFIN.out.2
        refine row_base ?_ (Nat.le_trans hB hB5.size)
        unfold Words
        rw [e1, e2]
        simpa [Nat.zero_add, List.append_assoc] using hown10

theorem Put_spec (s : List UInt8) (ss : List (List UInt8)) (v : Value) (B : Nat) (w : World) (h : Words w v B ss) (hB : B ≤ w.heap.size) (hs : ss.length ≤ 1000000) :
    Calls Tryz.prog 99 #[v, .string ⟨s.toArray⟩] w fun e w' => ∃ r, e = .returned r ∧ Words w' r B (put s ss) ∧ Below w.heap.size w w' := by
  by_cases hnil : v = .slice none 0 0
  · subst hnil
    have hss : ss = [] := by
      rcases h.2 with ⟨_, h0⟩ | ⟨g, cap, cur, he, _⟩
      · exact List.eq_nil_of_length_eq_zero h0
      · cases he
    subst hss
    refine (Put_nil s w).mono ?_
    rintro e w' ⟨r, rfl, hr, hb⟩
    exact ⟨r, rfl, row_base hr hB, hb⟩
  · obtain ⟨g, cap, rfl, hBg, hnc, hat⟩ := own_row_at h hnil
    exact Put_row s ss g ss.length cap B w rfl h hB hnc hat hs

end Go.Proofs.YtgaggpnlimchkaaGreatDoor.B10

namespace Go.Proofs.YtgaggpnlimchkaaGreatDoor.B10
open Go.Proofs.YtgaggpnlimchkaaGreatDoor.P1 Go.Proofs.YtgaggpnlimchkaaGreatDoor.B1 Go.Proofs.YtgaggpnlimchkaaGreatDoor.B2 Go.Proofs.YtgaggpnlimchkaaGreatDoor.T1 Go.Proofs.YtgaggpnlimchkaaGreatDoor.BT Go.Proofs.YtgaggpnlimchkaaGreatDoor.P5 Go.Proofs.YtgaggpnlimchkaaGreatDoor.B5 Go.Proofs.YtgaggpnlimchkaaGreatDoor.P6 Go.Proofs.YtgaggpnlimchkaaGreatDoor.B6 Go.Proofs.YtgaggpnlimchkaaGreatDoor.D1 Go.Proofs.YtgaggpnlimchkaaGreatDoor.D2 Go.Proofs.YtgaggpnlimchkaaGreatDoor.D5 Go.Proofs.YtgaggpnlimchkaaGreatDoor.DB Go.Proofs.YtgaggpnlimchkaaGreatDoor.W8 Go.Proofs.YtgaggpnlimchkaaGreatDoor.RC Go.Proofs.YtgaggpnlimchkaaGreatDoor.RI Go.Proofs.YtgaggpnlimchkaaGreatDoor.P10
open Go.ChangeShapes Go.WideShapes Go.ChangeAt Go.RowKit
set_option linter.unusedVariables false

theorem own_onlyA {w w' : World} {B e size n c : Nat} {v : Value} {xs : List Value} (h : w.ownsRow B e size v n xs) (ho : Only c w w') (hc : c < B) : w'.ownsRow B e size v n xs := by
  have hne : v.ownBlock ≠ some c := fun e0 => by
    have := (World.ownsRow.lt h c e0).1
    omega
  exact h.kept (row := some c) ⟨ho.os, ho.tape, ho.output, ho.size, fun k hk hn => ho.block k (fun e0 => hn (by rw [e0])) hk⟩ (Or.inr hne)

theorem own_otherA {w w' : World} {B e size n b : Nat} {v : Value} {xs : List Value} (h : w.ownsRow B e size v n xs) (ho : Only b w w') (hne : some b ≠ v.ownBlock) : w'.ownsRow B e size v n xs :=
  h.kept (row := some b) ⟨ho.os, ho.tape, ho.output, ho.size, fun k hk hn => ho.block k (fun e0 => hn (by rw [e0])) hk⟩ (Or.inr (Ne.symm hne))

/-- Some texts of the call's own. -/
def DrawnBs (m : Nat) (c : Nat) (a : Option Addr) (len cap : Nat) (w : World) (e : Ending) (w' : World) : Prop :=
  ∃ v ss, e = .returned v ∧ Words w' v w.heap.size ss ∧ (∀ s ∈ ss, s.length ≤ 100) ∧ ss.length ≤ m ∧ Cur w' c a len cap ∧ Only c w w'

theorem put_len (s : List UInt8) : ∀ (l : List (List UInt8)), (put s l).length ≤ l.length + 1
  | [] => by simp [put]
  | y :: r => by
    unfold put
    split
    · have := put_len s r; simp; omega
    · split <;> simp

theorem words_shapeA {w : World} {v : Value} {B : Nat} {ss : List (List UInt8)} (h : Words w v B ss) : ∃ a c, v = .slice a ss.length c := by
  rcases h.2 with ⟨rfl, h0⟩ | ⟨g, cap, cur, rfl, _⟩
  · exact ⟨none, 0, by rw [h0]⟩
  · exact ⟨_, _, rfl⟩

def badgeWords : List (List UInt8) := [[111, 110], [114, 101, 100], [117, 112]]

/-- A text picked out of some. -/
theorem picked {W : World} {b K : Nat} {ls : List (List UInt8)} (h : LBlk W b (wordsV ls)) (hK : K < ls.length) : ∃ s, s ∈ ls ∧ W.cell? ⟨b, K, none⟩ = some (.string ⟨s.toArray⟩) :=
  ⟨ls[K], List.getElem_mem hK, (h.2 K _ (by unfold wordsV; rw [List.getElem?_map, List.getElem?_eq_getElem hK]; rfl)).1⟩

set_option maxRecDepth 20000 in
set_option maxHeartbeats 4000000 in
theorem DrawBadges_draw (w : World) (c : Nat) (a : Option Addr) (len cap : Nat) (M : Nat) (hM0 : 1 ≤ M) (hM1 : M ≤ 10) (h : Cur w c a len cap) :
    Calls Tryz.prog 78 #[.pointer (some ⟨c, 0, none⟩), .int .i64 (M : Int)] w (DrawnBs M c a len cap w) := by
  have hF1 := (Fr.refl h).alloc (.cells #[] 9)
  have hcw := h.lt
  have ho1 : (w.alloc (.cells #[] 9)).ownsRow w.heap.size 9 1 (.slice (some ⟨w.heap.size, 0, none⟩) 0 0) 0 [] := World.ownsRow_lit w #[] 0 (Nat.le_refl _) (by decide) rfl
  clear h
  go_enter Tryz.func78, Tryz.ntmps78
  go_wp2_with fail
  refine (Below_draw _ c a len cap (M : Int) hF1.cur).mono ?_
  rintro e w2 ⟨x, ⟨hx0, hx1, _⟩, rfl, hc2, hon2⟩
  have hx1' := hx1 (by omega)
  obtain ⟨N, rfl⟩ : ∃ N : Nat, x = (N : Int) := ⟨x.toNat, by omega⟩
  have hF2 := hF1.call hc2 hon2
  have ho2 : Words w2 (.slice (some ⟨w.heap.size, 0, none⟩) 0 0) w.heap.size [] := own_onlyA ho1 hon2 hcw
  have hN : N < M := by omega
  clear hF1 hc2 hon2 ho1 hx0 hx1 hx1'
  go_wp2_with fail
  go_loopg [5, 6] N (fun kx s5 s6 wr => ∃ (k : Nat) (ss : List (List UInt8)), s6 = .int .i64 (k : Int) ∧ k ≤ kx ∧ ss.length + k ≤ M ∧ Words wr s5 w.heap.size ss ∧ Hid (∀ s ∈ ss, s.length ≤ 100) ∧ Fr c a len cap w wr)
  case atStart => exact ⟨N, [], rfl, Nat.le_refl _, by simp; omega, ho2, Lib.hid (fun s hs => by cases hs), hF2⟩
  case round =>
    obtain ⟨k, ss, rfl, hkk, hlen, hown, HS, hF⟩ := hrel
    clear ho2 hF2
    by_cases hk0 : k = 0
    · subst hk0
      go_wp2_with fail
      go_ret
      exact ⟨_, ss, rfl, hown, HS.out, by omega, hF.cur, hF.only⟩
    · have hk1 : 0 < k := by omega
      have hFa := hF.alloc (.cells #[.string ⟨#[111, 110]⟩, .string ⟨#[114, 101, 100]⟩, .string ⟨#[117, 112]⟩] 9)
      have hla : LBlk (wr.alloc (.cells #[.string ⟨#[111, 110]⟩, .string ⟨#[114, 101, 100]⟩, .string ⟨#[117, 112]⟩] 9)) wr.heap.size (wordsV badgeWords) := LBlk.new wr (wordsV badgeWords) 9
      have hcr : wr.heap.size ≠ c := Nat.ne_of_gt hF.cur.lt
      have howna := World.ownsRow.alloc hown (.cells #[.string ⟨#[111, 110]⟩, .string ⟨#[114, 101, 100]⟩, .string ⟨#[117, 112]⟩] 9)
      obtain ⟨a5, c5, rfl⟩ := words_shapeA hown
      clear hown
      go_wp2_with fail
      refine (Below_draw _ c a len cap 3 hFa.cur).mono ?_
      rintro e w3 ⟨l, ⟨hl0, hl1, _⟩, rfl, hc3, hon3⟩
      have hl1' := hl1 (by omega)
      obtain ⟨K, rfl⟩ : ∃ K : Nat, l = (K : Int) := ⟨l.toNat, by omega⟩
      have hF3 := hFa.call hc3 hon3
      have hown3 := own_onlyA howna hon3 hcw
      obtain ⟨s, hsm, cs⟩ := picked (hla.only hon3 hcr) (K := K) (by show K < 3; omega)
      have hs100 : s.length ≤ 100 := by
        have : ∀ x ∈ badgeWords, x.length ≤ 100 := by decide
        exact this s hsm
      have HP := Lib.hid (Put_spec s ss _ w.heap.size w3 hown3 (by have := hF3.only.size; omega) (by omega))
      have hK3 : (K : Int) < 3 := by omega
      have hK0 : (0 : Int) ≤ (K : Int) := by omega
      clear hF hFa hla hcr howna hc3 hon3 hl0 hl1 hl1' hsm
      go_wp2_with (go_at_call 99; refine HP.out.mono ?_; rintro e w4 ⟨r, rfl, hr, g4⟩; go_frame)
      go_roundg (k - 1)
      case measure => omega
      case rel => exact ⟨k - 1, put s ss, by go_num, by omega, by have := put_len s ss; omega, hr, Lib.hid (fun x hx => by
        rcases (put_mem s x ss).1 hx with rfl | hx
        · exact hs100
        · exact HS.out x hx), fr_below hF3 g4⟩

end Go.Proofs.YtgaggpnlimchkaaGreatDoor.B10

namespace Go.Proofs.YtgaggpnlimchkaaGreatDoor.B10
open Go.Proofs.YtgaggpnlimchkaaGreatDoor.P1 Go.Proofs.YtgaggpnlimchkaaGreatDoor.B1 Go.Proofs.YtgaggpnlimchkaaGreatDoor.B2 Go.Proofs.YtgaggpnlimchkaaGreatDoor.T1 Go.Proofs.YtgaggpnlimchkaaGreatDoor.BT Go.Proofs.YtgaggpnlimchkaaGreatDoor.P5 Go.Proofs.YtgaggpnlimchkaaGreatDoor.B5 Go.Proofs.YtgaggpnlimchkaaGreatDoor.P6 Go.Proofs.YtgaggpnlimchkaaGreatDoor.B6 Go.Proofs.YtgaggpnlimchkaaGreatDoor.D1 Go.Proofs.YtgaggpnlimchkaaGreatDoor.D2 Go.Proofs.YtgaggpnlimchkaaGreatDoor.D5 Go.Proofs.YtgaggpnlimchkaaGreatDoor.DB Go.Proofs.YtgaggpnlimchkaaGreatDoor.W8 Go.Proofs.YtgaggpnlimchkaaGreatDoor.RC Go.Proofs.YtgaggpnlimchkaaGreatDoor.RI Go.Proofs.YtgaggpnlimchkaaGreatDoor.P10
open Go.ChangeShapes Go.WideShapes Go.ChangeAt Go.RowKit
set_option linter.unusedVariables false

/-- A part as a draw makes it. -/
def PtD (p : Pt) : Prop := p.tag.length ≤ 100 ∧ p.id.length ≤ 100 ∧ p.bs.length ≤ 10 ∧ ∀ s ∈ p.bs, s.length ≤ 100

/-- Parts of the call's own, with badges of the call's own. -/
structure OwnP (B : Nat) (v : Value) (xs : List Pv) (W : World) : Prop where
  own : W.ownsRow B 47 4 v xs.length (ptRs xs).flatten
  hs : ∀ x ∈ xs, Words W x.u B x.p.bs
  ok : ∀ x ∈ xs, PtD x.p

theorem OwnP.slc {B : Nat} {v : Value} {xs : List Pv} {W : World} (h : OwnP B v xs W) : PtSlc W v xs := by
  have : RC.Own 47 4 W v B (ptRs xs) := ⟨by rw [ptRs_len]; exact h.own, ptRs_four xs⟩
  exact ⟨this.val.slc, fun x hx => Words.slc (h.hs x hx)⟩

theorem OwnP.call {B c : Nat} {v : Value} {xs : List Pv} {W W' : World} (h : OwnP B v xs W) (ho : Only c W W') (hc : c < B) : OwnP B v xs W' :=
  ⟨own_onlyA h.own ho hc, fun x hx => own_onlyA (h.hs x hx) ho hc, h.ok⟩

theorem OwnP.on {B : Nat} {v : Value} {xs : List Pv} {W W' : World} (h : OwnP B v xs W) (hb : Below W.heap.size W W') : OwnP B v xs W' :=
  ⟨own_below h.own hb, fun x hx => own_below (h.hs x hx) hb, h.ok⟩

theorem OwnP.other {B b : Nat} {v : Value} {xs : List Pv} {W W' : World} (h : OwnP B v xs W) (ho : Only b W W') (h1 : some b ≠ v.ownBlock) (h2 : ∀ x ∈ xs, some b ≠ x.u.ownBlock) : OwnP B v xs W' :=
  ⟨own_otherA h.own ho h1, fun x hx => own_otherA (h.hs x hx) ho (h2 x hx), h.ok⟩

theorem own_new {w : World} {B e size k : Nat} {v : Value} {xs : List Value} (h : w.ownsRow B e size v k xs) {b : Nat} (hb : w.heap.size ≤ b) : some b ≠ v.ownBlock := by
  intro e'
  have := (World.ownsRow.lt h b e'.symm).2
  omega

/-- A row of texts and a row of parts lie apart. -/
theorem own_types {W : World} {B B' k m : Nat} {u v : Value} {xs ys : List Value} (h : W.ownsRow B 9 1 u k xs) (h' : W.ownsRow B' 47 4 v m ys) : u = .slice none 0 0 ∨ u.ownBlock ≠ v.ownBlock := by
  rcases h.2 with ⟨hu, _⟩ | ⟨g, cap, cur, rfl, _, hg, _⟩
  · exact Or.inl hu
  · refine Or.inr fun e => ?_
    rcases h'.2 with ⟨rfl, _⟩ | ⟨g', cap', cur', rfl, _, hg', _⟩
    · cases e
    · have e1 : g = g' := by
        have := Option.some.inj e
        exact this
      subst e1
      rw [hg] at hg'
      have := Option.some.inj hg'
      injection this with _ h2 _
      exact absurd h2 (by decide)

/-- Texts lie as they lay where a row of parts grows. -/
theorem words_grown {W W' : World} {B B' m : Nat} {u v : Value} {ss : List (List UInt8)} {ys : List Value} (h : Words W u B ss) (h' : W.ownsRow B' 47 4 v m ys) (hg : W.grownBy W' v.ownBlock) : Words W' u B ss := by
  rcases own_types h h' with hn | hn
  · exact h.kept hg (Or.inl (by rw [hn]; rfl))
  · exact h.kept hg (Or.inr hn)

/-- Between the parts of a draw: the part that is being made lies in block bp. -/
structure InP (c : Nat) (a : Option Addr) (len cap : Nat) (w : World) (bp : Nat) (v u : Value) (xs : List Pv) (ss : List (List UInt8)) (nr : Bool) (W : World) : Prop where
  fr : Fr c a len cap w W
  blk : ∃ tag id, tag.length ≤ 100 ∧ id.length ≤ 100 ∧ LBlk W bp [.string ⟨(tag : List UInt8).toArray⟩, .string ⟨(id : List UInt8).toArray⟩, u, .bool nr]
  bs : Words W u w.heap.size ss
  ps : OwnP w.heap.size v xs W
  lo : w.heap.size ≤ bp
  n1 : some bp ≠ u.ownBlock
  n2 : some bp ≠ v.ownBlock
  n3 : ∀ x ∈ xs, some bp ≠ x.u.ownBlock
  hc : c < w.heap.size
  okS : (∀ s ∈ ss, s.length ≤ 100) ∧ ss.length ≤ 10

theorem InP.call {c : Nat} {a : Option Addr} {len cap : Nat} {w : World} {bp : Nat} {v u : Value} {xs : List Pv} {ss : List (List UInt8)} {nr : Bool} {W W' : World} (h : InP c a len cap w bp v u xs ss nr W) (hc : Cur W' c a len cap) (ho : Only c W W') : InP c a len cap w bp v u xs ss nr W' := by
  obtain ⟨tag, id, h1, h2, hl⟩ := h.blk
  exact ⟨h.fr.call hc ho, ⟨tag, id, h1, h2, hl.only ho (by have := h.lo; have := h.hc; omega)⟩, own_onlyA h.bs ho h.hc, h.ps.call ho h.hc, h.lo, h.n1, h.n2, h.n3, h.hc, h.okS⟩

theorem InP.alloc {c : Nat} {a : Option Addr} {len cap : Nat} {w : World} {bp : Nat} {v u : Value} {xs : List Pv} {ss : List (List UInt8)} {nr : Bool} {W : World} (h : InP c a len cap w bp v u xs ss nr W) (o : Obj) : InP c a len cap w bp v u xs ss nr (W.alloc o) := by
  obtain ⟨tag, id, h1, h2, hl⟩ := h.blk
  exact ⟨h.fr.alloc o, ⟨tag, id, h1, h2, hl.alloc o⟩, World.ownsRow.alloc h.bs o, h.ps.on ((Below.refl _ _).alloc (Nat.le_refl _) _), h.lo, h.n1, h.n2, h.n3, h.hc, h.okS⟩

theorem only_set (W : World) (b o : Nat) (x : Value) : Only b W (W.setCell ⟨b, o, none⟩ x) := (Only.refl b W).setCell (p := ⟨b, o, none⟩) rfl x

theorem InP.tag {c : Nat} {a : Option Addr} {len cap : Nat} {w : World} {bp : Nat} {v u : Value} {xs : List Pv} {ss : List (List UInt8)} {nr : Bool} {W : World} (h : InP c a len cap w bp v u xs ss nr W) {s : List UInt8} (hs : s.length ≤ 100) : InP c a len cap w bp v u xs ss nr (W.setCell ⟨bp, 0, none⟩ (.string ⟨s.toArray⟩)) := by
  obtain ⟨tag, id, h1, h2, hl⟩ := h.blk
  have ho := only_set W bp 0 (.string ⟨s.toArray⟩)
  exact ⟨h.fr.set h.lo (by have := h.lo; have := h.hc; omega) 0 _, ⟨s, id, hs, h2, hl.set 0 _ (by simp)⟩, own_otherA h.bs ho h.n1, h.ps.other ho h.n2 h.n3, h.lo, h.n1, h.n2, h.n3, h.hc, h.okS⟩

theorem InP.ident {c : Nat} {a : Option Addr} {len cap : Nat} {w : World} {bp : Nat} {v u : Value} {xs : List Pv} {ss : List (List UInt8)} {nr : Bool} {W : World} (h : InP c a len cap w bp v u xs ss nr W) {s : List UInt8} (hs : s.length ≤ 100) : InP c a len cap w bp v u xs ss nr (W.setCell ⟨bp, 1, none⟩ (.string ⟨s.toArray⟩)) := by
  obtain ⟨tag, id, h1, h2, hl⟩ := h.blk
  have ho := only_set W bp 1 (.string ⟨s.toArray⟩)
  exact ⟨h.fr.set h.lo (by have := h.lo; have := h.hc; omega) 1 _, ⟨tag, s, h1, hs, hl.set 1 _ (by simp)⟩, own_otherA h.bs ho h.n1, h.ps.other ho h.n2 h.n3, h.lo, h.n1, h.n2, h.n3, h.hc, h.okS⟩

theorem InP.near {c : Nat} {a : Option Addr} {len cap : Nat} {w : World} {bp : Nat} {v u : Value} {xs : List Pv} {ss : List (List UInt8)} {nr : Bool} {W : World} (h : InP c a len cap w bp v u xs ss nr W) (q : Bool) : InP c a len cap w bp v u xs ss q (W.setCell ⟨bp, 3, none⟩ (.bool q)) := by
  obtain ⟨tag, id, h1, h2, hl⟩ := h.blk
  have ho := only_set W bp 3 (.bool q)
  exact ⟨h.fr.set h.lo (by have := h.lo; have := h.hc; omega) 3 _, ⟨tag, id, h1, h2, hl.set 3 _ (by simp)⟩, own_otherA h.bs ho h.n1, h.ps.other ho h.n2 h.n3, h.lo, h.n1, h.n2, h.n3, h.hc, h.okS⟩

theorem ownP_more {c : Nat} {a : Option Addr} {len cap : Nat} {w : World} {bp d : Nat} {v v7 u : Value} {xs : List Pv} {ss : List (List UInt8)} {nr : Bool} {W W7 : World} {t5 t6 : List UInt8} (hd : xs.length = d) (h : InP c a len cap w bp v u xs ss nr W) (hown : W7.ownsRow w.heap.size 47 4 v7 (d + 1) ((ptRs xs).flatten ++ [.string ⟨t5.toArray⟩, .string ⟨t6.toArray⟩, u, .bool nr])) (hg : W.grownBy W7 v.ownBlock) (h5 : t5.length ≤ 100) (h6 : t6.length ≤ 100) :
    OwnP w.heap.size v7 (xs ++ [⟨⟨t5, t6, ss, nr⟩, u⟩]) W7 := by
  refine ⟨?_, fun x hx => ?_, fun x hx => ?_⟩
  · have e : (ptRs (xs ++ [⟨⟨t5, t6, ss, nr⟩, u⟩])).flatten = (ptRs xs).flatten ++ [.string ⟨t5.toArray⟩, .string ⟨t6.toArray⟩, u, .bool nr] := by unfold ptRs; simp [ptL]
    rw [e, List.length_append, hd]
    exact hown
  · rcases List.mem_append.1 hx with hx | hx
    · exact words_grown (h.ps.hs x hx) h.ps.own hg
    · simp at hx
      subst hx
      exact words_grown h.bs h.ps.own hg
  · rcases List.mem_append.1 hx with hx | hx
    · exact h.ps.ok x hx
    · simp at hx
      subst hx
      exact ⟨h5, h6, h.okS.2, h.okS.1⟩

/-- Some parts of the call's own. -/
def DrawnP (m : Nat) (c : Nat) (a : Option Addr) (len cap : Nat) (w : World) (e : Ending) (w' : World) : Prop :=
  ∃ v xs, e = .returned v ∧ OwnP w.heap.size v xs w' ∧ xs.length ≤ m ∧ 1 ≤ xs.length ∧ Cur w' c a len cap ∧ Only c w w'

def tagWords : List (List UInt8) := [[98, 111, 120], [109, 97, 110], [115, 117, 110]]
def idWords : List (List UInt8) := [[97], [98]]

theorem infoPtD : (Tryz.prog.info? 47).map (fun i => (i.zero, i.size, i.bytes)) = some (some (.agg #[.string ⟨#[]⟩, .string ⟨#[]⟩, .slice none 0 0, .bool false]), 4, 64) := by kernel_rfl

theorem news_ofA {w : World} {b : Nat} {vs : List Value} (h : LBlk w b vs) : ∀ j u, vs[j]? = some u → w.cell? ((⟨b, 0, none⟩ : Addr).add j) = some u := fun j u hu => by
  rw [add_lit, Nat.zero_add]
  exact (h.2 j u hu).1

theorem news_ofS (W : World) (p : Addr) (x : Value) (vs : List Value) (T : TypeId) : ∀ j u, vs[j]? = some u → ((W.setCell p x).alloc (.cells vs.toArray T)).cell? ((⟨W.heap.size, 0, none⟩ : Addr).add j) = some u := by
  have h := LBlk.new (W.setCell p x) vs T
  rw [World.size_setCell] at h
  exact news_ofA h

theorem ownP_shape {B : Nat} {v : Value} {xs : List Pv} {W : World} (h : OwnP B v xs W) : ∃ a c, v = .slice a xs.length c := by
  rcases h.own.2 with ⟨rfl, h0⟩ | ⟨g, cap, cur, rfl, _⟩
  · exact ⟨none, 0, by rw [h0]⟩
  · exact ⟨_, _, rfl⟩

set_option maxRecDepth 20000 in
set_option maxHeartbeats 8000000 in
theorem Draw10_draw (w : World) (c : Nat) (a : Option Addr) (len cap : Nat) (h : Cur w c a len cap) :
    Calls Tryz.prog 91 #[.pointer (some ⟨c, 0, none⟩)] w (DrawnP 2 c a len cap w) := by
  obtain ⟨i0, hi, hz0, hz1, hz2⟩ := info_parts infoPtD
  have hF1 := (Fr.refl h).alloc (.cells #[] 47)
  have hcw := h.lt
  have ho1 : OwnP w.heap.size (.slice (some ⟨w.heap.size, 0, none⟩) 0 0) [] (w.alloc (.cells #[] 47)) := ⟨World.ownsRow_lit w #[] 0 (Nat.le_refl _) (by decide) rfl, fun x hx => (by cases hx), fun x hx => (by cases hx)⟩
  clear h
  go_enter Tryz.func91, Tryz.ntmps91
  go_wp2_with fail
  refine (Below_draw _ c a len cap 2 hF1.cur).mono ?_
  rintro e w2 ⟨x, ⟨hx0, hx1, _⟩, rfl, hc2, hon2⟩
  have hx1' := hx1 (by omega)
  obtain ⟨N, rfl⟩ : ∃ N : Nat, x = (N : Int) := ⟨x.toNat, by omega⟩
  have hF2 := hF1.call hc2 hon2
  have ho2 := ho1.call hon2 hcw
  have hN : N < 2 := by omega
  have hadd : IntKind.i64.wrap (1 + (N : Int)) = ((N + 1 : Nat) : Int) := by rw [IntKind.wrap_i64]; omega
  obtain ⟨N1, eN1⟩ : ∃ N1, N + 1 = N1 := ⟨_, rfl⟩
  rw [eN1] at hadd
  clear hF1 hc2 hon2 ho1 hx0 hx1 hx1'
  go_wp2_with fail
  go_loopg [3, 4] N1 (fun kx s3 s4 wr => ∃ (k : Nat) (xs : List Pv), s4 = .int .i64 (k : Int) ∧ k ≤ kx ∧ xs.length + k = N1 ∧ OwnP w.heap.size s3 xs wr ∧ Fr c a len cap w wr)
  case atStart => exact ⟨N1, [], rfl, Nat.le_refl _, by simp, ho2, hF2⟩
  case round =>
    obtain ⟨k, xs, rfl, hkk, hlen, hown, hF⟩ := hrel
    clear ho2 hF2
    by_cases hk0 : k = 0
    · subst hk0
      go_wp2_with fail
      go_ret
      exact ⟨_, xs, rfl, hown, by omega, by omega, hF.cur, hF.only⟩
    · have hk1 : 0 < k := by omega
      obtain ⟨a3, c3, rfl⟩ := ownP_shape hown
      obtain ⟨d, hd⟩ : ∃ d, xs.length = d := ⟨_, rfl⟩
      rw [hd] at hlen hown ⊢
      have HD := Lib.hid hd
      clear hd
      go_wp2_with fail
      refine (DrawBadges_draw _ c a len cap 2 (by decide) (by decide) hF.cur).mono ?_
      rintro e w3 ⟨u, ss, rfl, hu, hus, hul, hc3, hon3⟩
      have hF3 := hF.call hc3 hon3
      have hown3 := hown.call hon3 hcw
      have hu3 : Words w3 u w.heap.size ss := row_base hu hF.only.size
      obtain ⟨au, cu, rfl⟩ := words_shapeA hu3
      have hI : InP c a len cap w w3.heap.size (.slice a3 d c3) (.slice au ss.length cu) xs ss false (w3.alloc (.cells #[.string ⟨#[]⟩, .string ⟨#[]⟩, .slice au ss.length cu, .bool false] 47)) :=
        ⟨hF3.alloc _, ⟨[], [], by decide, by decide, LBlk.new w3 _ _⟩, World.ownsRow.alloc hu3 _, hown3.on ((Below.refl _ _).alloc (Nat.le_refl _) _), hF3.only.size, own_new hu3 (Nat.le_refl _), own_new hown3.own (Nat.le_refl _), fun x hx => own_new (hown3.hs x hx) (Nat.le_refl _), hcw, hus, by omega⟩
      clear hF hown hF3 hown3 hu hu3 hc3 hon3 hus hul
      obtain ⟨ns, hns⟩ : ∃ ns, ss.length = ns := ⟨_, rfl⟩
      rw [hns] at hI ⊢
      have HNS := Lib.hid hns
      clear hns
      generalize hbp : w3.heap.size = bp at hI
      go_wp2_with fail
      refine (Once_draw _ c a len cap 3 hI.fr.cur).mono ?_
      rintro e w5 ⟨q, rfl, hc5, ho5⟩
      have hI5 := hI.call hc5 ho5
      clear hI ho5 hc5
      go_upto_if 19 with (fail)
      go_cut [] from 10 to 60 (fun wx => InP c a len cap w bp (.slice a3 d c3) (.slice au ns cu) xs ss false wx)
      case first =>
        cases q
        · have hIa := hI5.alloc (.cells #[.string ⟨#[98, 111, 120]⟩, .string ⟨#[109, 97, 110]⟩, .string ⟨#[115, 117, 110]⟩] 9)
          have hla : LBlk (w5.alloc (.cells #[.string ⟨#[98, 111, 120]⟩, .string ⟨#[109, 97, 110]⟩, .string ⟨#[115, 117, 110]⟩] 9)) w5.heap.size (wordsV tagWords) := LBlk.new w5 (wordsV tagWords) 9
          have hcr : w5.heap.size ≠ c := Nat.ne_of_gt hI5.fr.cur.lt
          go_wp2_with fail
          refine (Below_draw _ c a len cap 3 hIa.fr.cur).mono ?_
          rintro e w6 ⟨l, ⟨hl0, hl1, _⟩, rfl, hc6, hon6⟩
          have hl1' := hl1 (by omega)
          obtain ⟨K, rfl⟩ : ∃ K : Nat, l = (K : Int) := ⟨l.toNat, by omega⟩
          have hI6 := hIa.call hc6 hon6
          obtain ⟨s, hsm, cs⟩ := picked (hla.only hon6 hcr) (K := K) (by show K < 3; omega)
          have hs100 : s.length ≤ 100 := by
            have : ∀ x ∈ tagWords, x.length ≤ 100 := by decide
            exact this s hsm
          have hK3 : (K : Int) < 3 := by omega
          have hK0 : (0 : Int) ≤ (K : Int) := by omega
          obtain ⟨t1, t2, _, _, hf⟩ := hI6.blk
          obtain ⟨d0, f0⟩ := hf.2 0 _ rfl
          have hI7 := hI6.tag hs100
          clear hI5 hIa hla hcr hc6 hon6 hl0 hl1 hl1' hsm hI6 hf
          go_wp2_with fail
          go_meet
          exact hI7
        · go_wp2_with fail
          go_meet
          exact hI5
      case rest =>
        clear hI5
        go_wp2_with fail
        refine (Once_draw _ c a len cap 5 hcut.fr.cur).mono ?_
        rintro e w6 ⟨q2, rfl, hc6, ho6⟩
        have hI6 := hcut.call hc6 ho6
        clear hcut hc6 ho6
        go_upto_if 27 with (fail)
        go_cut [] from 10 to 60 (fun wx => InP c a len cap w bp (.slice a3 d c3) (.slice au ns cu) xs ss false wx)
        case first =>
          cases q2
          · go_wp2_with fail
            go_meet
            exact hI6
          · have hIa := hI6.alloc (.cells #[.string ⟨#[97]⟩, .string ⟨#[98]⟩] 9)
            have hla : LBlk (w6.alloc (.cells #[.string ⟨#[97]⟩, .string ⟨#[98]⟩] 9)) w6.heap.size (wordsV idWords) := LBlk.new w6 (wordsV idWords) 9
            have hcr : w6.heap.size ≠ c := Nat.ne_of_gt hI6.fr.cur.lt
            go_wp2_with fail
            refine (Below_draw _ c a len cap 2 hIa.fr.cur).mono ?_
            rintro e w7 ⟨l, ⟨hl0, hl1, _⟩, rfl, hc7, hon7⟩
            have hl1' := hl1 (by omega)
            obtain ⟨K, rfl⟩ : ∃ K : Nat, l = (K : Int) := ⟨l.toNat, by omega⟩
            have hI7 := hIa.call hc7 hon7
            obtain ⟨s, hsm, cs⟩ := picked (hla.only hon7 hcr) (K := K) (by show K < 2; omega)
            have hs100 : s.length ≤ 100 := by
              have : ∀ x ∈ idWords, x.length ≤ 100 := by decide
              exact this s hsm
            have hK3 : (K : Int) < 2 := by omega
            have hK0 : (0 : Int) ≤ (K : Int) := by omega
            obtain ⟨t1, t2, _, _, hf⟩ := hI7.blk
            obtain ⟨d1, f1⟩ := hf.2 1 _ rfl
            have hI8 := hI7.ident hs100
            clear hI6 hIa hla hcr hc7 hon7 hl0 hl1 hl1' hsm hI7 hf
            go_wp2_with fail
            go_meet
            exact hI8
        case rest =>
          clear hI6
          obtain ⟨t1, t2, ht1, ht2, hf⟩ := hcut.blk
          obtain ⟨d0, f0⟩ := hf.2 0 _ rfl
          obtain ⟨d1, f1⟩ := hf.2 1 _ rfl
          obtain ⟨d2, f2⟩ := hf.2 2 _ rfl
          have e1 : (t1 == []) = decide (t1 = []) := by cases t1 <;> rfl
          have e2 : (t2 == []) = decide (t2 = []) := by cases t2 <;> rfl
          go_upto_region 10 with (fail)
          go_cut [47] from 10 to 60 (fun s47 wx => (∃ q : Bool, s47 = .bool q) ∧ InP c a len cap w bp (.slice a3 d c3) (.slice au ns cu) xs ss false wx)
          case first =>
            by_cases h1 : t1 = []
            · rw [decide_eq_true h1] at e1
              by_cases h2 : t2 = []
              · rw [decide_eq_true h2] at e2
                clear h1 h2
                by_cases h3 : ns = 0
                · have h3' : ((ns : Int) == 0) = true := by simp [h3]
                  go_wp2_with fail
                  go_meet
                  exact ⟨⟨_, rfl⟩, hcut⟩
                · have h3' : ((ns : Int) == 0) = false := by simp [h3]
                  go_wp2_with fail
                  go_meet
                  exact ⟨⟨_, rfl⟩, hcut⟩
              · rw [decide_eq_false h2] at e2
                clear h1 h2
                go_wp2_with fail
                go_meet
                exact ⟨⟨_, rfl⟩, hcut⟩
            · rw [decide_eq_false h1] at e1
              clear h1
              go_wp2_with fail
              go_meet
              exact ⟨⟨_, rfl⟩, hcut⟩
          case rest =>
            clear d0 f0 d1 f1 d2 f2 e1 e2 hf
            obtain ⟨⟨q3, rfl⟩, hI9⟩ := hcut
            obtain ⟨r1, r2, hr1, hr2, hf9⟩ := hI9.blk
            obtain ⟨d0, f0⟩ := hf9.2 0 _ rfl
            have hI10 := hI9.tag (s := [98, 111, 120]) (by decide)
            go_upto_if 47 with (fail)
            go_cut [] from 10 to 60 (fun wx => InP c a len cap w bp (.slice a3 d c3) (.slice au ns cu) xs ss false wx)
            case first =>
              cases q3
              · go_wp2_with fail
                go_meet
                exact hI9
              · go_wp2_with fail
                go_meet
                exact hI10
            case rest =>
              clear hI10 hI9 d0 f0 hf9
              obtain ⟨t3, t4, ht3, ht4, hf⟩ := hcut.blk
              by_cases hd0 : d = 0
              · have hd0' : ¬ 0 < d := by omega
                clear hd0
                obtain ⟨d3, f3⟩ := hf.2 3 _ rfl
                have hI11 := hcut.near false
                clear hcut hf hr1 hr2
                obtain ⟨t5, t6, ht5, ht6, hf11⟩ := hI11.blk
                have HL11 := Lib.hid (load_blk (P := Tryz.prog) (ty := 47) hf11 pt_wide)
                go_wp2_with (first | ((with_reducible refine wp_load_at HL11.out ?_ ?_); exact And.intro rfl (And.intro rfl rfl)) | (at_builtin; go_loud (refine wpList_append_own _ rfl _ _ 41 rfl w.heap.size 47 i0 _ 4 64 Tryz.underlying41 hi hz0 hz1 hz2 rfl (by decide) _ d (ptRs xs).flatten rfl (by have := (hI11.alloc (.cells #[.string ⟨t5.toArray⟩, .string ⟨t6.toArray⟩, .slice au ns cu, .bool false] 47)).ps.own; rw [HD.out] at this; exact this) _ 1 1 [.string ⟨t5.toArray⟩, .string ⟨t6.toArray⟩, .slice au ns cu, .bool false] rfl rfl (news_ofS _ _ _ [.string ⟨t5.toArray⟩, .string ⟨t6.toArray⟩, .slice au ns cu, .bool false] 47) (by simp [Value.oneCell']) (by unfold maxLen; omega) (by omega) (hI11.alloc (.cells #[.string ⟨t5.toArray⟩, .string ⟨t6.toArray⟩, .slice au ns cu, .bool false] 47)).fr.only.size ?_; intro v7 w7 hown7 hgrow7 _)))
                go_roundg (k - 1)
                case measure => omega
                case rel =>
                  have hA := hI11.alloc (.cells #[.string ⟨t5.toArray⟩, .string ⟨t6.toArray⟩, .slice au ns cu, .bool false] 47)
                  exact ⟨k - 1, xs ++ [⟨⟨t5, t6, ss, false⟩, .slice au ns cu⟩], by go_num, by omega, by rw [List.length_append, HD.out]; simp; omega, ownP_more HD.out hA hown7 hgrow7 ht5 ht6, fr_grown hA.fr hcw hgrow7 (fun k' hk' => (World.ownsRow.lt hA.ps.own k' hk').1)⟩
              · have hd0' : 0 < d := by omega
                go_wp2_with fail
                refine (Once_draw _ c a len cap 2 hcut.fr.cur).mono ?_
                rintro e w9 ⟨nr, rfl, hc9, ho9⟩
                have hI9 := hcut.call hc9 ho9
                obtain ⟨d3, f3⟩ := (hf.only ho9 (by have := hI9.lo; have := hI9.hc; omega)).2 3 _ rfl
                have hI11 := hI9.near nr
                clear hcut hf hc9 ho9 hI9 hr1 hr2
                obtain ⟨t5, t6, ht5, ht6, hf11⟩ := hI11.blk
                have HL11 := Lib.hid (load_blk (P := Tryz.prog) (ty := 47) hf11 pt_wide)
                go_wp2_with (first | ((with_reducible refine wp_load_at HL11.out ?_ ?_); exact And.intro rfl (And.intro rfl rfl)) | (at_builtin; go_loud (refine wpList_append_own _ rfl _ _ 41 rfl w.heap.size 47 i0 _ 4 64 Tryz.underlying41 hi hz0 hz1 hz2 rfl (by decide) _ d (ptRs xs).flatten rfl (by have := (hI11.alloc (.cells #[.string ⟨t5.toArray⟩, .string ⟨t6.toArray⟩, .slice au ns cu, .bool nr] 47)).ps.own; rw [HD.out] at this; exact this) _ 1 1 [.string ⟨t5.toArray⟩, .string ⟨t6.toArray⟩, .slice au ns cu, .bool nr] rfl rfl (news_ofS _ _ _ [.string ⟨t5.toArray⟩, .string ⟨t6.toArray⟩, .slice au ns cu, .bool nr] 47) (by simp [Value.oneCell']) (by unfold maxLen; omega) (by omega) (hI11.alloc (.cells #[.string ⟨t5.toArray⟩, .string ⟨t6.toArray⟩, .slice au ns cu, .bool nr] 47)).fr.only.size ?_; intro v7 w7 hown7 hgrow7 _)))
                go_roundg (k - 1)
                case measure => omega
                case rel =>
                  have hA := hI11.alloc (.cells #[.string ⟨t5.toArray⟩, .string ⟨t6.toArray⟩, .slice au ns cu, .bool nr] 47)
                  exact ⟨k - 1, xs ++ [⟨⟨t5, t6, ss, nr⟩, .slice au ns cu⟩], by go_num, by omega, by rw [List.length_append, HD.out]; simp; omega, ownP_more HD.out hA hown7 hgrow7 ht5 ht6, fr_grown hA.fr hcw hgrow7 (fun k' hk' => (World.ownsRow.lt hA.ps.own k' hk').1)⟩

end Go.Proofs.YtgaggpnlimchkaaGreatDoor.B10

namespace Go.Proofs.YtgaggpnlimchkaaGreatDoor.B10
open Go.Proofs.YtgaggpnlimchkaaGreatDoor.P1 Go.Proofs.YtgaggpnlimchkaaGreatDoor.B1 Go.Proofs.YtgaggpnlimchkaaGreatDoor.B2 Go.Proofs.YtgaggpnlimchkaaGreatDoor.T1 Go.Proofs.YtgaggpnlimchkaaGreatDoor.BT Go.Proofs.YtgaggpnlimchkaaGreatDoor.P5 Go.Proofs.YtgaggpnlimchkaaGreatDoor.B5 Go.Proofs.YtgaggpnlimchkaaGreatDoor.P6 Go.Proofs.YtgaggpnlimchkaaGreatDoor.B6 Go.Proofs.YtgaggpnlimchkaaGreatDoor.D1 Go.Proofs.YtgaggpnlimchkaaGreatDoor.D2 Go.Proofs.YtgaggpnlimchkaaGreatDoor.D5 Go.Proofs.YtgaggpnlimchkaaGreatDoor.DB Go.Proofs.YtgaggpnlimchkaaGreatDoor.W8 Go.Proofs.YtgaggpnlimchkaaGreatDoor.RC Go.Proofs.YtgaggpnlimchkaaGreatDoor.RI Go.Proofs.YtgaggpnlimchkaaGreatDoor.P10
open Go.ChangeShapes Go.WideShapes Go.ChangeAt Go.RowKit
set_option linter.unusedVariables false

theorem ownP_form {B : Nat} {v : Value} {xs : List Pv} {W : World} (h : OwnP B v xs W) (h1 : 1 ≤ xs.length) : ∃ g c x rest, xs = x :: rest ∧ v = .slice (some ⟨g, 0, none⟩) xs.length c ∧ B ≤ g ∧ g < W.heap.size ∧ xs.length ≤ c := by
  rcases h.own.2 with ⟨_, h0⟩ | ⟨g, cap, cur, rfl, hb, hg, hc, _⟩
  · omega
  · cases xs with
    | nil => simp at h1
    | cons x rest => exact ⟨g, cap, x, rest, rfl, rfl, hb, (Array.getElem?_eq_some_iff.1 hg).1, hc⟩

theorem ownP_cell {B g d cap : Nat} {x : Pv} {rest : List Pv} {W : World} (h : OwnP B (.slice (some ⟨g, 0, none⟩) d cap) (x :: rest) W) (hd : (x :: rest).length = d) {j : Nat} {u : Value} (hu : (ptL x)[j]? = some u) : W.cell? ⟨g, j, none⟩ = some u ∧ W.frozen? ⟨g, j, none⟩ = false := by
  have ho := h.own
  rw [hd] at ho
  have hj : j < 4 := (List.getElem?_eq_some_iff.1 hu).1
  refine ⟨?_, ho.frozenAt j⟩
  rw [ho.cellAt j (by rw [List.length_cons] at hd; omega)]
  show (ptL x ++ (ptRs rest).flatten)[j]? = some u
  rw [List.getElem?_append_left hj]
  exact hu

theorem OwnP.put {B g d cap j : Nat} {u : Value} {x y : Pv} {rest : List Pv} {W : World} (h : OwnP B (.slice (some ⟨g, 0, none⟩) d cap) (x :: rest) W) (hd : (x :: rest).length = d) (hj : j < 4) (e : (ptL x).set j u = ptL y) (hy : Words (W.setCell ⟨g, j, none⟩ u) y.u B y.p.bs) (hok : PtD y.p) :
    OwnP B (.slice (some ⟨g, 0, none⟩) d cap) (y :: rest) (W.setCell ⟨g, j, none⟩ u) := by
  have ho := h.own
  rw [hd] at ho
  obtain ⟨h1, hg⟩ := ho.stored j u
  have ef : (ptRs (x :: rest)).flatten.set j u = (ptRs (y :: rest)).flatten := by
    show (ptL x ++ (ptRs rest).flatten).set j u = ptL y ++ (ptRs rest).flatten
    rw [List.set_append_left _ _ (by exact hj), e]
  rw [ef] at h1
  refine ⟨?_, fun z hz => ?_, fun z hz => ?_⟩
  · rw [show (y :: rest).length = d by rw [List.length_cons] at hd ⊢; exact hd]
    exact h1
  · rcases List.mem_cons.1 hz with rfl | hz
    · exact hy
    · exact words_grown (h.hs z (by simp [hz])) h.own hg
  · rcases List.mem_cons.1 hz with rfl | hz
    · exact hok
    · exact h.ok z (by simp [hz])

/-- The part's own badges lie where its row is written. -/
theorem OwnP.badges {B g d cap j : Nat} {u : Value} {x : Pv} {rest : List Pv} {W : World} (h : OwnP B (.slice (some ⟨g, 0, none⟩) d cap) (x :: rest) W) (hd : (x :: rest).length = d) : Words (W.setCell ⟨g, j, none⟩ u) x.u B x.p.bs := by
  have ho := h.own
  rw [hd] at ho
  exact words_grown (h.hs x (by simp)) h.own (ho.stored j u).2

/-- Twice the parts. -/
theorem ownP_twice {B d : Nat} {v v7 : Value} {xs : List Pv} {W W7 : World} (h : OwnP B v xs W) (hd : xs.length = d) (hown : W7.ownsRow B 47 4 v7 (d + d) ((ptRs xs).flatten ++ (ptRs xs).flatten)) (hg : W.grownBy W7 v.ownBlock) : OwnP B v7 (xs ++ xs) W7 := by
  refine ⟨?_, fun x hx => ?_, fun x hx => ?_⟩
  · have e : (ptRs (xs ++ xs)).flatten = (ptRs xs).flatten ++ (ptRs xs).flatten := by unfold ptRs; simp
    rw [e, List.length_append, hd]
    exact hown
  · have hx : x ∈ xs := by simpa using hx
    exact words_grown (h.hs x hx) h.own hg
  · exact h.ok x (by simpa using hx)

theorem ownP_base {w : World} {B B' e size n : Nat} {v : Value} {xs : List Value} (h : w.ownsRow B e size v n xs) (hb : B' ≤ B) : w.ownsRow B' e size v n xs :=
  ⟨h.1, h.2.imp id fun ⟨g, cap, cur, e1, h2, h3⟩ => ⟨g, cap, cur, e1, Nat.le_trans hb h2, h3⟩⟩

def anyTags : List (List UInt8) := [[], [65], [97, 98, 99, 100, 101, 102, 103, 104], [97, 98, 99, 100, 101, 102, 103, 104, 105]]

theorem ownP_one {B : Nat} {v : Value} {xs : List Pv} {W : World} (h : OwnP B v xs W) : ∀ u ∈ (ptRs xs).flatten, u.oneCell' = true := by
  intro u hu
  obtain ⟨r, hr, hur⟩ := List.mem_flatten.1 hu
  obtain ⟨x, hx, rfl⟩ := List.mem_map.1 hr
  exact List.all_eq_true.1 (ptL_one (Words.slc (h.hs x hx))) u hur

theorem wpList_twice {ops : Array Oper} {rest : List Oper} {o : Oper} {a : Act} {Q : Exit → Act → World → Prop} (hgd : o.guard = none) (s x : Operand) (t : TypeId)
    (ho : o.op = .call { callee := .builtin .append, args := #[s, x], argTypes := #[t, t] }) (ht : Tryz.prog.underlying t = some (.slice 47))
    {B g d k : Nat} {xs : List Pv} {w : World} (h : OwnP B (.slice (some ⟨g, 0, none⟩) d k) xs w) (hd : xs.length = d) (hd1 : 1 ≤ d) (hd2 : d ≤ 1000) (hB : B ≤ w.heap.size)
    (hs : a.eval s = .slice (some ⟨g, 0, none⟩) d k) (hx : a.eval x = .slice (some ⟨g, 0, none⟩) d k)
    (K : ∀ g' k' w', OwnP B (.slice (some ⟨g', 0, none⟩) (d + d) k') (xs ++ xs) w' → w.grownBy w' (some g) → B ≤ g' → wpList Tryz.prog ops Q rest (a.put o.dst (.slice (some ⟨g', 0, none⟩) (d + d) k')) w') : wpList Tryz.prog ops Q (o :: rest) a w := by
  obtain ⟨i0, hi, hz0, hz1, hz2⟩ := info_parts infoPtD
  have ho3 := h.own
  rw [hd] at ho3
  refine wpList_append_own w hgd s x t ho B 47 i0 _ 4 64 ht hi hz0 hz1 hz2 rfl (by decide) _ d (ptRs xs).flatten hs ho3 ⟨g, 0, none⟩ d k (ptRs xs).flatten hx ho3.1 (World.ownsRow.cells ho3 (g := g) rfl) (ownP_one h) (by unfold maxLen; omega) (by omega) hB ?_
  intro v7 w7 hown7 hg7 _
  have h8 := ownP_twice h hd hown7 hg7
  obtain ⟨g7, k7, x7, r7, e7, ev7, hB7, _, _⟩ := ownP_form h8 (by rw [List.length_append]; omega)
  rw [List.length_append, hd] at ev7
  subst ev7
  exact K g7 k7 w7 h8 hg7 hB7

set_option maxRecDepth 20000 in
set_option maxHeartbeats 8000000 in
theorem l10DrawAny_draw (w : World) (c : Nat) (a : Option Addr) (len cap : Nat) (h : Cur w c a len cap) :
    Calls Tryz.prog 58 #[.pointer (some ⟨c, 0, none⟩)] w (DrawnP 8 c a len cap w) := by
  obtain ⟨i0, hi, hz0, hz1, hz2⟩ := info_parts infoPtD
  have hcw := h.lt
  have hF0 := Fr.refl h
  clear h
  go_enter Tryz.func58, Tryz.ntmps58
  go_wp2_with fail
  refine (Draw10_draw _ c a len cap hF0.cur).mono ?_
  rintro e w1 ⟨v, xs, rfl, hown, hlen, hlen1, hc1, hon1⟩
  have hF1 := hF0.call hc1 hon1
  clear hF0 hc1 hon1
  obtain ⟨g, k, x, rest, rfl, rfl, hBg, hgs, hroom⟩ := ownP_form hown hlen1
  obtain ⟨d, hd⟩ : ∃ d, (x :: rest).length = d := ⟨_, rfl⟩
  rw [hd] at hown hlen hlen1 hroom ⊢
  have HD := Lib.hid hd
  clear hd
  go_wp2_with fail
  refine (Once_draw _ c a len cap 8 hF1.cur).mono ?_
  rintro e w2 ⟨q, rfl, hc2, hon2⟩
  have hF2 := hF1.call hc2 hon2
  have hown2 := hown.call hon2 hcw
  clear hF1 hc2 hon2 hown
  cases q
  · go_wp2_with fail
    go_ret
    exact ⟨_, x :: rest, rfl, hown2, by rw [HD.out]; omega, by rw [HD.out]; omega, hF2.cur, hF2.only⟩
  · go_wp2_with fail
    refine (Below_draw _ c a len cap 5 hF2.cur).mono ?_
    rintro e w3 ⟨z, hz, rfl, hc3, hon3⟩
    obtain ⟨Z, rfl, hZ⟩ := below_nat (m := 5) hz (by omega)
    have hF3 := hF2.call hc3 hon3
    have hown3 := hown2.call hon3 hcw
    have hgc : g ≠ c := by omega
    have hdc : (d : Int) ≤ (k : Int) := by omega
    have hd1 : (0 : Int) < (d : Int) := by omega
    clear hF2 hc3 hon3 hown2 hz
    rcases (show Z = 0 ∨ Z = 1 ∨ Z = 2 ∨ Z = 3 ∨ Z = 4 by omega) with rfl | rfl | rfl | rfl | rfl
    · obtain ⟨k3, f3⟩ := ownP_cell hown3 HD.out (j := 3) rfl
      go_wp2_with fail
      go_ret
      exact ⟨_, ⟨⟨x.p.tag, x.p.id, x.p.bs, true⟩, x.u⟩ :: rest, rfl, hown3.put HD.out (by decide) rfl (hown3.badges HD.out) (hown3.ok x (by simp)), by have := HD.out; simp at this ⊢; omega, by simp, (hF3.set hBg hgc 3 _).cur, (hF3.set hBg hgc 3 _).only⟩
    · have hFa := hF3.alloc (.cells (wordsV anyTags).toArray 9)
      have hla : LBlk (w3.alloc (.cells (wordsV anyTags).toArray 9)) w3.heap.size (wordsV anyTags) := LBlk.new w3 (wordsV anyTags) 9
      have hcr : w3.heap.size ≠ c := Nat.ne_of_gt hF3.cur.lt
      have howna := hown3.on ((Below.refl _ _).alloc (Nat.le_refl _) (.cells (wordsV anyTags).toArray 9))
      go_wp2_with fail
      refine (Below_draw _ c a len cap 4 hFa.cur).mono ?_
      rintro e w4 ⟨l, ⟨hl0, hl1, _⟩, rfl, hc4, hon4⟩
      have hl1' := hl1 (by omega)
      obtain ⟨K, rfl⟩ : ∃ K : Nat, l = (K : Int) := ⟨l.toNat, by omega⟩
      have hF4 := hFa.call hc4 hon4
      have hown4 := howna.call hon4 hcw
      obtain ⟨s, hsm, cs⟩ := picked (hla.only hon4 hcr) (K := K) (by show K < 4; omega)
      have hs100 : s.length ≤ 100 := by
        have : ∀ x ∈ anyTags, x.length ≤ 100 := by decide
        exact this s hsm
      have hK3 : (K : Int) < 4 := by omega
      have hK0 : (0 : Int) ≤ (K : Int) := by omega
      obtain ⟨k0, f0⟩ := ownP_cell hown4 HD.out (j := 0) rfl
      clear hF3 hFa hla hcr howna hc4 hon4 hl0 hl1 hl1' hsm hown3
      go_wp2_with fail
      go_ret
      exact ⟨_, ⟨⟨s, x.p.id, x.p.bs, x.p.near⟩, x.u⟩ :: rest, rfl, hown4.put HD.out (by decide) rfl (hown4.badges HD.out) ⟨hs100, (hown4.ok x (by simp)).2⟩, by have := HD.out; simp at this ⊢; omega, by simp, (hF4.set hBg hgc 0 _).cur, (hF4.set hBg hgc 0 _).only⟩
    · have hFa := hF3.alloc (.cells #[.string ⟨#[98]⟩, .string ⟨#[97]⟩] 9)
      have howna := hown3.on ((Below.refl _ _).alloc (Nat.le_refl _) (.cells #[.string ⟨#[98]⟩, .string ⟨#[97]⟩] 9))
      have hwa : Words (w3.alloc (.cells #[.string ⟨#[98]⟩, .string ⟨#[97]⟩] 9)) (.slice (some ⟨w3.heap.size, 0, none⟩) 2 2) w.heap.size [[98], [97]] := World.ownsRow_lit w3 #[.string ⟨#[98]⟩, .string ⟨#[97]⟩] 2 hF3.only.size (by decide) rfl
      obtain ⟨k2, f2⟩ := ownP_cell howna HD.out (j := 2) rfl
      clear hF3 hown3
      go_wp2_with fail
      go_ret
      exact ⟨_, ⟨⟨x.p.tag, x.p.id, [[98], [97]], x.p.near⟩, .slice (some ⟨w3.heap.size, 0, none⟩) 2 2⟩ :: rest, rfl, howna.put HD.out (by decide) rfl (words_grown hwa howna.own (by have ho := howna.own; rw [HD.out] at ho; exact (ho.stored 2 _).2)) ⟨(howna.ok x (by simp)).1, (howna.ok x (by simp)).2.1, by show 2 ≤ 10; decide, by intro s hs; simp at hs; rcases hs with rfl | rfl <;> decide⟩, by have := HD.out; simp at this ⊢; omega, by simp, (hFa.set hBg hgc 2 _).cur, (hFa.set hBg hgc 2 _).only⟩
    · have hd2 : d ≤ 1000 := by omega
      go_wp2_with (at_builtin; first
        | (refine wpList_twice rfl _ _ 41 rfl Tryz.underlying41 hown3 HD.out (by omega) hd2 hF3.only.size rfl rfl ?_
           intro g7 k7 w7 hown7 hgr7 hB7
           have hF7 := fr_grown hF3 hcw hgr7 (fun k' hk' => (World.ownsRow.lt hown3.own k' hk').1)
           have hl7 : (x :: rest ++ x :: rest).length = d + d := by rw [List.length_append, HD.out]
           obtain ⟨D, hD⟩ : ∃ D, d + d = D := ⟨_, rfl⟩
           obtain ⟨ys, hys⟩ : ∃ ys, x :: rest ++ x :: rest = ys := ⟨_, rfl⟩
           rw [hD] at hown7 hl7 ⊢
           rw [hys] at hown7 hl7
           have hD4 : 1 ≤ D ∧ D ≤ 4 := by omega
           have HD7 := Lib.hid hl7
           clear hD hys hl7)
        | (refine wpList_twice rfl _ _ 41 rfl Tryz.underlying41 hown7 HD7.out (by omega) (by omega) hF7.only.size rfl rfl ?_
           intro g8 k8 w8 hown8 hgr8 hB8
           have hF8 := fr_grown hF7 hcw hgr8 (fun k' hk' => (World.ownsRow.lt hown7.own k' hk').1)))
      go_ret
      exact ⟨_, ys ++ ys, rfl, hown8, by rw [List.length_append, HD7.out]; omega, by rw [List.length_append, HD7.out]; omega, hF8.cur, hF8.only⟩
    · obtain ⟨k0, f0⟩ := ownP_cell hown3 HD.out (j := 0) rfl
      obtain ⟨k1, f1⟩ := ownP_cell hown3 HD.out (j := 1) rfl
      obtain ⟨k2, f2⟩ := ownP_cell hown3 HD.out (j := 2) rfl
      obtain ⟨k3, f3⟩ := ownP_cell hown3 HD.out (j := 3) rfl
      have p1 := hown3.put (j := 0) (u := .string ⟨#[]⟩) (y := ⟨⟨[], x.p.id, x.p.bs, x.p.near⟩, x.u⟩) HD.out (by decide) rfl (hown3.badges HD.out) ⟨Nat.zero_le _, (hown3.ok x (by simp)).2⟩
      have p2 := p1.put (j := 1) (u := .string ⟨#[]⟩) (y := ⟨⟨[], [], x.p.bs, x.p.near⟩, x.u⟩) HD.out (by decide) rfl (p1.badges HD.out) ⟨Nat.zero_le _, Nat.zero_le _, (hown3.ok x (by simp)).2.2⟩
      have p3 := p2.put (j := 2) (u := .slice none 0 0) (y := ⟨⟨[], [], [], x.p.near⟩, .slice none 0 0⟩) HD.out (by decide) rfl (World.ownsRow_nil _ _ _ _) ⟨Nat.zero_le _, Nat.zero_le _, Nat.zero_le _, by simp⟩
      have p4 := p3.put (j := 3) (u := .bool false) (y := ⟨⟨[], [], [], false⟩, .slice none 0 0⟩) HD.out (by decide) rfl (p3.badges HD.out) ⟨Nat.zero_le _, Nat.zero_le _, Nat.zero_le _, by simp⟩
      have hF4 := (((hF3.set hBg hgc 0 (.string ⟨#[]⟩)).set hBg hgc 1 (.string ⟨#[]⟩)).set hBg hgc 2 (.slice none 0 0)).set hBg hgc 3 (.bool false)
      go_wp2_with fail
      go_ret
      exact ⟨_, _ :: rest, rfl, p4, by have := HD.out; simp at this ⊢; omega, by simp, hF4.cur, hF4.only⟩

/-- Some parts, as the draws give them to a law. -/
def GivenP (w : World) (e : Ending) (w' : World) : Prop := ∃ v xs, e = .returned v ∧ OwnP w.heap.size v xs w' ∧ xs.length ≤ 8 ∧ 1 ≤ xs.length ∧ Below w.heap.size w w'

end Go.Proofs.YtgaggpnlimchkaaGreatDoor.B10
