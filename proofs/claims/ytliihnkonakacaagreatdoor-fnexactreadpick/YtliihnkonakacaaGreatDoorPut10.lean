/- Chapter 10: the reference's l10Put. -/
import Derived.Test.YtliihnkonakacaaGreatDoorBase10b
import Derived.Laws.AppendOwnNone
namespace Go.Proofs.YtliihnkonakacaaGreatDoor.B10
open Go.Proofs.YtliihnkonakacaaGreatDoor.P1 Go.Proofs.YtliihnkonakacaaGreatDoor.B1 Go.Proofs.YtliihnkonakacaaGreatDoor.B2 Go.Proofs.YtliihnkonakacaaGreatDoor.T1 Go.Proofs.YtliihnkonakacaaGreatDoor.BT Go.Proofs.YtliihnkonakacaaGreatDoor.P5 Go.Proofs.YtliihnkonakacaaGreatDoor.B5 Go.Proofs.YtliihnkonakacaaGreatDoor.P6 Go.Proofs.YtliihnkonakacaaGreatDoor.B6 Go.Proofs.YtliihnkonakacaaGreatDoor.D1 Go.Proofs.YtliihnkonakacaaGreatDoor.W8 Go.Proofs.YtliihnkonakacaaGreatDoor.RC Go.Proofs.YtliihnkonakacaaGreatDoor.RI Go.Proofs.YtliihnkonakacaaGreatDoor.P10
open Go.ChangeShapes Go.WideShapes Go.ChangeAt Go.RowKit
set_option linter.unusedVariables false

theorem put_far {s : List UInt8} : ∀ {ss : List (List UInt8)} {k : Nat}, (∀ j x, j < k → ss[j]? = some x → x < s) → k ≤ ss.length → put s ss = ss.take k ++ put s (ss.drop k)
  | _, 0, _, _ => rfl
  | [], k + 1, _, hk => by simp at hk
  | x :: r, k + 1, h, hk => by
    have hx : x < s := h 0 x (by omega) rfl
    show (if x < s then x :: put s r else _) = _
    rw [if_pos hx, put_far (k := k) (fun j y hj hy => h (j + 1) y (by omega) hy) (by simp at hk; omega)]
    rfl

theorem put_end {s : List UInt8} {ss : List (List UInt8)} (h : ∀ j x, j < ss.length → ss[j]? = some x → x < s) : put s ss = ss ++ [s] := by
  rw [put_far h (Nat.le_refl _)]
  simp [put]

theorem put_mid {s x : List UInt8} {ss : List (List UInt8)} {k : Nat} (h : ∀ j x, j < k → ss[j]? = some x → x < s) (hx : ss[k]? = some x) (hn : ¬ x < s) : put s ss = if x = s then ss else ss.take k ++ s :: ss.drop k := by
  have hk := (List.getElem?_eq_some_iff.1 hx)
  obtain ⟨hk, e⟩ := hk
  rw [put_far h (by omega)]
  have ed : ss.drop k = x :: ss.drop (k + 1) := by rw [List.drop_eq_getElem_cons hk, e]
  rw [ed]
  show ss.take k ++ (if x < s then _ else if x = s then _ else _) = _
  rw [if_neg hn]
  split
  · rw [← ed, List.take_append_drop]
  · rfl

theorem str_to (g off L C K : Nat) (h : K ≤ C) (w : World) : (Instr.slice 35 (.slice (some ⟨g, off, none⟩) L C) none (some (.int .i64 (K : Int))) none).run Tryz.prog w = .ok (.slice (some ⟨g, off, none⟩) K C) w := by
  have z3 := Tryz.sizeOf9
  have h' : (K : Int) ≤ (C : Int) := by omega
  by_cases hC : C = 0
  · subst hC
    obtain rfl : K = 0 := by omega
    go_simp
  · go_simp

theorem str_from (g off L C K : Nat) (h : K ≤ L) (hC : L ≤ C) (w : World) : (Instr.slice 35 (.slice (some ⟨g, off, none⟩) L C) (some (.int .i64 (K : Int))) none none).run Tryz.prog w = .ok (.slice (some (if C = K then ⟨g, off, none⟩ else ⟨g, off + K, none⟩)) (L - K) (C - K)) w := by
  have z3 := Tryz.sizeOf9
  have h' : (K : Int) ≤ (L : Int) := by omega
  by_cases hne : C = K
  · subst hne
    obtain rfl : L = C := by omega
    go_simp
  · go_simp

theorem wordsV_one (l : List (List UInt8)) : ∀ u ∈ wordsV l, u.oneCell' = true := fun u hu => by
  obtain ⟨x, _, rfl⟩ := List.mem_map.1 hu
  rfl

/-- The cells of a stretch of a row of texts. -/
theorem news_at {W : World} {g : Nat} {ss : List (List UInt8)} {l : List (List UInt8)} {o : Nat} (h : RC.At 1 W g 0 (strRs ss)) (hl : ∀ j x, l[j]? = some x → ss[o + j]? = some x) : ∀ j u, (wordsV l)[j]? = some u → W.cell? ((⟨g, o, none⟩ : Addr).add j) = some u := fun j u hu => by
  unfold wordsV at hu
  rw [List.getElem?_map] at hu
  cases hx : l[j]? with
  | none => rw [hx] at hu; cases hu
  | some x =>
    rw [hx] at hu
    obtain rfl := Option.some.inj hu
    rw [W8.add_lit]
    have := str_cell h (hl j x hx)
    rwa [Nat.zero_add] at this

theorem own_row_at {w : World} {v : Value} {B : Nat} {ss : List (List UInt8)} (h : Words w v B ss) (hne : v ≠ .slice none 0 0) : ∃ g cap, v = .slice (some ⟨g, 0, none⟩) ss.length cap ∧ B ≤ g ∧ ss.length ≤ cap ∧ RC.At 1 w g 0 (strRs ss) := by
  rcases h.2 with ⟨hn, _⟩ | ⟨g, cap, cur, rfl, hB, hg, h1, h2, h3, h4⟩
  · exact absurd hn hne
  · refine ⟨g, cap, rfl, hB, h1, ⟨fun i r hr j u hu => ?_, (Array.getElem?_eq_some_iff.1 hg).1⟩⟩
    unfold strRs at hr
    rw [List.getElem?_map] at hr
    cases hx : ss[i]? with
    | none => rw [hx] at hr; cases hr
    | some x =>
      rw [hx] at hr
      obtain rfl := Option.some.inj hr
      have hj : j = 0 := by
        have := (List.getElem?_eq_some_iff.1 hu).1
        simp at this; exact this
      subst hj
      obtain rfl := Option.some.inj hu
      have hi : i < ss.length := (List.getElem?_eq_some_iff.1 hx).1
      have hw : (cur.toList.take (ss.length * 1))[i]? = some (.string ⟨x.toArray⟩) := by
        rw [h4]; unfold wordsV; rw [List.getElem?_map, hx]; rfl
      rw [Nat.mul_one, List.getElem?_take_of_lt hi] at hw
      rw [Nat.zero_add, Nat.mul_one, Nat.add_zero]
      simp only [World.cell?, hg]
      simpa using hw

theorem words_app {w : World} {v : Value} {B k : Nat} {l : List (List UInt8)} (hk : l.length = k) (h : w.ownsRow B 9 1 v k (wordsV l)) : Words w v B l := by
  unfold Words; rw [hk]; exact h

theorem wordsV_app (a b : List (List UInt8)) : wordsV (a ++ b) = wordsV a ++ wordsV b := by unfold wordsV; exact List.map_append

theorem rest_at {w5 W : World} {B m g c : Nat} {l : List Value} (h : w5.ownsRow B 9 1 (.slice (some ⟨g, 0, none⟩) m c) (0 + m) ([] ++ l)) (hb : Below w5.heap.size w5 W) : ∀ j u, l[j]? = some u → W.cell? ((⟨g, 0, none⟩ : Addr).add j) = some u := fun j u hu => by
  rcases h.2 with ⟨h0, _⟩ | ⟨g', cap, cur, h0, _, hg, h1, h2, h3, h4⟩
  · cases h0
  · injection h0 with h0 _ _
    injection h0 with h0
    injection h0 with h0 _ _
    subst h0
    have hj : j < l.length := (List.getElem?_eq_some_iff.1 hu).1
    have hl : l.length = m := by have := h.1; simpa using this
    have hlt : g < w5.heap.size := (Array.getElem?_eq_some_iff.1 hg).1
    rw [W8.add_lit, Nat.zero_add]
    rw [hb.cell (p := ⟨g, j, none⟩) hlt]
    have hw : (cur.toList.take ((0 + m) * 1))[j]? = some u := by rw [h4, List.nil_append]; exact hu
    rw [List.getElem?_take_of_lt (by omega)] at hw
    simp only [World.cell?, hg]
    simpa using hw

theorem row_base {w : World} {v : Value} {B B' : Nat} {ss : List (List UInt8)} (h : Words w v B ss) (hb : B' ≤ B) : Words w v B' ss := ⟨h.1, by
  rcases h.2 with hn | ⟨g, cap, cur, hv, hbg, rest⟩
  · exact .inl hn
  · exact .inr ⟨g, cap, cur, hv, Nat.le_trans hb hbg, rest⟩⟩

set_option maxRecDepth 20000 in
set_option maxHeartbeats 4000000 in
theorem Put_nil (s : List UInt8) (w : World) :
    Calls Tryz.prog 147 #[.slice none 0 0, .string ⟨s.toArray⟩] w fun e w' => ∃ r, e = .returned r ∧ Words w' r w.heap.size [s] ∧ Below w.heap.size w w' := by
  obtain ⟨i0, hi, hz0, hz1, hz2⟩ := info_parts infoStr
  obtain ⟨W1, eW1⟩ : ∃ W1, w.alloc (.cells #[] 9) = W1 := ⟨_, rfl⟩
  have hB1 : Below w.heap.size w W1 := by rw [← eW1]; exact (Below.refl _ _).alloc (Nat.le_refl _) _
  have ho1 : W1.ownsRow w.heap.size 9 1 (.slice (some ⟨w.heap.size, 0, none⟩) 0 0) 0 [] := by rw [← eW1]; exact World.ownsRow_lit w #[] 0 (Nat.le_refl _) (by decide) rfl
  obtain ⟨W2, eW2⟩ : ∃ W2, W1.alloc (.cells #[] 9) = W2 := ⟨_, rfl⟩
  have hB2 : Below w.heap.size w W2 := by rw [← eW2]; exact hB1.alloc hB1.size _
  have ho2 : W2.ownsRow w.heap.size 9 1 (.slice (some ⟨W1.heap.size, 0, none⟩) 0 0) 0 [] := by rw [← eW2]; exact World.ownsRow_lit W1 #[] 0 hB1.size (by decide) rfl
  have ho3 := World.ownsRow.alloc ho2 (.cells #[.string ⟨s.toArray⟩] 9)
  have hB3 := hB2.alloc hB2.size (.cells #[.string ⟨s.toArray⟩] 9)
  go_enter Tryz.func147, Tryz.ntmps147
  go_wp2_with fail
  go_loopg [5] 0 (fun kx s5 wr => s5 = .int .i64 0 ∧ wr = w)
  case atStart => exact ⟨rfl, rfl⟩
  case round =>
    obtain ⟨rfl, ew⟩ := hrel
    rw [ew]
    clear ew
    go_wp2_with (first | (at_builtin; have hq := ho1; refine wpList_append_own_none rfl _ _ 35 rfl w.heap.size 9 i0 1 Tryz.underlying35 hi _ 0 [] rfl ho1 rfl ?_; clear ho1) | (at_builtin; have hq := ho2; refine wpList_append_own_none rfl _ _ 35 rfl w.heap.size 9 i0 1 Tryz.underlying35 hi _ 0 [] rfl ho2 rfl ?_; clear ho2) | (at_builtin; have hq := ho3; refine wpList_append_own _ rfl _ _ 35 rfl w.heap.size 9 i0 _ 1 16 Tryz.underlying35 hi hz0 hz1 hz2 rfl (by decide) _ 0 [] rfl ho3 ⟨W2.heap.size, 0, none⟩ 1 1 [.string ⟨s.toArray⟩] rfl rfl (cell_one_new _ _ _) (by simp [Value.oneCell']) (by decide) (by decide) hB3.size ?_; intro v4 w4 hown4 hg4 _; have hB4 := hB3.grown hg4 hB3.size (fun k hk => (World.ownsRow.lt ho3 k hk).1); clear ho3; go_frame) | (at_builtin; refine wpList_append_own _ rfl _ _ 35 rfl w.heap.size 9 i0 _ 1 16 Tryz.underlying35 hi hz0 hz1 hz2 rfl (by decide) _ (0 + 1) _ rfl hown4 ⟨w.heap.size, 0, none⟩ 0 0 [] rfl rfl (fun j u hu => by simp at hu) (by simp) (by decide) (by decide) hB4.size ?_; intro v5 w5 hown5 hg5 _))
    go_ret
    have hB5 := hB4.grown hg5 hB4.size (fun k hk => (World.ownsRow.lt hown4 k hk).1)
    exact ⟨_, rfl, by unfold Words; simpa [wordsV] using hown5, hB5⟩

set_option maxRecDepth 20000 in
set_option maxHeartbeats 4000000 in
theorem Put_row (s : List UInt8) (ss : List (List UInt8)) (g n cap B : Nat) (w : World) (hn : ss.length = n) (h : Words w (.slice (some ⟨g, 0, none⟩) n cap) B ss) (hB : B ≤ w.heap.size) (hnc : n ≤ cap) (hat : RC.At 1 w g 0 (strRs ss)) (hs : n ≤ 1000000) :
    Calls Tryz.prog 147 #[.slice (some ⟨g, 0, none⟩) n cap, .string ⟨s.toArray⟩] w fun e w' => ∃ r, e = .returned r ∧ Words w' r B (put s ss) ∧ Below w.heap.size w w' := by
  obtain ⟨i0, hi, hz0, hz1, hz2⟩ := info_parts infoStr
  have HN := Lib.hid hn
  have HW := Lib.hid h
  have hnc' : (n : Int) ≤ (cap : Int) := by omega
  have hs' : (n : Int) ≤ 1000000 := by omega
  clear hn h
  go_enter Tryz.func147, Tryz.ntmps147
  go_wp2_with fail
  go_loopg [5] n (fun kx s5 wr => ∃ i : Nat, s5 = .int .i64 (i : Int) ∧ kx + i = n ∧ Hid (∀ j x, j < i → ss[j]? = some x → x < s) ∧ wr = w)
  case atStart => exact ⟨0, rfl, by omega, Lib.hid fun j x hj => absurd hj (Nat.not_lt_zero _), rfl⟩
  case round =>
    obtain ⟨i, rfl, hk, I, ew⟩ := hrel
    rw [ew]
    clear ew
    by_cases hlt : i < n
    · have hlt' : (i : Int) < (n : Int) := by omega
      have i0' : (0 : Int) ≤ (i : Int) := by omega
      obtain ⟨x, hx⟩ : ∃ x, ss[i]? = some x := ⟨_, List.getElem?_eq_getElem (by rw [HN.out]; exact hlt)⟩
      have c0 := str_cell hat hx
      rw [Nat.zero_add] at c0
      have HX := Lib.hid hx
      clear hx
      by_cases hxs : x < s
      · have hq : Op.bytesLess x s = true := by rw [bytesLess_eq]; exact decide_eq_true hxs
        have HI := Lib.hid (show ∀ j y, j < i + 1 → ss[j]? = some y → y < s from fun j y hj hy => by
          rcases Nat.lt_or_eq_of_le (Nat.le_of_lt_succ hj) with h | h
          · exact I.out j y h hy
          · rw [h, HX.out] at hy; cases hy; exact hxs)
        clear hxs
        go_wp2_with fail
        go_roundg (n - (i + 1))
        case measure => omega
        case rel => exact ⟨i + 1, by go_num, by omega, HI, rfl⟩
      · have hq : Op.bytesLess x s = false := by rw [bytesLess_eq]; exact decide_eq_false hxs
        have hpm := put_mid I.out HX.out hxs
        by_cases hes : x = s
        · have he1 : (x == s) = true := by simpa using hes
          rw [if_pos hes] at hpm
          have HPUT := Lib.hid hpm
          clear hxs hes hpm
          go_wp2_with fail
          go_ret
          exact ⟨_, rfl, by rw [HPUT.out]; exact HW.out, Below.refl _ _⟩
        · have he1 : (x == s) = false := by simpa using hes
          rw [if_neg hes] at hpm
          have HPUT := Lib.hid hpm
          clear hxs hes hpm
          have HFR := Lib.hid (fun w' => str_from g 0 n cap i (by omega) hnc w')
          have HTO := Lib.hid (fun w' => str_to g 0 n cap i (by omega) w')
          obtain ⟨D, eD⟩ : ∃ D : Addr, (if cap = i then (⟨g, 0, none⟩ : Addr) else ⟨g, 0 + i, none⟩) = D := ⟨_, rfl⟩
          rw [eD] at HFR
          have HND := Lib.hid (fun (W : World) (hW : Below w.heap.size w W) => show ∀ j u, (wordsV (ss.drop i))[j]? = some u → W.cell? (D.add j) = some u by
            by_cases hc : cap = i
            · have : ss.drop i = [] := List.drop_eq_nil_of_le (by rw [HN.out]; omega)
              rw [this]
              intro j u hu
              simp [wordsV] at hu
            · rw [if_neg hc, Nat.zero_add] at eD
              rw [← eD]
              exact news_at (hat.on hW) (fun j x hx => by rw [List.getElem?_drop] at hx; exact hx))
          have HNT := Lib.hid (fun (W : World) (hW : Below w.heap.size w W) => show ∀ j u, (wordsV (ss.take i))[j]? = some u → W.cell? ((⟨g, 0, none⟩ : Addr).add j) = some u from news_at (hat.on hW) (fun j x hx => by
            rw [Nat.zero_add]
            rw [List.getElem?_take] at hx
            split at hx
            · exact hx
            · cases hx))
          have hld : (ss.drop i).length = n - i := by rw [List.length_drop, HN.out]
          have hlt2 : (ss.take i).length = i := by rw [List.length_take, HN.out]; omega
          have HLD := Lib.hid (show (wordsV (ss.drop i)).length = (n - i) * 1 by unfold wordsV; rw [List.length_map, hld, Nat.mul_one])
          have HLT := Lib.hid (show (wordsV (ss.take i)).length = i * 1 by unfold wordsV; rw [List.length_map, hlt2, Nat.mul_one])
          have HFIN := Lib.hid (show wordsV (put s ss) = wordsV (ss.take i) ++ [.string ⟨s.toArray⟩] ++ wordsV (ss.drop i) ∧ (put s ss).length = i + 1 + (n - i) by
            rw [HPUT.out]
            constructor
            · rw [wordsV_app]
              show _ ++ ([.string ⟨s.toArray⟩] ++ wordsV (ss.drop i)) = _
              rw [List.append_assoc]
            · rw [List.length_append, List.length_cons, hlt2, hld]; omega)
          obtain ⟨W1, eW1⟩ : ∃ W1, w.alloc (.cells #[] 9) = W1 := ⟨_, rfl⟩
          have hB1 : Below w.heap.size w W1 := by rw [← eW1]; exact (Below.refl _ _).alloc (Nat.le_refl _) _
          have ho1 : W1.ownsRow w.heap.size 9 1 (.slice (some ⟨w.heap.size, 0, none⟩) 0 0) 0 [] := by rw [← eW1]; exact World.ownsRow_lit w #[] 0 (Nat.le_refl _) (by decide) rfl
          have hkn : (i : Int) ≤ (n : Int) := by omega
          have hkk : (i : Int) ≤ 1000000 := by omega
          have hbd1 : (0 + (n - i)) ≤ maxLen := by unfold maxLen; omega
          have hbd2 : (0 + i) ≤ maxLen := by unfold maxLen; omega
          rw [if_neg (by omega : ¬ cap = i), Nat.zero_add] at eD
          subst eD
          clear hld hlt2 HPUT
          go_wp2_with (first | (at_builtin; have hq1 := hbd1; refine wpList_append_own _ rfl _ _ 35 rfl w.heap.size 9 i0 _ 1 16 Tryz.underlying35 hi hz0 hz1 hz2 rfl (by decide) _ 0 [] rfl ho1 ⟨g, i, none⟩ (n - i) (cap - i) (wordsV (ss.drop i)) rfl HLD.out (HND.out _ hB1) (wordsV_one _) hbd1 (by omega) hB1.size ?_; intro v5 w5 hown5 hg5 hn5; clear hbd1; obtain ⟨g5, c5, rfl⟩ : ∃ g c, v5 = .slice (some ⟨g, 0, none⟩) (n - i) c := (by
              rcases hown5.2 with ⟨h0, _⟩ | ⟨g, c, cur, h0, _⟩
              · have := (hn5.1 h0).1; cases this
              · exact ⟨g, c, by rw [h0, Nat.zero_add]⟩); have hB5 := hB1.grown hg5 hB1.size (fun k hk => (World.ownsRow.lt ho1 k hk).1); have ho6 : (w5.alloc (.cells #[] 9)).ownsRow w5.heap.size 9 1 (.slice (some ⟨w5.heap.size, 0, none⟩) 0 0) 0 [] := World.ownsRow_lit w5 #[] 0 (Nat.le_refl _) (by decide) rfl; have hB6 : Below w5.heap.size w5 (w5.alloc (.cells #[] 9)) := (Below.refl _ _).alloc (Nat.le_refl _) _; go_frame) | (at_builtin; have hq1 := hbd2; refine wpList_append_own _ rfl _ _ 35 rfl w5.heap.size 9 i0 _ 1 16 Tryz.underlying35 hi hz0 hz1 hz2 rfl (by decide) _ 0 [] rfl ho6 ⟨g, 0, none⟩ i cap (wordsV (ss.take i)) rfl HLT.out (HNT.out _ (hB5.trans (hB6.mono hB5.size))) (wordsV_one _) hbd2 (by omega) hB6.size ?_; intro v7 w7 hown7 hg7 _; clear hbd2; have hB7 := hB6.grown hg7 hB6.size (fun k hk => (World.ownsRow.lt ho6 k hk).1); have ho8 := World.ownsRow.alloc hown7 (.cells #[.string ⟨s.toArray⟩] 9); have hB8 := hB7.alloc hB7.size (.cells #[.string ⟨s.toArray⟩] 9); go_frame) | (at_builtin; have hq1 := ho8; refine wpList_append_own _ rfl _ _ 35 rfl w5.heap.size 9 i0 _ 1 16 Tryz.underlying35 hi hz0 hz1 hz2 rfl (by decide) _ (0 + i) _ rfl ho8 ⟨w7.heap.size, 0, none⟩ 1 1 [.string ⟨s.toArray⟩] rfl rfl (cell_one_new _ _ _) (by simp [Value.oneCell']) (by unfold maxLen; omega) (by omega) hB8.size ?_; intro v9 w9 hown9 hg9 _; have hB9 := hB8.grown hg9 hB8.size (fun k hk => (World.ownsRow.lt ho8 k hk).1); clear ho8; go_frame) | (at_builtin; refine wpList_append_own _ rfl _ _ 35 rfl w5.heap.size 9 i0 _ 1 16 Tryz.underlying35 hi hz0 hz1 hz2 rfl (by decide) _ (0 + i + 1) _ rfl hown9 ⟨g5, 0, none⟩ (n - i) c5 (wordsV (ss.drop i)) rfl HLD.out (rest_at hown5 hB9) (wordsV_one _) (by unfold maxLen; omega) (by omega) hB9.size ?_; intro v10 w10 hown10 hg10 _))
          go_ret
          have hB10 := hB9.grown hg10 hB9.size (fun k hk => (World.ownsRow.lt hown9 k hk).1)
          refine ⟨_, rfl, ?_, hB5.trans (hB10.mono hB5.size)⟩
          have e1 := HFIN.out.1
          have e2 := HFIN.out.2
          refine row_base ?_ (Nat.le_trans hB hB5.size)
          unfold Words
          rw [e1, e2]
          simpa [Nat.zero_add, List.append_assoc] using hown10
    · have hlt' : ¬ (i : Int) < (n : Int) := by omega
      obtain rfl : i = n := by omega
      have HPUT := Lib.hid (show put s ss = ss.take i ++ [s] by
        rw [put_end (fun j x hj hx => I.out j x (by rw [HN.out] at hj; exact hj) hx), List.take_of_length_le (by rw [HN.out]; exact Nat.le_refl _)])
      have HTO := Lib.hid (fun w' => str_to g 0 i cap i (by omega) w')
      have HNT := Lib.hid (fun (W : World) (hW : Below w.heap.size w W) => show ∀ j u, (wordsV (ss.take i))[j]? = some u → W.cell? ((⟨g, 0, none⟩ : Addr).add j) = some u from news_at (hat.on hW) (fun j x hx => by
        rw [Nat.zero_add]
        rw [List.getElem?_take] at hx
        split at hx
        · exact hx
        · cases hx))
      have hlt2 : (ss.take i).length = i := by rw [List.length_take, HN.out]; omega
      have HLT := Lib.hid (show (wordsV (ss.take i)).length = i * 1 by unfold wordsV; rw [List.length_map, hlt2, Nat.mul_one])
      have HFIN := Lib.hid (show wordsV (put s ss) = wordsV (ss.take i) ++ [.string ⟨s.toArray⟩] ++ [] ∧ (put s ss).length = i + 1 by
        rw [HPUT.out]
        constructor
        · rw [wordsV_app]
          rw [List.append_nil]; rfl
        · rw [List.length_append, hlt2]; rfl)
      obtain ⟨W1, eW1⟩ : ∃ W1, w.alloc (.cells #[] 9) = W1 := ⟨_, rfl⟩
      have hB1 : Below w.heap.size w W1 := by rw [← eW1]; exact (Below.refl _ _).alloc (Nat.le_refl _) _
      have ho1 : W1.ownsRow w.heap.size 9 1 (.slice (some ⟨w.heap.size, 0, none⟩) 0 0) 0 [] := by rw [← eW1]; exact World.ownsRow_lit w #[] 0 (Nat.le_refl _) (by decide) rfl
      have hkk : (i : Int) ≤ 1000000 := by omega
      have hbd1 : (0 : Nat) ≤ 0 := Nat.le_refl _
      have hbd2 : (0 + i) ≤ maxLen := by unfold maxLen; omega
      clear hlt2 HPUT
      by_cases hcn : cap = i
      all_goals
        go_wp2_with (first | (at_builtin; have hq1 := hbd1; refine wpList_append_own _ rfl _ _ 35 rfl w.heap.size 9 i0 _ 1 16 Tryz.underlying35 hi hz0 hz1 hz2 rfl (by decide) _ 0 [] rfl ho1 _ 0 _ [] rfl rfl (fun j u hu => by simp at hu) (by simp) (by decide) (by decide) hB1.size ?_; intro v5 w5 hown5 hg5 hn5; clear hbd1; obtain ⟨g5, c5, rfl⟩ : ∃ g c, v5 = .slice (some ⟨g, 0, none⟩) 0 c := (by
            rcases hown5.2 with ⟨h0, _⟩ | ⟨g, c, cur, h0, _⟩
            · have := (hn5.1 h0).1; cases this
            · exact ⟨g, c, h0⟩); have hB5 := hB1.grown hg5 hB1.size (fun k hk => (World.ownsRow.lt ho1 k hk).1); have ho6 : (w5.alloc (.cells #[] 9)).ownsRow w5.heap.size 9 1 (.slice (some ⟨w5.heap.size, 0, none⟩) 0 0) 0 [] := World.ownsRow_lit w5 #[] 0 (Nat.le_refl _) (by decide) rfl; have hB6 : Below w5.heap.size w5 (w5.alloc (.cells #[] 9)) := (Below.refl _ _).alloc (Nat.le_refl _) _; go_frame) | (at_builtin; have hq1 := hbd2; refine wpList_append_own _ rfl _ _ 35 rfl w5.heap.size 9 i0 _ 1 16 Tryz.underlying35 hi hz0 hz1 hz2 rfl (by decide) _ 0 [] rfl ho6 ⟨g, 0, none⟩ i _ (wordsV (ss.take i)) rfl HLT.out (HNT.out _ (hB5.trans (hB6.mono hB5.size))) (wordsV_one _) hbd2 (by omega) hB6.size ?_; intro v7 w7 hown7 hg7 _; clear hbd2; have hB7 := hB6.grown hg7 hB6.size (fun k hk => (World.ownsRow.lt ho6 k hk).1); have ho8 := World.ownsRow.alloc hown7 (.cells #[.string ⟨s.toArray⟩] 9); have hB8 := hB7.alloc hB7.size (.cells #[.string ⟨s.toArray⟩] 9); go_frame) | (at_builtin; have hq1 := ho8; refine wpList_append_own _ rfl _ _ 35 rfl w5.heap.size 9 i0 _ 1 16 Tryz.underlying35 hi hz0 hz1 hz2 rfl (by decide) _ (0 + i) _ rfl ho8 ⟨w7.heap.size, 0, none⟩ 1 1 [.string ⟨s.toArray⟩] rfl rfl (cell_one_new _ _ _) (by simp [Value.oneCell']) (by unfold maxLen; omega) (by omega) hB8.size ?_; intro v9 w9 hown9 hg9 _; have hB9 := hB8.grown hg9 hB8.size (fun k hk => (World.ownsRow.lt ho8 k hk).1); clear ho8; go_frame) | (at_builtin; refine wpList_append_own _ rfl _ _ 35 rfl w5.heap.size 9 i0 _ 1 16 Tryz.underlying35 hi hz0 hz1 hz2 rfl (by decide) _ (0 + i + 1) _ rfl hown9 ⟨g5, 0, none⟩ 0 c5 [] rfl rfl (fun j u hu => by simp at hu) (by simp) (by unfold maxLen; omega) (by omega) hB9.size ?_; intro v10 w10 hown10 hg10 _))
        go_ret
        have hB10 := hB9.grown hg10 hB9.size (fun k hk => (World.ownsRow.lt hown9 k hk).1)
        refine ⟨_, rfl, ?_, hB5.trans (hB10.mono hB5.size)⟩
        have e1 := HFIN.out.1
        have e2 := HFIN.out.2
        refine row_base ?_ (Nat.le_trans hB hB5.size)
        unfold Words
        rw [e1, e2]
        simpa [Nat.zero_add, List.append_assoc] using hown10

theorem Put_spec (s : List UInt8) (ss : List (List UInt8)) (v : Value) (B : Nat) (w : World) (h : Words w v B ss) (hB : B ≤ w.heap.size) (hs : ss.length ≤ 1000000) :
    Calls Tryz.prog 147 #[v, .string ⟨s.toArray⟩] w fun e w' => ∃ r, e = .returned r ∧ Words w' r B (put s ss) ∧ Below w.heap.size w w' := by
  by_cases hnil : v = .slice none 0 0
  · subst hnil
    have hss : ss = [] := by
      rcases h.2 with ⟨_, h0⟩ | ⟨g, cap, cur, he, _⟩
      · exact List.eq_nil_of_length_eq_zero h0
      · cases he
    subst hss
    refine (Put_nil s w).mono ?_
    rintro e w' ⟨r, rfl, hr, hb⟩
    exact ⟨r, rfl, row_base hr hB, hb⟩
  · obtain ⟨g, cap, rfl, hBg, hnc, hat⟩ := own_row_at h hnil
    exact Put_row s ss g ss.length cap B w rfl h hB hnc hat hs

end Go.Proofs.YtliihnkonakacaaGreatDoor.B10
