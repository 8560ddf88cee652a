/- Chapter 9 of the reference: l9Read, ReadNotes. -/
import Derived.Test.YtliihnkonakacaaGreatDoorSpec9
namespace Go.Proofs.YtliihnkonakacaaGreatDoor.B9
open Go.Proofs.YtliihnkonakacaaGreatDoor.P1 Go.Proofs.YtliihnkonakacaaGreatDoor.B1 Go.Proofs.YtliihnkonakacaaGreatDoor.B2 Go.Proofs.YtliihnkonakacaaGreatDoor.T1 Go.Proofs.YtliihnkonakacaaGreatDoor.BT Go.Proofs.YtliihnkonakacaaGreatDoor.P5 Go.Proofs.YtliihnkonakacaaGreatDoor.P6 Go.Proofs.YtliihnkonakacaaGreatDoor.P8 Go.Proofs.YtliihnkonakacaaGreatDoor.P9 Go.Proofs.YtliihnkonakacaaGreatDoor.B5 Go.Proofs.YtliihnkonakacaaGreatDoor.B6 Go.Proofs.YtliihnkonakacaaGreatDoor.V6 Go.Proofs.YtliihnkonakacaaGreatDoor.B8 Go.Proofs.YtliihnkonakacaaGreatDoor.D1 Go.Proofs.YtliihnkonakacaaGreatDoor.W8 Go.Proofs.YtliihnkonakacaaGreatDoor.RC Go.Proofs.YtliihnkonakacaaGreatDoor.RI
open Go.ChangeShapes Go.WideShapes Go.ChangeAt Go.RowKit
set_option linter.unusedVariables false

theorem tok_sub (g off L C j i : Nat) (hj : j ≤ i) (hi : i ≤ L) (hC : L ≤ C) (w : World) : (Instr.slice 27 (.slice (some ⟨g, off, none⟩) L C) (some (.int .i64 (j : Int))) (some (.int .i64 (i : Int))) none).run Tryz.prog w = .ok (.slice (some (if C = j then ⟨g, off, none⟩ else ⟨g, off + j * 3, none⟩)) (i - j) (C - j)) w := by
  have z3 := Tryz.sizeOf73
  have h' : (j : Int) ≤ (i : Int) := by omega
  have h2 : (i : Int) ≤ (C : Int) := by omega
  by_cases hne : C = j
  · subst hne
    obtain rfl : i = C := by omega
    go_simp
  · go_simp

theorem nil_sub (w : World) : (Instr.slice 27 (.slice none 0 0) (some (.int .i64 0)) (some (.int .i64 0)) none).run Tryz.prog w = .ok (.slice none 0 0) w := by
  have z3 := Tryz.sizeOf73
  go_simp

theorem slc_sub {w : World} {g off o C j i L : Nat} {ts : List Tok} (h : RC.At 3 w g off (tokRs ts)) (hn : ts.length = L) (hj : j ≤ i) (hi : i ≤ L) (hc : L ≤ C) (ht : C ≤ 9223372036854775807) (ho : (if C = j then (⟨g, off, none⟩ : Addr) else ⟨g, off + j * 3, none⟩) = ⟨g, o, none⟩) : TokSlc w (.slice (some ⟨g, o, none⟩) (i - j) (C - j)) ((ts.drop j).take (i - j)) := by
  have h1 := slc_drop (K := j) h hn (by omega) hc ht
  rw [ho] at h1
  have hl : (ts.drop j).length = L - j := by rw [List.length_drop, hn]
  by_cases hlt : i - j < L - j
  · exact slc_take (at_of_slc h1 (by intro e0; rw [e0] at hl; simp at hl; omega)) (by omega) (by omega) (by omega)
  · rw [List.take_of_length_le (by omega)]
    have : i - j = L - j := by omega
    rw [this]; exact h1

/-- A piece of a slice of tokens, as Go cuts it. -/
theorem sub_any {w : World} {a : Option Addr} {m c : Nat} {ts : List Tok} (h : TokVal w (.slice a m c) ts) (hn : ts.length = m) (j i : Nat) (hj : j ≤ i) (hi : i ≤ m) : ∃ a2 n2 c2, (∀ w', (Instr.slice 27 (.slice a m c) (some (.int .i64 (j : Int))) (some (.int .i64 (i : Int))) none).run Tryz.prog w' = .ok (.slice a2 n2 c2) w') ∧ ∀ W, Below w.heap.size w W → TokSlc W (.slice a2 n2 c2) ((ts.drop j).take (i - j)) := by
  rcases h with ⟨e, e0⟩ | ⟨g, cap, e, hr⟩
  · injection e with e1 e2 e3
    subst e1 e2 e3 e0
    obtain rfl : i = 0 := by omega
    obtain rfl : j = 0 := by omega
    exact ⟨none, 0, 0, fun w' => nil_sub w', fun W _ => by simpa using nil_slc W⟩
  · injection e with e1 e2 e3
    subst e1 e3
    obtain ⟨o, ho⟩ : ∃ o, (if c = j then (⟨g, 0, none⟩ : Addr) else ⟨g, 0 + j * 3, none⟩) = ⟨g, o, none⟩ := by
      by_cases hc : c = j
      · exact ⟨0, by rw [if_pos hc]⟩
      · exact ⟨0 + j * 3, by rw [if_neg hc]⟩
    have hroom := hr.room
    have htop := hr.top
    refine ⟨_, _, _, fun w' => by rw [tok_sub g 0 m c j i hj hi (by omega) w', ho], fun W hW => ?_⟩
    exact slc_sub (at_of_row (hr.on hW)) hn hj hi (by omega) htop ho

theorem cells_any {w : World} {a : Option Addr} {m c i : Nat} {ts : List Tok} {x : Tok} (h : TokVal w (.slice a m c) ts) (hx : ts[i]? = some x) : ∃ g, a = some ⟨g, 0, none⟩ ∧ ∀ W, Below w.heap.size w W → W.cell? ⟨g, i * 3, none⟩ = some (.int .i64 x.k) ∧ W.cell? ⟨g, i * 3 + 1, none⟩ = some (.string ⟨x.t.toArray⟩) ∧ W.cell? ⟨g, i * 3 + 2, none⟩ = some (.int .i64 x.n) := by
  rcases h with ⟨e, e0⟩ | ⟨g, cap, e, hr⟩
  · rw [e0] at hx; cases hx
  · injection e with e1 e2 e3
    exact ⟨g, e1, fun W hW => (hr.on hW).cells i x hx⟩

/-- How far l9Read has come. -/
structure Far9 (ts : List Tok) (i j : Nat) (dn : List No) : Prop where
  on : i ≤ ts.length → j ≤ i ∧ (∀ k, j ≤ k → k < i → ∀ x, ts[k]? = some x → signIs x 59 = false) ∧ (read9 ts).take 12 = (dn ++ read9 (ts.drop j)).take 12
  done : ts.length < i → dn = (read9 ts).take 12

theorem read9_one {x : List Tok} (h : ∀ y ∈ x, signIs y 59 = false) : read9 x = (piece x).toList := by
  unfold read9
  rw [pieces_whole h]
  cases hp : piece x <;> simp [hp]

theorem seg_no {ts : List Tok} {i j : Nat} (h : ∀ k, j ≤ k → k < i → ∀ x, ts[k]? = some x → signIs x 59 = false) : ∀ y ∈ (ts.drop j).take (i - j), signIs y 59 = false := by
  intro y hy
  obtain ⟨k, hk, e⟩ := List.mem_iff_getElem.1 hy
  rw [List.length_take] at hk
  rw [List.getElem_take, List.getElem_drop] at e
  exact h (j + k) (by omega) (by omega) y (by rw [List.getElem?_eq_getElem (by have := hk; rw [List.length_drop] at this; omega), e])

/-- What is behind the piece that ends at i. -/
def behind (ts : List Tok) (i : Nat) : List No := if i < ts.length then read9 (ts.drop (i + 1)) else []

theorem Far9.cut {ts : List Tok} {i j : Nat} {dn : List No} (h : Far9 ts i j dn) (hi : i ≤ ts.length) (hs : ∀ x, ts[i]? = some x → signIs x 59 = true) : (read9 ts).take 12 = (dn ++ ((piece ((ts.drop j).take (i - j))).toList ++ behind ts i)).take 12 := by
  obtain ⟨hj, hno, ht⟩ := h.on hi
  have h1 := read9_one (seg_no hno)
  rw [ht]
  unfold behind
  by_cases hlt : i < ts.length
  · rw [if_pos hlt]
    obtain ⟨x, hx⟩ : ∃ x, ts[i]? = some x := ⟨_, List.getElem?_eq_getElem hlt⟩
    have hd : ts.drop j = (ts.drop j).take (i - j) ++ x :: ts.drop (i + 1) := by
      have e1 : (ts.drop j).drop (i - j) = x :: ts.drop (i + 1) := by
        rw [List.drop_drop, show j + (i - j) = i by omega]
        exact drop_at hx
      rw [← e1, List.take_append_drop]
    have e2 : read9 (ts.drop j) = read9 ((ts.drop j).take (i - j)) ++ read9 (ts.drop (i + 1)) := by
      rw [← read9_cut (hs x hx), ← hd]
    rw [e2, h1]
  · rw [if_neg hlt, List.append_nil, ← h1, List.take_of_length_le (l := ts.drop j) (by rw [List.length_drop]; omega)]

theorem Far9.next {ts : List Tok} {i : Nat} {dn : List No} (hd : dn.length ≤ 12) (h : (read9 ts).take 12 = (dn ++ behind ts i).take 12) (hi : i ≤ ts.length) : Far9 ts (i + 1) (i + 1) dn := by
  unfold behind at h
  refine ⟨fun hl => ⟨Nat.le_refl _, fun k h1 h2 => absurd h2 (by omega), ?_⟩, fun hl => ?_⟩
  · rw [if_pos (by omega)] at h; exact h
  · rw [if_neg (by omega), List.append_nil, List.take_of_length_le hd] at h
    exact h.symm

theorem Far9.step {ts : List Tok} {i j : Nat} {dn : List No} {x : Tok} (h : Far9 ts i j dn) (hx : ts[i]? = some x) (hs : signIs x 59 = false) : Far9 ts (i + 1) j dn := by
  obtain ⟨hl, e⟩ := List.getElem?_eq_some_iff.1 hx
  obtain ⟨hj, hno, ht⟩ := h.on (by omega)
  refine ⟨fun _ => ⟨by omega, fun k h1 h2 y hy => ?_, ht⟩, fun h' => absurd h' (by omega)⟩
  rcases Nat.lt_or_eq_of_le (Nat.le_of_lt_succ h2) with h3 | h3
  · exact hno k h1 h3 y hy
  · subst h3
    rw [hx] at hy
    injection hy with hy
    rw [← hy]; exact hs

theorem own_baseN {w : World} {B B' e size n : Nat} {v : Value} {xs : List Value} (h : w.ownsRow B e size v n xs) (hb : B' ≤ B) : w.ownsRow B' e size v n xs := ⟨h.1, by
  rcases h.2 with hn | ⟨g, cap, cur, hv, hbg, rest⟩
  · exact .inl hn
  · exact .inr ⟨g, cap, cur, hv, Nat.le_trans hb hbg, rest⟩⟩

theorem full_take {dn X : List No} (h : dn.length = 12) : (dn ++ X).take 12 = dn := by
  rw [List.take_append_of_le_length (by omega), List.take_of_length_le (by omega)]

set_option maxRecDepth 20000 in
set_option maxHeartbeats 8000000 in
theorem l9Read_spec (ts : List Tok) (v : Value) (w : World) (h : TokVal w v ts) (hf : ∀ x ∈ ts, TokFit x) (hs : ts.length ≤ 1000000) (ha : ts.all tokOk = true) :
    Calls Tryz.prog 83 #[v] w (NotesOf ((read9 ts).take 12) w) := by
  obtain ⟨i0, hi, hz0, hz1, hz2⟩ := info_parts infoN9
  have hB0 : Below w.heap.size w (w.alloc (.cells #[] 56)) := (Below.refl _ _).alloc (Nat.le_refl _) _
  have ho0 := own_start w
  obtain ⟨a0, c0, e0, _⟩ := h.form
  subst e0
  have HP := Lib.hid (fun u j i w' (hu : TokSlc w' u ((ts.drop j).take (i - j))) => Piece_spec ((ts.drop j).take (i - j)) u w' hu (fun x hx => hf x (List.mem_of_mem_drop (List.mem_of_mem_take hx))) (by rw [List.length_take, List.length_drop]; omega) (List.all_eq_true.2 fun x hx => List.all_eq_true.1 ha x (List.mem_of_mem_drop (List.mem_of_mem_take hx))))
  obtain ⟨m, hm⟩ : ∃ m, ts.length = m := ⟨_, rfl⟩
  rw [hm] at h hs ⊢
  have HM := Lib.hid hm
  have HSB := Lib.hid (fun j i hj hi => sub_any h hm j i hj hi)
  have HCL := Lib.hid (fun i x (hx : ts[i]? = some x) => cells_any h hx)
  have hs' : (m : Int) ≤ 1000000 := by omega
  have HF0 := Lib.hid (show Far9 ts 0 0 [] from ⟨fun _ => ⟨Nat.le_refl _, fun k h1 h2 => absurd h2 (by omega), by rw [List.drop_zero, List.nil_append]⟩, fun h' => absurd h' (by omega)⟩)
  unfold ReadIs at HP
  clear h hf ha hm
  go_enter Tryz.func83, Tryz.ntmps83
  go_wp2_with fail
  go_loopg [3, 4, 5] (m + 1) (fun kx s3 s4 s5 wr => ∃ (i j : Nat) (dn : List No), s4 = .int .i64 (j : Int) ∧ s5 = .int .i64 (i : Int) ∧ kx + i = m + 1 ∧ dn.length ≤ 12 ∧ Own 56 9 wr s3 w.heap.size (noRs dn) ∧ s3 ≠ .slice none 0 0 ∧ Hid (Far9 ts i j dn) ∧ Below w.heap.size w wr)
  case atStart => exact ⟨0, 0, [], rfl, rfl, by omega, by simp, ho0, (fun e => by cases e), HF0, hB0⟩
  case round =>
    obtain ⟨i, j, dn, rfl, rfl, hk, hd12, hown, hne, HFR, hB⟩ := hrel
    clear ho0 hB0
    obtain ⟨a3, c3, rfl⟩ := own_form9 hown
    rw [noRs_len] at hown hne ⊢
    obtain ⟨d, hd⟩ : ∃ d, dn.length = d := ⟨_, rfl⟩
    rw [hd] at hne hd12 ⊢
    have HNE := Lib.hid hne
    have HD := Lib.hid hd
    have hownd : wr.ownsRow w.heap.size 56 9 (.slice a3 d c3) d (noRs dn).flatten := by
      have := hown.1
      rw [noRs_len, hd] at this
      exact this
    clear hown hd hne
    by_cases hle : i ≤ m
    · have hle' : (i : Int) ≤ (m : Int) := by omega
      have i0' : (0 : Int) ≤ (i : Int) := by omega
      have hiw : IntKind.i64.wrap ((i : Int) + 1) = ((i + 1 : Nat) : Int) := by rw [IntKind.wrap_i64]; omega
      by_cases hlt : i < m
      · have hlt' : (i : Int) < (m : Int) := by omega
        obtain ⟨x, hx⟩ : ∃ x, ts[i]? = some x := ⟨_, List.getElem?_eq_getElem (by rw [HM.out]; exact hlt)⟩
        obtain ⟨g, rfl, hcl⟩ := HCL.out i x hx
        obtain ⟨x0, x1, x2⟩ := hcl wr hB
        have HIS := Lib.hid (fun W => Is9_spec x 59 W)
        have HX := Lib.hid hx
        clear hcl hx
        cases h59 : signIs x 59
        · rw [h59] at HIS
          have HF2 := Lib.hid (HFR.out.step HX.out h59)
          clear h59
          go_wp2_with fail
          refine (HIS.out _).mono ?_
          rintro e w1 ⟨rfl, g1⟩
          go_wp2_with fail
          go_roundg (m + 1 - (i + 1))
          case measure => omega
          case rel => exact ⟨i + 1, j, dn, rfl, rfl, by omega, by rw [HD.out]; exact hd12, ⟨by rw [noRs_len, HD.out]; exact own_below hownd g1, noRs_nine dn⟩, HNE.out, HF2, hB.trans (g1.mono hB.size)⟩
        · rw [h59] at HIS
          have HCUT := Lib.hid (HFR.out.cut (by rw [HM.out]; exact hle) (fun y hy => by rw [HX.out] at hy; injection hy with hy; rw [← hy]; exact h59))
          obtain ⟨a2, n2, c2, hsl, hts⟩ := HSB.out j i (HFR.out.on (by rw [HM.out]; exact hle)).1 hle
          have HTS := Lib.hid hts
          clear h59 hts
          go_wp2_with fail
          refine (HIS.out _).mono ?_
          rintro e w1 ⟨rfl, g1⟩
          have hB1 := hB.trans (g1.mono hB.size)
          have hown1 := own_below hownd g1
          clear g1 hB hownd x0 x1 x2
          have HPC := Lib.hid (HP.out _ j i w1 (HTS.out w1 hB1))
          obtain ⟨P, eP⟩ : ∃ P, piece ((ts.drop j).take (i - j)) = P := ⟨_, rfl⟩
          rw [eP] at HPC HCUT
          clear eP
          cases P with
          | none =>
            have HNX := Lib.hid (Far9.next (by rw [HD.out]; exact hd12) (by have e := HCUT.out; simpa using e) (by rw [HM.out]; exact hle))
            go_wp2_with fail
            refine HPC.out.mono ?_
            rintro e w2 ⟨rfl, g2⟩
            have hB2 := hB1.trans (g2.mono hB1.size)
            obtain ⟨w3, hst, hl3, g3⟩ := no_laid w2 (noVal none)
            have HST := Lib.hid hst
            have hB3 := hB2.trans (g3.mono hB2.size)
            have hown3 := own_below (own_below hown1 g2) g3
            clear hst hown1
            go_wp2_with ((with_reducible refine wp_store_at HST.out ?_ ?_); exact And.intro rfl (And.intro rfl (And.intro rfl rfl)))
            go_roundg (m + 1 - (i + 1))
            case measure => omega
            case rel => exact ⟨i + 1, i + 1, dn, by first | rfl | go_num, rfl, by omega, by rw [HD.out]; exact hd12, ⟨by rw [noRs_len, HD.out]; exact hown3, noRs_nine dn⟩, HNE.out, HNX, hB3⟩
          | some nn =>
            by_cases hfull : d < 12
            · have hfull' : (d : Int) < 12 := by omega
              have HNX := Lib.hid (Far9.next (dn := dn ++ [nn]) (by rw [List.length_append, HD.out]; simp; omega) (by have e := HCUT.out; simpa using e) (by rw [HM.out]; exact hle))
              go_wp2_with fail
              refine HPC.out.mono ?_
              rintro e w2 ⟨rfl, g2⟩
              have hB2 := hB1.trans (g2.mono hB1.size)
              obtain ⟨w3, hst, hl3, g3⟩ := no_laid w2 (noVal (some nn))
              have HST := Lib.hid hst
              have hB3 := hB2.trans (g3.mono hB2.size)
              have hown3 := own_below (own_below hown1 g2) g3
              have HL3 := Lib.hid (no_ldE (n := nn) hl3)
              have hn6 := news9 (LBlk.new w3 (noL nn) 56)
              have hB4 := hB3.alloc hB3.size (.cells (noL nn).toArray 56)
              have hown4 := World.ownsRow.alloc hown3 (.cells (noL nn).toArray 56)
              have hmx : d + 1 ≤ maxLen := by unfold maxLen; omega
              clear hst hown1 hown3
              go_wp2_with (first | ((with_reducible refine wp_store_at HST.out ?_ ?_); exact And.intro rfl (And.intro rfl (And.intro rfl rfl))) | ((with_reducible refine wp_load_at HL3.out ?_ ?_); exact And.intro rfl (And.intro rfl rfl)) | (at_builtin; refine wpList_append_own _ rfl _ _ 49 rfl w.heap.size 56 i0 _ 9 80 Tryz.underlying49 hi hz0 hz1 hz2 rfl (by decide) _ d (noRs dn).flatten rfl hown4 ⟨w3.heap.size, 0, none⟩ 1 1 (noL nn) rfl rfl hn6 (fun u hu => List.all_eq_true.1 (noL_one nn) u hu) hmx (by omega) hB4.size ?_; intro v7 w7 hown7 hgrow7 hnil7))
              go_roundg (m + 1 - (i + 1))
              case measure => omega
              case rel => exact ⟨i + 1, i + 1, dn ++ [nn], by first | rfl | go_num, rfl, by omega, by rw [List.length_append, HD.out]; simp; omega, own_snoc HD.out hown7, (fun e => by have := (hnil7.1 e).2; omega), HNX, hB4.grown hgrow7 hB4.size (fun k hk => (World.ownsRow.lt hown4 k hk).1)⟩
            · have hfull' : ¬ (d : Int) < 12 := by omega
              have HNX := Lib.hid (Far9.next (dn := dn) (by rw [HD.out]; exact hd12) (by rw [HCUT.out, full_take (by rw [HD.out]; omega), full_take (by rw [HD.out]; omega)]) (by rw [HM.out]; exact hle))
              go_wp2_with fail
              refine HPC.out.mono ?_
              rintro e w2 ⟨rfl, g2⟩
              have hB2 := hB1.trans (g2.mono hB1.size)
              obtain ⟨w3, hst, hl3, g3⟩ := no_laid w2 (noVal (some nn))
              have HST := Lib.hid hst
              have hB3 := hB2.trans (g3.mono hB2.size)
              have hown3 := own_below (own_below hown1 g2) g3
              clear hst hown1
              go_wp2_with ((with_reducible refine wp_store_at HST.out ?_ ?_); exact And.intro rfl (And.intro rfl (And.intro rfl rfl)))
              go_roundg (m + 1 - (i + 1))
              case measure => omega
              case rel => exact ⟨i + 1, i + 1, dn, by first | rfl | go_num, rfl, by omega, by rw [HD.out]; exact hd12, ⟨by rw [noRs_len, HD.out]; exact hown3, noRs_nine dn⟩, HNE.out, HNX, hB3⟩
      · have hlt' : ¬ (i : Int) < (m : Int) := by omega
        have HCUT := Lib.hid (HFR.out.cut (by rw [HM.out]; exact hle) (fun y hy => by rw [List.getElem?_eq_none (by rw [HM.out]; omega)] at hy; cases hy))
        obtain ⟨a2, n2, c2, hsl, hts⟩ := HSB.out j i (HFR.out.on (by rw [HM.out]; exact hle)).1 hle
        have HTS := Lib.hid hts
        have hB1 := hB
        have hown1 := hownd
        clear hts hB hownd
        generalize wr = w1 at *
        have HPC := Lib.hid (HP.out _ j i w1 (HTS.out w1 hB1))
        obtain ⟨P, eP⟩ : ∃ P, piece ((ts.drop j).take (i - j)) = P := ⟨_, rfl⟩
        rw [eP] at HPC HCUT
        clear eP
        cases P with
        | none =>
          have HNX := Lib.hid (Far9.next (by rw [HD.out]; exact hd12) (by have e := HCUT.out; simpa using e) (by rw [HM.out]; exact hle))
          go_wp2_with fail
          refine HPC.out.mono ?_
          rintro e w2 ⟨rfl, g2⟩
          have hB2 := hB1.trans (g2.mono hB1.size)
          obtain ⟨w3, hst, hl3, g3⟩ := no_laid w2 (noVal none)
          have HST := Lib.hid hst
          have hB3 := hB2.trans (g3.mono hB2.size)
          have hown3 := own_below (own_below hown1 g2) g3
          clear hst hown1
          go_wp2_with ((with_reducible refine wp_store_at HST.out ?_ ?_); exact And.intro rfl (And.intro rfl (And.intro rfl rfl)))
          go_roundg (m + 1 - (i + 1))
          case measure => omega
          case rel => exact ⟨i + 1, i + 1, dn, by first | rfl | go_num, rfl, by omega, by rw [HD.out]; exact hd12, ⟨by rw [noRs_len, HD.out]; exact hown3, noRs_nine dn⟩, HNE.out, HNX, hB3⟩
        | some nn =>
          by_cases hfull : d < 12
          · have hfull' : (d : Int) < 12 := by omega
            have HNX := Lib.hid (Far9.next (dn := dn ++ [nn]) (by rw [List.length_append, HD.out]; simp; omega) (by have e := HCUT.out; simpa using e) (by rw [HM.out]; exact hle))
            go_wp2_with fail
            refine HPC.out.mono ?_
            rintro e w2 ⟨rfl, g2⟩
            have hB2 := hB1.trans (g2.mono hB1.size)
            obtain ⟨w3, hst, hl3, g3⟩ := no_laid w2 (noVal (some nn))
            have HST := Lib.hid hst
            have hB3 := hB2.trans (g3.mono hB2.size)
            have hown3 := own_below (own_below hown1 g2) g3
            have HL3 := Lib.hid (no_ldE (n := nn) hl3)
            have hn6 := news9 (LBlk.new w3 (noL nn) 56)
            have hB4 := hB3.alloc hB3.size (.cells (noL nn).toArray 56)
            have hown4 := World.ownsRow.alloc hown3 (.cells (noL nn).toArray 56)
            have hmx : d + 1 ≤ maxLen := by unfold maxLen; omega
            clear hst hown1 hown3
            go_wp2_with (first | ((with_reducible refine wp_store_at HST.out ?_ ?_); exact And.intro rfl (And.intro rfl (And.intro rfl rfl))) | ((with_reducible refine wp_load_at HL3.out ?_ ?_); exact And.intro rfl (And.intro rfl rfl)) | (at_builtin; refine wpList_append_own _ rfl _ _ 49 rfl w.heap.size 56 i0 _ 9 80 Tryz.underlying49 hi hz0 hz1 hz2 rfl (by decide) _ d (noRs dn).flatten rfl hown4 ⟨w3.heap.size, 0, none⟩ 1 1 (noL nn) rfl rfl hn6 (fun u hu => List.all_eq_true.1 (noL_one nn) u hu) hmx (by omega) hB4.size ?_; intro v7 w7 hown7 hgrow7 hnil7))
            go_roundg (m + 1 - (i + 1))
            case measure => omega
            case rel => exact ⟨i + 1, i + 1, dn ++ [nn], by first | rfl | go_num, rfl, by omega, by rw [List.length_append, HD.out]; simp; omega, own_snoc HD.out hown7, (fun e => by have := (hnil7.1 e).2; omega), HNX, hB4.grown hgrow7 hB4.size (fun k hk => (World.ownsRow.lt hown4 k hk).1)⟩
          · have hfull' : ¬ (d : Int) < 12 := by omega
            have HNX := Lib.hid (Far9.next (dn := dn) (by rw [HD.out]; exact hd12) (by rw [HCUT.out, full_take (by rw [HD.out]; omega), full_take (by rw [HD.out]; omega)]) (by rw [HM.out]; exact hle))
            go_wp2_with fail
            refine HPC.out.mono ?_
            rintro e w2 ⟨rfl, g2⟩
            have hB2 := hB1.trans (g2.mono hB1.size)
            obtain ⟨w3, hst, hl3, g3⟩ := no_laid w2 (noVal (some nn))
            have HST := Lib.hid hst
            have hB3 := hB2.trans (g3.mono hB2.size)
            have hown3 := own_below (own_below hown1 g2) g3
            clear hst hown1
            go_wp2_with ((with_reducible refine wp_store_at HST.out ?_ ?_); exact And.intro rfl (And.intro rfl (And.intro rfl rfl)))
            go_roundg (m + 1 - (i + 1))
            case measure => omega
            case rel => exact ⟨i + 1, i + 1, dn, by first | rfl | go_num, rfl, by omega, by rw [HD.out]; exact hd12, ⟨by rw [noRs_len, HD.out]; exact hown3, noRs_nine dn⟩, HNE.out, HNX, hB3⟩
    · have hle' : ¬ (i : Int) ≤ (m : Int) := by omega
      have HE := Lib.hid (HFR.out.done (by rw [HM.out]; omega))
      go_wp2_with fail
      go_ret
      exact ⟨_, rfl, by rw [← HE.out]; exact ⟨by rw [noRs_len, HD.out]; exact hownd, noRs_nine dn⟩, HNE.out, hB⟩

set_option maxRecDepth 20000 in
set_option maxHeartbeats 2000000 in
theorem ReadNotes_spec (ts : List Tok) (v : Value) (w : World) (h : TokVal w v ts) (hf : ∀ x ∈ ts, TokFit x) (hs : ts.length ≤ 1000000) :
    Calls Tryz.prog 40 #[v] w (NotesOf (readNotes ts) w) := by
  have HA := Lib.hid (AllS_val ts v w h hf (by omega))
  cases ha : ts.all tokOk
  · rw [ha] at HA
    have HE := Lib.hid (show readNotes ts = [] by unfold readNotes; rw [ha]; rfl)
    obtain ⟨a0, cap0, rfl, _⟩ := h.form
    clear h hf hs ha
    go_enter Tryz.func40, Tryz.ntmps40
    go_wp2_with (go_at_call 51; refine HA.out.mono ?_; rintro e w1 ⟨rfl, g1⟩)
    go_ret
    have ho0 := own_start w1
    have hb1 : Below w.heap.size w (w1.alloc (.cells #[] 56)) := g1.alloc g1.size _
    exact ⟨_, rfl, by rw [HE.out]; exact ⟨own_baseN ho0.1 g1.size, ho0.2⟩, (fun e => by cases e), hb1⟩
  · rw [ha] at HA
    have HR := Lib.hid (fun w' (hb : Below w.heap.size w w') => l9Read_spec ts v w' (h.on hb) hf hs ha)
    have HE := Lib.hid (show readNotes ts = (read9 ts).take 12 by unfold readNotes; rw [ha]; rfl)
    obtain ⟨a0, cap0, rfl, _⟩ := h.form
    unfold NotesOf at HR
    clear h hf hs ha
    go_enter Tryz.func40, Tryz.ntmps40
    go_wp2_with (go_at_call 51; refine HA.out.mono ?_; rintro e w1 ⟨rfl, g1⟩)
    refine (HR.out _ g1).mono ?_
    rintro e w2 ⟨u, rfl, hu, hun, g2⟩
    obtain ⟨a2, c2, rfl⟩ := own_form9 hu
    generalize (noRs ((read9 ts).take 12)).length = nn at *
    go_wp2_with fail
    go_ret
    exact ⟨_, rfl, by rw [HE.out]; exact ⟨own_baseN hu.1 g1.size, hu.2⟩, hun, g1.trans (g2.mono g1.size)⟩

end Go.Proofs.YtliihnkonakacaaGreatDoor.B9
