/- Contracts of chapter 6's functions of the program: digits, text, colorText, ShowValue. -/
import Derived.Test.YtliihnkonakacaaGreatDoorImp6b
import Derived.Test.YtliihnkonakacaaGreatDoorFound
import Derived.StillTailTactics
namespace Go.Proofs.YtliihnkonakacaaGreatDoor.V6
open Go.Proofs.YtliihnkonakacaaGreatDoor.P1 Go.Proofs.YtliihnkonakacaaGreatDoor.B1 Go.Proofs.YtliihnkonakacaaGreatDoor.B2 Go.Proofs.YtliihnkonakacaaGreatDoor.T1 Go.Proofs.YtliihnkonakacaaGreatDoor.BT Go.Proofs.YtliihnkonakacaaGreatDoor.P5 Go.Proofs.YtliihnkonakacaaGreatDoor.P6 Go.Proofs.YtliihnkonakacaaGreatDoor.B5 Go.Proofs.YtliihnkonakacaaGreatDoor.B6 Go.Proofs.YtliihnkonakacaaGreatDoor.S7 Go.Proofs.YtliihnkonakacaaGreatDoor.D1 Go.Proofs.YtliihnkonakacaaGreatDoor.DB
open Go.ChangeShapes Go.WideShapes Go.ChangeAt Go.RowKit
set_option linter.unusedVariables false

theorem digits_impl (n : Int) (w : World) (L : B5.Pow w) (h0 : -9223372036854775808 ≤ n) (h1 : n ≤ 9223372036854775807) :
    Calls Tryz.prog 185 #[.int .i64 n] w (Ans (.string ⟨(Lib.itoa n).toArray⟩) w) := by
  go_enter Tryz.func185, Tryz.ntmps185
  go_wp2_with (go_at_call 160; refine (number_impl _ _ h0 h1 L).mono ?_; rintro e w1 ⟨rfl, g1⟩)
  go_ret
  exact ⟨rfl, g1⟩

set_option maxHeartbeats 2000000 in
theorem text_impl (n : Int) (u : List UInt8) (w : World) (L : B5.Pow w) (h0 : -1000000 ≤ n) (h1 : n ≤ 1000000) (hu : u.length ≤ 10) :
    Calls Tryz.prog 159 #[mV n u] w (Ans (.string ⟨(Lib.itoa n ++ u).toArray⟩) w) := by
  have il := itoa_short (n := n) (by omega) (by omega)
  have HD := Lib.hid (fun w' (hb : Below w.heap.size w w') => digits_impl n w' (L.on hb) (by omega) (by omega))
  obtain ⟨q, eq⟩ : ∃ q, Lib.itoa n = q := ⟨_, rfl⟩
  rw [eq] at HD il ⊢
  obtain ⟨s, es⟩ : ∃ s, q ++ u = s := ⟨_, rfl⟩
  have hadd := str_addT _ _ _ es (by rw [← es, List.length_append]; omega)
  rw [es]
  unfold mV
  clear es eq il hu L
  go_enter Tryz.func159, Tryz.ntmps159
  go_wp2_with fail
  have c0 : (w.alloc (.cells #[.int .i64 n, .string ⟨u.toArray⟩] 169)).cell? ⟨w.heap.size, 0, none⟩ = some (.int .i64 n) := by simp
  have c1 : (w.alloc (.cells #[.int .i64 n, .string ⟨u.toArray⟩] 169)).cell? ⟨w.heap.size, 1, none⟩ = some (.string ⟨u.toArray⟩) := by simp
  have hl : w.heap.size < (w.alloc (.cells #[.int .i64 n, .string ⟨u.toArray⟩] 169)).heap.size := by simp
  have hB : Below w.heap.size w (w.alloc (.cells #[.int .i64 n, .string ⟨u.toArray⟩] 169)) := (Below.refl _ _).alloc (Nat.le_refl _) _
  generalize w.alloc (.cells #[.int .i64 n, .string ⟨u.toArray⟩] 169) = W at *
  generalize hbz : w.heap.size = b at c0 c1 hl ⊢
  clear hbz
  go_region_held3 (fun w' => w'.cell? ⟨b, 0, none⟩ = some (.int .i64 n) ∧ w'.cell? ⟨b, 1, none⟩ = some (.string ⟨u.toArray⟩) ∧ b < w'.heap.size ∧ Below w.heap.size w w')
    (first | with_reducible exact held2_drew c0 c1 hl hB | (go_split_ands; with_reducible exact held2_call hb' (by assumption) (by assumption) (by assumption) (by assumption)))
    (first | (go_at_call 185; refine (HD.out _ (by go_split_ands; assumption)).mono ?_; rintro e w' ⟨rfl, hb'⟩))
  rename_i hS
  obtain ⟨_, _, _, hB'⟩ := hS
  clear hadd
  go_wp2
  go_ret
  exact ⟨rfl, hB'⟩

theorem hexs_at (q : Nat) (h : q < 16) : ([48, 49, 50, 51, 52, 53, 54, 55, 56, 57, 97, 98, 99, 100, 101, 102] : List UInt8)[q]? = some (hexD q) := by
  have : q = 0 ∨ q = 1 ∨ q = 2 ∨ q = 3 ∨ q = 4 ∨ q = 5 ∨ q = 6 ∨ q = 7 ∨ q = 8 ∨ q = 9 ∨ q = 10 ∨ q = 11 ∨ q = 12 ∨ q = 13 ∨ q = 14 ∨ q = 15 := by omega
  rcases this with rfl | rfl | rfl | rfl | rfl | rfl | rfl | rfl | rfl | rfl | rfl | rfl | rfl | rfl | rfl | rfl <;> rfl

theorem cell_two_new (w : World) (v0 v1 : Value) (t : TypeId) : ∀ j u, [v0, v1][j]? = some u → (w.alloc (.cells #[v0, v1] t)).cell? ((⟨w.heap.size, 0, none⟩ : Addr).add j) = some u := by
  intro j u hj
  rw [add_zero_at]
  match j, hj with
  | 0, hj => obtain rfl := Option.some.inj hj; simp
  | 1, hj => obtain rfl := Option.some.inj hj; simp

theorem byteInfo6 : (Tryz.prog.info? 5).map (fun i => (i.zero, i.size, i.bytes)) = some (some (.int .u8 0), 1, 1) := by kernel_rfl

def hexes (ns : List Nat) : List UInt8 := ns.flatMap hex2

theorem hexes_more {ns : List Nat} {i x : Nat} (h : ns[i]? = some x) : hexes (ns.take (i + 1)) = hexes (ns.take i) ++ hex2 x := by
  unfold hexes
  rw [List.take_add_one, h]
  simp

theorem hexes_len (ns : List Nat) : (hexes ns).length = 2 * ns.length := by
  induction ns with
  | nil => rfl
  | cons x t ih => simp only [hexes, List.flatMap_cons, List.length_append, List.length_cons] at ih ⊢; rw [ih]; simp [hex2]; omega

set_option maxRecDepth 20000 in
set_option maxHeartbeats 2000000 in
/-- The loop of colorText, over the first L of four shades. -/
theorem colorText_impl (r g b c : Nat) (w : World) (hr : r ≤ 255) (hg : g ≤ 255) (hb : b ≤ 255) (hc : c ≤ 255) :
    Calls Tryz.prog 156 #[shV r g b c] w (Ans (.string ⟨(35 :: hexes (if c = 255 then [r, g, b] else [r, g, b, c])).toArray⟩) w) := by
  obtain ⟨i0, hi, hz0, hz1, hz2⟩ := info_parts byteInfo6
  have h255 : ∀ x ∈ [r, g, b, c], x ≤ 255 := by simp; omega
  have H255 := Lib.hid h255
  have hlit := (World.ownsRow_lit (base := w.heap.size + 1) (e := 5) (size := 1) (w.alloc (.cells #[.int .i64 r, .int .i64 g, .int .i64 b, .int .i64 c] 165)) #[.int .u8 35] 1 (by simp) (by decide) rfl)
  have hb0 : Below w.heap.size w (w.alloc (.cells #[.int .i64 r, .int .i64 g, .int .i64 b, .int .i64 c] 165)) := (Below.refl _ _).alloc (Nat.le_refl _) _
  have hq : LBlk (w.alloc (.cells #[.int .i64 r, .int .i64 g, .int .i64 b, .int .i64 c] 165)) w.heap.size [.int .i64 r, .int .i64 g, .int .i64 b, .int .i64 c] := LBlk.new w _ _
  unfold shV
  clear hr hg hb hc
  by_cases hc : c = 255
  · have hcc : ((c : Int) == 255) = true := by simp; omega
    rw [if_pos hc]
    clear hc
    go_enter Tryz.func156, Tryz.ntmps156
    go_wp2
    rw [World.size_alloc] at hlit
    generalize hW0 : w.alloc (.cells #[.int .i64 r, .int .i64 g, .int .i64 b, .int .i64 c] 165) = W0 at *
    have hWs : W0.heap.size = w.heap.size + 1 := by rw [← hW0]; simp
    clear hW0
    generalize hwb : w.heap.size = bx at *
    have HWB := Lib.hid hwb
    have HWS := Lib.hid hWs
    clear hwb hWs
    have hB1 : Below (bx + 1) W0 (W0.alloc (.cells #[.int .u8 35] 5)) := (Below.refl _ _).alloc (by rw [HWS.out]; exact Nat.le_refl _) _
    have HQ := Lib.hid hq
    clear hq
    go_loopg [4, 15] 3 (fun kx s4 s15 wr => ∃ (i N : Nat) (done : List UInt8) (p4 : Value), p4 = s4 ∧ s15 = .int .i64 (i : Int) ∧ kx + i = 3 ∧ wr.ownsRow (bx + 1) 5 1 s4 N (bytesV done) ∧ s4 ≠ .slice none 0 0 ∧ Hid (done.length = N) ∧ Hid (done = 35 :: hexes ([r, g, b].take i)) ∧ Below (bx + 1) W0 wr)
    case atStart => exact ⟨0, 1, [35], _, rfl, rfl, by omega, hlit, by simp, Lib.hid rfl, Lib.hid rfl, hB1⟩
    case round =>
      obtain ⟨i, N, done, p4, rfl, rfl, hk, hown, hnn, HN, I, hB⟩ := hrel
      clear hlit hB1
      have hfew : N ≤ 20 := by
        rw [← HN.out, I.out, List.length_cons, hexes_len, List.length_take]
        simp; omega
      by_cases hlt : i < 3
      · have hlt' : (i : Int) < 3 := by omega
        have i0' : (0 : Int) ≤ (i : Int) := by omega
        obtain ⟨x, hx⟩ : ∃ x, [r, g, b][i]? = some x := ⟨_, List.getElem?_eq_getElem hlt⟩
        have hxl : x ≤ 255 := H255.out x (by have := List.mem_of_getElem? hx; simp at this ⊢; omega)
        have hcell : wr.cell? ⟨bx, i, none⟩ = some (.int .i64 (x : Int)) := by
          refine (hB.cell (p := ⟨bx, i, none⟩) (by simp)).trans (HQ.out.2 i _ ?_).1
          obtain rfl | rfl | rfl : i = 0 ∨ i = 1 ∨ i = 2 := by omega
          all_goals (obtain rfl := Option.some.inj hx; rfl)
        have HX := Lib.hid hx
        obtain ⟨q, eq⟩ : ∃ q, x / 16 = q := ⟨_, rfl⟩
        obtain ⟨r', er⟩ : ∃ r', x % 16 = r' := ⟨_, rfl⟩
        have hq16 : q < 16 := by omega
        have hr16 : r' < 16 := by omega
        have hqd : (x : Int) / 16 = (q : Int) := by omega
        have hrd : (x : Int) % 16 = (r' : Int) := by omega
        have Hx2 := Lib.hid (show hex2 x = [hexD q, hexD r'] by rw [← eq, ← er]; rfl)
        have hqw : IntKind.i64.wrap (q : Int) = (q : Int) := by rw [IntKind.wrap_i64]; omega
        have hrw : IntKind.i64.wrap (r' : Int) = (r' : Int) := by rw [IntKind.wrap_i64]; omega
        have hrt : (x : Int).tmod 16 = (r' : Int) := by rw [Int.tmod_eq_emod_of_nonneg (by omega)]; exact hrd
        have x0 : (0 : Int) ≤ (x : Int) := by omega
        have x1 : (x : Int) ≤ 255 := by omega
        obtain ⟨dq, edq⟩ : ∃ dq, (hexD q).toNat = dq := ⟨_, rfl⟩
        obtain ⟨dr, edr⟩ : ∃ dr, (hexD r').toNat = dr := ⟨_, rfl⟩
        have aq := fun w' => str_atN _ q dq (by rw [hexs_at q hq16, ← edq]; rfl) w'
        have ar := fun w' => str_atN _ r' dr (by rw [hexs_at r' hr16, ← edr]; rfl) w'
        have Hnews := Lib.hid (show [Value.int .u8 (dq : Int), Value.int .u8 (dr : Int)] = bytesV (hex2 x) by rw [Hx2.out, ← edq, ← edr]; rfl)
        clear hx eq er edq edr
        go_wp2_with fail
        go_region_law (first | (refine step_append_mine rfl (.tmp 19) (.tmp 26) 22 rfl (bx + 1) 5 i0 _ 1 1 Tryz.underlying22 hi hz0 hz1 hz2 rfl (by decide) p4 N (bytesV done) rfl (World.ownsRow.alloc (w := wr.drew) hown _) ⟨wr.heap.size, 0, none⟩ 2 2 [.int .u8 (dq : Int), .int .u8 (dr : Int)] rfl rfl (cell_two_new wr.drew _ _ _) (by simp [Value.oneCell']) (by simp [maxLen]; omega) (by omega) (by have := hB.size; have := HWS.out; simp; omega) ?_; intro v4 w4 hown4 hgrow4 hnil4))
        all_goals
          have hnew : w4.ownsRow (bx + 1) 5 1 v4 (N + 2) (bytesV (done ++ hex2 x)) := by
            rw [Hnews.out] at hown4
            rwa [show bytesV (done ++ hex2 x) = bytesV done ++ bytesV (hex2 x) by simp [bytesV]]
          have hne4 : v4 ≠ .slice none 0 0 := fun e => hnn (hnil4.1 e).1
          have HN2 := Lib.hid (show (done ++ hex2 x).length = N + 2 by rw [List.length_append, HN.out]; rfl)
          have HI2 := Lib.hid (show done ++ hex2 x = 35 :: hexes ([r, g, b].take (i + 1)) by rw [hexes_more HX.out, I.out]; rfl)
          have hA := hB.alloc (by have := hB.size; have := HWS.out; omega) (.cells #[.int .u8 (dq : Int), .int .u8 (dr : Int)] 5)
          have hAd : Below (bx + 1) W0 (wr.alloc (.cells #[.int .u8 (dq : Int), .int .u8 (dr : Int)] 5)).drew := ⟨hA.os, hA.tape, hA.output, hA.size, hA.block⟩
          have hB4 := hAd.grown hgrow4 (by have := hB.size; have := HWS.out; simp; omega) (fun k hk => (World.ownsRow.lt hown k hk).1)
          clear hown4 hgrow4 hnil4 hA hAd
          go_wp2_with fail
          go_roundg (3 - (i + 1))
          case measure => omega
          case rel => exact ⟨i + 1, N + 2, done ++ hex2 x, _, rfl, by go_num, by omega, hnew, hne4, HN2, HI2, hB4⟩
      · have hlt' : ¬ (i : Int) < 3 := by omega
        have HD := Lib.hid (show done = 35 :: hexes [r, g, b] by rw [I.out, List.take_of_length_le (by simp; omega)])
        obtain ⟨gq, cap, rfl, hbt⟩ := Bts.own hown hnn
        have hconv := hbt.text
        rw [HN.out] at hconv ⊢
        go_wp2
        go_ret
        exact ⟨by rw [← HD.out]; rfl, by rw [HWB.out]; exact hb0.trans (hB.mono (by omega))⟩
  · have hcc : ((c : Int) == 255) = false := by simp; omega
    rw [if_neg hc]
    clear hc
    go_enter Tryz.func156, Tryz.ntmps156
    go_wp2
    rw [World.size_alloc] at hlit
    generalize hW0 : w.alloc (.cells #[.int .i64 r, .int .i64 g, .int .i64 b, .int .i64 c] 165) = W0 at *
    have hWs : W0.heap.size = w.heap.size + 1 := by rw [← hW0]; simp
    clear hW0
    generalize hwb : w.heap.size = bx at *
    have HWB := Lib.hid hwb
    have HWS := Lib.hid hWs
    clear hwb hWs
    have hB1 : Below (bx + 1) W0 (W0.alloc (.cells #[.int .u8 35] 5)) := (Below.refl _ _).alloc (by rw [HWS.out]; exact Nat.le_refl _) _
    have HQ := Lib.hid hq
    clear hq
    go_loopg [4, 15] 4 (fun kx s4 s15 wr => ∃ (i N : Nat) (done : List UInt8) (p4 : Value), p4 = s4 ∧ s15 = .int .i64 (i : Int) ∧ kx + i = 4 ∧ wr.ownsRow (bx + 1) 5 1 s4 N (bytesV done) ∧ s4 ≠ .slice none 0 0 ∧ Hid (done.length = N) ∧ Hid (done = 35 :: hexes ([r, g, b, c].take i)) ∧ Below (bx + 1) W0 wr)
    case atStart => exact ⟨0, 1, [35], _, rfl, rfl, by omega, hlit, by simp, Lib.hid rfl, Lib.hid rfl, hB1⟩
    case round =>
      obtain ⟨i, N, done, p4, rfl, rfl, hk, hown, hnn, HN, I, hB⟩ := hrel
      clear hlit hB1
      have hfew : N ≤ 20 := by
        rw [← HN.out, I.out, List.length_cons, hexes_len, List.length_take]
        simp; omega
      by_cases hlt : i < 4
      · have hlt' : (i : Int) < 4 := by omega
        have i0' : (0 : Int) ≤ (i : Int) := by omega
        obtain ⟨x, hx⟩ : ∃ x, [r, g, b, c][i]? = some x := ⟨_, List.getElem?_eq_getElem hlt⟩
        have hxl : x ≤ 255 := H255.out x (by have := List.mem_of_getElem? hx; simp at this ⊢; omega)
        have hcell : wr.cell? ⟨bx, i, none⟩ = some (.int .i64 (x : Int)) := by
          refine (hB.cell (p := ⟨bx, i, none⟩) (by simp)).trans (HQ.out.2 i _ ?_).1
          obtain rfl | rfl | rfl | rfl : i = 0 ∨ i = 1 ∨ i = 2 ∨ i = 3 := by omega
          all_goals (obtain rfl := Option.some.inj hx; rfl)
        have HX := Lib.hid hx
        obtain ⟨q, eq⟩ : ∃ q, x / 16 = q := ⟨_, rfl⟩
        obtain ⟨r', er⟩ : ∃ r', x % 16 = r' := ⟨_, rfl⟩
        have hq16 : q < 16 := by omega
        have hr16 : r' < 16 := by omega
        have hqd : (x : Int) / 16 = (q : Int) := by omega
        have hrd : (x : Int) % 16 = (r' : Int) := by omega
        have Hx2 := Lib.hid (show hex2 x = [hexD q, hexD r'] by rw [← eq, ← er]; rfl)
        have hqw : IntKind.i64.wrap (q : Int) = (q : Int) := by rw [IntKind.wrap_i64]; omega
        have hrw : IntKind.i64.wrap (r' : Int) = (r' : Int) := by rw [IntKind.wrap_i64]; omega
        have hrt : (x : Int).tmod 16 = (r' : Int) := by rw [Int.tmod_eq_emod_of_nonneg (by omega)]; exact hrd
        have x0 : (0 : Int) ≤ (x : Int) := by omega
        have x1 : (x : Int) ≤ 255 := by omega
        obtain ⟨dq, edq⟩ : ∃ dq, (hexD q).toNat = dq := ⟨_, rfl⟩
        obtain ⟨dr, edr⟩ : ∃ dr, (hexD r').toNat = dr := ⟨_, rfl⟩
        have aq := fun w' => str_atN _ q dq (by rw [hexs_at q hq16, ← edq]; rfl) w'
        have ar := fun w' => str_atN _ r' dr (by rw [hexs_at r' hr16, ← edr]; rfl) w'
        have Hnews := Lib.hid (show [Value.int .u8 (dq : Int), Value.int .u8 (dr : Int)] = bytesV (hex2 x) by rw [Hx2.out, ← edq, ← edr]; rfl)
        clear hx eq er edq edr
        go_wp2_with fail
        go_region_law (first | (refine step_append_mine rfl (.tmp 19) (.tmp 26) 22 rfl (bx + 1) 5 i0 _ 1 1 Tryz.underlying22 hi hz0 hz1 hz2 rfl (by decide) p4 N (bytesV done) rfl (World.ownsRow.alloc (w := wr.drew) hown _) ⟨wr.heap.size, 0, none⟩ 2 2 [.int .u8 (dq : Int), .int .u8 (dr : Int)] rfl rfl (cell_two_new wr.drew _ _ _) (by simp [Value.oneCell']) (by simp [maxLen]; omega) (by omega) (by have := hB.size; have := HWS.out; simp; omega) ?_; intro v4 w4 hown4 hgrow4 hnil4))
        all_goals
          have hnew : w4.ownsRow (bx + 1) 5 1 v4 (N + 2) (bytesV (done ++ hex2 x)) := by
            rw [Hnews.out] at hown4
            rwa [show bytesV (done ++ hex2 x) = bytesV done ++ bytesV (hex2 x) by simp [bytesV]]
          have hne4 : v4 ≠ .slice none 0 0 := fun e => hnn (hnil4.1 e).1
          have HN2 := Lib.hid (show (done ++ hex2 x).length = N + 2 by rw [List.length_append, HN.out]; rfl)
          have HI2 := Lib.hid (show done ++ hex2 x = 35 :: hexes ([r, g, b, c].take (i + 1)) by rw [hexes_more HX.out, I.out]; rfl)
          have hA := hB.alloc (by have := hB.size; have := HWS.out; omega) (.cells #[.int .u8 (dq : Int), .int .u8 (dr : Int)] 5)
          have hAd : Below (bx + 1) W0 (wr.alloc (.cells #[.int .u8 (dq : Int), .int .u8 (dr : Int)] 5)).drew := ⟨hA.os, hA.tape, hA.output, hA.size, hA.block⟩
          have hB4 := hAd.grown hgrow4 (by have := hB.size; have := HWS.out; simp; omega) (fun k hk => (World.ownsRow.lt hown k hk).1)
          clear hown4 hgrow4 hnil4 hA hAd
          go_wp2_with fail
          go_roundg (4 - (i + 1))
          case measure => omega
          case rel => exact ⟨i + 1, N + 2, done ++ hex2 x, _, rfl, by go_num, by omega, hnew, hne4, HN2, HI2, hB4⟩
      · have hlt' : ¬ (i : Int) < 4 := by omega
        have HD := Lib.hid (show done = 35 :: hexes [r, g, b, c] by rw [I.out, List.take_of_length_le (by simp; omega)])
        obtain ⟨gq, cap, rfl, hbt⟩ := Bts.own hown hnn
        have hconv := hbt.text
        rw [HN.out] at hconv ⊢
        go_wp2
        go_ret
        exact ⟨by rw [← HD.out]; rfl, by rw [HWB.out]; exact hb0.trans (hB.mono (by omega))⟩

set_option maxRecDepth 20000 in
set_option maxHeartbeats 2000000 in
theorem ShowI_num (k n r g b c : Int) (t : List UInt8) (w : World) (L : B5.Pow w) (hk : k = 1 ∨ k = 2 ∨ k = 3) (h0 : -1000000 ≤ n) (h1 : n ≤ 1000000) (hv : valueOk ⟨k, n, r, g, b, c, t⟩ = true) (hl : t.length ≤ 1048576) :
    Calls Tryz.prog 122 #[valV ⟨k, n, r, g, b, c, t⟩] w (Ans (.string ⟨(Lib.itoa n ++ unitOf k).toArray⟩) w) := by
  have HO := Lib.hid (fun w' (hb : Below w.heap.size w w') => ValueOk_impl ⟨k, n, r, g, b, c, t⟩ w' (L.on hb) hl)
  rw [hv] at HO
  have HM := Lib.hid (fun w' => measureOf_impl k n r g b c t w' hk)
  have HT := Lib.hid (fun w' (hb : Below w.heap.size w w') => text_impl n (unitOf k) w' (L.on hb) h0 h1 (by rcases hk with rfl | rfl | rfl <;> decide))
  generalize unitOf k = u at HM HT ⊢
  generalize Lib.itoa n ++ u = s at HT ⊢
  have k4 : (k == 4) = false := by simp; omega
  have k5 : (k == 5) = false := by simp; omega
  unfold valV at HO HM ⊢
  unfold mV at HM HT
  dsimp only at HO HM ⊢
  clear hk h0 h1 hv hl L
  obtain ⟨c0, c1, c2, c3, c4, c5, c6, hlt, hB⟩ := held7_new (.int .i64 k) (.int .i64 n) (.int .i64 r) (.int .i64 g) (.int .i64 b) (.int .i64 c) (.string ⟨t.toArray⟩) 54 (Below.refl w.heap.size w)
  go_enter Tryz.func122, Tryz.ntmps122
  go_wp2_with (first | (go_at_call 135; refine (HO.out _ hB).mono ?_; rintro e w1 ⟨rfl, g1⟩; obtain ⟨d0, d1, d2, d3, d4, d5, d6, hlt', hB'⟩ := held7_call g1 c0 c1 c2 c3 c4 c5 c6 hlt hB) | (go_at_call 158; refine (HM.out _).mono ?_; rintro e w2 ⟨rfl, g2⟩; have hB2 := hB'.trans (g2.mono hB'.size)) | (go_at_call 159; refine (HT.out _ hB2).mono ?_; rintro e w3 ⟨rfl, g3⟩))
  go_ret
  exact ⟨rfl, hB2.trans (g3.mono hB2.size)⟩

set_option maxRecDepth 20000 in
set_option maxHeartbeats 2000000 in
theorem ShowI_color (n r g b c : Nat) (t : List UInt8) (w : World) (L : B5.Pow w) (hr : r ≤ 255) (hg : g ≤ 255) (hb : b ≤ 255) (hc : c ≤ 255) (hv : valueOk ⟨4, n, r, g, b, c, t⟩ = true) (hl : t.length ≤ 1048576) :
    Calls Tryz.prog 122 #[valV ⟨4, n, r, g, b, c, t⟩] w (Ans (.string ⟨(35 :: hexes (if c = 255 then [r, g, b] else [r, g, b, c])).toArray⟩) w) := by
  have HO := Lib.hid (fun w' (hb : Below w.heap.size w w') => ValueOk_impl ⟨4, n, r, g, b, c, t⟩ w' (L.on hb) hl)
  rw [hv] at HO
  have HM := Lib.hid (fun w' => shadesOf_impl ⟨4, n, r, g, b, c, t⟩ w')
  have HT := Lib.hid (fun w' => colorText_impl r g b c w' hr hg hb hc)
  generalize 35 :: hexes (if c = 255 then [r, g, b] else [r, g, b, c]) = s at HT ⊢
  unfold valV at HO HM ⊢
  unfold shV at HM HT
  dsimp only at HO HM ⊢
  clear hr hg hb hc hv hl L
  obtain ⟨c0, c1, c2, c3, c4, c5, c6, hlt, hB⟩ := held7_new (.int .i64 4) (.int .i64 n) (.int .i64 r) (.int .i64 g) (.int .i64 b) (.int .i64 c) (.string ⟨t.toArray⟩) 54 (Below.refl w.heap.size w)
  go_enter Tryz.func122, Tryz.ntmps122
  go_wp2_with (first | (go_at_call 135; refine (HO.out _ hB).mono ?_; rintro e w1 ⟨rfl, g1⟩; obtain ⟨d0, d1, d2, d3, d4, d5, d6, hlt', hB'⟩ := held7_call g1 c0 c1 c2 c3 c4 c5 c6 hlt hB) | (go_at_call 157; refine (HM.out _).mono ?_; rintro e w2 ⟨rfl, g2⟩; have hB2 := hB'.trans (g2.mono hB'.size)) | (go_at_call 156; refine (HT.out _).mono ?_; rintro e w3 ⟨rfl, g3⟩))
  go_ret
  exact ⟨rfl, hB2.trans (g3.mono hB2.size)⟩

set_option maxRecDepth 20000 in
set_option maxHeartbeats 2000000 in
theorem ShowI_word (n r g b c : Int) (t : List UInt8) (w : World) (L : B5.Pow w) (hv : valueOk ⟨5, n, r, g, b, c, t⟩ = true) (hl : t.length ≤ 1048576) :
    Calls Tryz.prog 122 #[valV ⟨5, n, r, g, b, c, t⟩] w (Ans (.string ⟨t.toArray⟩) w) := by
  have HO := Lib.hid (fun w' (hb : Below w.heap.size w w') => ValueOk_impl ⟨5, n, r, g, b, c, t⟩ w' (L.on hb) hl)
  rw [hv] at HO
  unfold valV at HO ⊢
  dsimp only at HO ⊢
  clear hv hl L
  obtain ⟨c0, c1, c2, c3, c4, c5, c6, hlt, hB⟩ := held7_new (.int .i64 5) (.int .i64 n) (.int .i64 r) (.int .i64 g) (.int .i64 b) (.int .i64 c) (.string ⟨t.toArray⟩) 54 (Below.refl w.heap.size w)
  go_enter Tryz.func122, Tryz.ntmps122
  go_wp2_with (go_at_call 135; refine (HO.out _ hB).mono ?_; rintro e w1 ⟨rfl, g1⟩; obtain ⟨d0, d1, d2, d3, d4, d5, d6, hlt', hB'⟩ := held7_call g1 c0 c1 c2 c3 c4 c5 c6 hlt hB)
  go_ret
  exact ⟨rfl, hB'⟩

set_option maxRecDepth 20000 in
set_option maxHeartbeats 2000000 in
theorem ShowI_none (v : Va) (w : World) (L : B5.Pow w) (hv : valueOk v = false) (hl : v.w.length ≤ 1048576) :
    Calls Tryz.prog 122 #[valV v] w (Ans (.string ⟨#[]⟩) w) := by
  have HO := Lib.hid (fun w' (hb : Below w.heap.size w w') => ValueOk_impl v w' (L.on hb) hl)
  rw [hv] at HO
  obtain ⟨k, n, r, g, b, c, t⟩ := v
  unfold valV at HO ⊢
  dsimp only at HO ⊢
  clear hv hl L
  obtain ⟨c0, c1, c2, c3, c4, c5, c6, hlt, hB⟩ := held7_new (.int .i64 k) (.int .i64 n) (.int .i64 r) (.int .i64 g) (.int .i64 b) (.int .i64 c) (.string ⟨t.toArray⟩) 54 (Below.refl w.heap.size w)
  go_enter Tryz.func122, Tryz.ntmps122
  go_wp2_with (go_at_call 135; refine (HO.out _ hB).mono ?_; rintro e w1 ⟨rfl, g1⟩; obtain ⟨d0, d1, d2, d3, d4, d5, d6, hlt', hB'⟩ := held7_call g1 c0 c1 c2 c3 c4 c5 c6 hlt hB)
  go_ret
  exact ⟨rfl, hB'⟩

theorem ShowValue_impl (v : Va) (w : World) (L : B5.Pow w) (hl : v.w.length ≤ 1048576) :
    Calls Tryz.prog 122 #[valV v] w (Ans (.string ⟨(showValue v).toArray⟩) w) := by
  cases hv : valueOk v
  · have : showValue v = [] := by unfold showValue; rw [hv]; rfl
    rw [this]; exact ShowI_none v w L hv hl
  · have hsv : showValue v = showVal v := by unfold showValue; rw [hv]; rfl
    rw [hsv]
    rcases valueOk_cases hv with ⟨hk, h0, h1, e⟩ | ⟨hk, hr, hg, hb, hc, hn, hw⟩ | ⟨hk, hne, hl', hn, e⟩
    · have hs : showVal v = Lib.itoa v.n ++ unitOf v.k := by
        unfold showVal unitOf
        rcases hk with hk | hk | hk
        · rw [if_pos hk, if_neg (by omega), if_neg (by omega)]; simp
        · rw [if_neg (by omega), if_pos hk, if_pos hk]
        · rw [if_neg (by omega), if_neg (by omega), if_pos hk, if_neg (by omega), if_pos hk]
      rw [hs]
      obtain ⟨k, n, r, g, b, c, t⟩ := v
      exact ShowI_num k n r g b c t w L hk h0 h1 hv hl
    · have hs : showVal v = 35 :: colorText v := by unfold showVal; rw [if_neg (by omega), if_neg (by omega), if_neg (by omega), if_pos hk]
      rw [hs]
      obtain ⟨k, n, r, g, b, c, t⟩ := v
      dsimp only at hk hr hg hb hc hn hw
      subst hk hn
      obtain ⟨r', rfl⟩ := Int.eq_ofNat_of_zero_le hr.1
      obtain ⟨g', rfl⟩ := Int.eq_ofNat_of_zero_le hg.1
      obtain ⟨b', rfl⟩ := Int.eq_ofNat_of_zero_le hb.1
      obtain ⟨c', rfl⟩ := Int.eq_ofNat_of_zero_le hc.1
      have hx : colorText ⟨4, 0, r', g', b', c', t⟩ = hexes (if c' = 255 then [r', g', b'] else [r', g', b', c']) := by
        unfold colorText hexes
        dsimp only
        simp only [Int.toNat_natCast]
        by_cases h : c' = 255
        · rw [if_pos (by omega), if_pos h]; simp
        · rw [if_neg (by omega), if_neg h]; simp
      rw [hx]
      exact ShowI_color 0 r' g' b' c' t w L (by omega) (by omega) (by omega) (by omega) hv hl
    · have hs : showVal v = v.w := by unfold showVal; rw [if_neg (by omega), if_neg (by omega), if_neg (by omega), if_neg (by omega)]
      rw [hs]
      obtain ⟨k, n, r, g, b, c, t⟩ := v
      dsimp only at hk
      subst hk
      exact ShowI_word n r g b c t w L hv hl

end Go.Proofs.YtliihnkonakacaaGreatDoor.V6
