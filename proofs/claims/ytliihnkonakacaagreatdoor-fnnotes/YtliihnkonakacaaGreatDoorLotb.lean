/- Contracts of chapter 6's functions of the program: digits, text, colorText, ShowValue. Chapter 9: ShowNotes of the reference and of the program. -/
import Derived.Test.YtliihnkonakacaaGreatDoorImp6b
import Derived.Test.YtliihnkonakacaaGreatDoorFound
import Derived.StillTailTactics
import Derived.Test.YtliihnkonakacaaGreatDoorShow9
import Derived.Test.YtliihnkonakacaaGreatDoorShelf
import Derived.Test.YtliihnkonakacaaGreatDoorImp8c
namespace Go.Proofs.YtliihnkonakacaaGreatDoor.V6
open Go.Proofs.YtliihnkonakacaaGreatDoor.P1 Go.Proofs.YtliihnkonakacaaGreatDoor.B1 Go.Proofs.YtliihnkonakacaaGreatDoor.B2 Go.Proofs.YtliihnkonakacaaGreatDoor.T1 Go.Proofs.YtliihnkonakacaaGreatDoor.BT Go.Proofs.YtliihnkonakacaaGreatDoor.P5 Go.Proofs.YtliihnkonakacaaGreatDoor.P6 Go.Proofs.YtliihnkonakacaaGreatDoor.B5 Go.Proofs.YtliihnkonakacaaGreatDoor.B6 Go.Proofs.YtliihnkonakacaaGreatDoor.S7 Go.Proofs.YtliihnkonakacaaGreatDoor.D1 Go.Proofs.YtliihnkonakacaaGreatDoor.DB
open Go.ChangeShapes Go.WideShapes Go.ChangeAt Go.RowKit
set_option linter.unusedVariables false

theorem digits_impl (n : Int) (w : World) (L : B5.Pow w) (h0 : -9223372036854775808 ≤ n) (h1 : n ≤ 9223372036854775807) :
    Calls Tryz.prog 185 #[.int .i64 n] w (Ans (.string ⟨(Lib.itoa n).toArray⟩) w) := by
  go_enter Tryz.func185, Tryz.ntmps185
  go_wp2_with (go_at_call 160; refine (number_impl _ _ h0 h1 L).mono ?_; rintro e w1 ⟨rfl, g1⟩)
  go_ret
  exact ⟨rfl, g1⟩

set_option maxHeartbeats 2000000 in
theorem text_impl (n : Int) (u : List UInt8) (w : World) (L : B5.Pow w) (h0 : -1000000 ≤ n) (h1 : n ≤ 1000000) (hu : u.length ≤ 10) :
    Calls Tryz.prog 159 #[mV n u] w (Ans (.string ⟨(Lib.itoa n ++ u).toArray⟩) w) := by
  have il := itoa_short (n := n) (by omega) (by omega)
  have HD := Lib.hid (fun w' (hb : Below w.heap.size w w') => digits_impl n w' (L.on hb) (by omega) (by omega))
  obtain ⟨q, eq⟩ : ∃ q, Lib.itoa n = q := ⟨_, rfl⟩
  rw [eq] at HD il ⊢
  obtain ⟨s, es⟩ : ∃ s, q ++ u = s := ⟨_, rfl⟩
  have hadd := str_addT _ _ _ es (by rw [← es, List.length_append]; omega)
  rw [es]
  unfold mV
  clear es eq il hu L
  go_enter Tryz.func159, Tryz.ntmps159
  go_wp2_with fail
  have c0 : (w.alloc (.cells #[.int .i64 n, .string ⟨u.toArray⟩] 169)).cell? ⟨w.heap.size, 0, none⟩ = some (.int .i64 n) := by simp
  have c1 : (w.alloc (.cells #[.int .i64 n, .string ⟨u.toArray⟩] 169)).cell? ⟨w.heap.size, 1, none⟩ = some (.string ⟨u.toArray⟩) := by simp
  have hl : w.heap.size < (w.alloc (.cells #[.int .i64 n, .string ⟨u.toArray⟩] 169)).heap.size := by simp
  have hB : Below w.heap.size w (w.alloc (.cells #[.int .i64 n, .string ⟨u.toArray⟩] 169)) := (Below.refl _ _).alloc (Nat.le_refl _) _
  generalize w.alloc (.cells #[.int .i64 n, .string ⟨u.toArray⟩] 169) = W at *
  generalize hbz : w.heap.size = b at c0 c1 hl ⊢
  clear hbz
  go_region_held3 (fun w' => w'.cell? ⟨b, 0, none⟩ = some (.int .i64 n) ∧ w'.cell? ⟨b, 1, none⟩ = some (.string ⟨u.toArray⟩) ∧ b < w'.heap.size ∧ Below w.heap.size w w')
    (first | with_reducible exact held2_drew c0 c1 hl hB | (go_split_ands; with_reducible exact held2_call hb' (by assumption) (by assumption) (by assumption) (by assumption)))
    (first | (go_at_call 185; refine (HD.out _ (by go_split_ands; assumption)).mono ?_; rintro e w' ⟨rfl, hb'⟩))
  rename_i hS
  obtain ⟨_, _, _, hB'⟩ := hS
  clear hadd
  go_wp2
  go_ret
  exact ⟨rfl, hB'⟩

theorem hexs_at (q : Nat) (h : q < 16) : ([48, 49, 50, 51, 52, 53, 54, 55, 56, 57, 97, 98, 99, 100, 101, 102] : List UInt8)[q]? = some (hexD q) := by
  have : q = 0 ∨ q = 1 ∨ q = 2 ∨ q = 3 ∨ q = 4 ∨ q = 5 ∨ q = 6 ∨ q = 7 ∨ q = 8 ∨ q = 9 ∨ q = 10 ∨ q = 11 ∨ q = 12 ∨ q = 13 ∨ q = 14 ∨ q = 15 := by omega
  rcases this with rfl | rfl | rfl | rfl | rfl | rfl | rfl | rfl | rfl | rfl | rfl | rfl | rfl | rfl | rfl | rfl <;> rfl

theorem cell_two_new (w : World) (v0 v1 : Value) (t : TypeId) : ∀ j u, [v0, v1][j]? = some u → (w.alloc (.cells #[v0, v1] t)).cell? ((⟨w.heap.size, 0, none⟩ : Addr).add j) = some u := by
  intro j u hj
  rw [add_zero_at]
  match j, hj with
  | 0, hj => obtain rfl := Option.some.inj hj; simp
  | 1, hj => obtain rfl := Option.some.inj hj; simp

theorem byteInfo6 : (Tryz.prog.info? 5).map (fun i => (i.zero, i.size, i.bytes)) = some (some (.int .u8 0), 1, 1) := by kernel_rfl

def hexes (ns : List Nat) : List UInt8 := ns.flatMap hex2

theorem hexes_more {ns : List Nat} {i x : Nat} (h : ns[i]? = some x) : hexes (ns.take (i + 1)) = hexes (ns.take i) ++ hex2 x := by
  unfold hexes
  rw [List.take_add_one, h]
  simp

theorem hexes_len (ns : List Nat) : (hexes ns).length = 2 * ns.length := by
  induction ns with
  | nil => rfl
  | cons x t ih => simp only [hexes, List.flatMap_cons, List.length_append, List.length_cons] at ih ⊢; rw [ih]; simp [hex2]; omega

set_option maxRecDepth 20000 in
set_option maxHeartbeats 2000000 in
/-- The loop of colorText, over the first L of four shades. -/
theorem colorText_impl (r g b c : Nat) (w : World) (hr : r ≤ 255) (hg : g ≤ 255) (hb : b ≤ 255) (hc : c ≤ 255) :
    Calls Tryz.prog 156 #[shV r g b c] w (Ans (.string ⟨(35 :: hexes (if c = 255 then [r, g, b] else [r, g, b, c])).toArray⟩) w) := by
  obtain ⟨i0, hi, hz0, hz1, hz2⟩ := info_parts byteInfo6
  have h255 : ∀ x ∈ [r, g, b, c], x ≤ 255 := by simp; omega
  have H255 := Lib.hid h255
  have hlit := (World.ownsRow_lit (base := w.heap.size + 1) (e := 5) (size := 1) (w.alloc (.cells #[.int .i64 r, .int .i64 g, .int .i64 b, .int .i64 c] 165)) #[.int .u8 35] 1 (by simp) (by decide) rfl)
  have hb0 : Below w.heap.size w (w.alloc (.cells #[.int .i64 r, .int .i64 g, .int .i64 b, .int .i64 c] 165)) := (Below.refl _ _).alloc (Nat.le_refl _) _
  have hq : LBlk (w.alloc (.cells #[.int .i64 r, .int .i64 g, .int .i64 b, .int .i64 c] 165)) w.heap.size [.int .i64 r, .int .i64 g, .int .i64 b, .int .i64 c] := LBlk.new w _ _
  unfold shV
  clear hr hg hb hc
  by_cases hc : c = 255
  · have hcc : ((c : Int) == 255) = true := by simp; omega
    rw [if_pos hc]
    clear hc
    go_enter Tryz.func156, Tryz.ntmps156
    go_wp2
    rw [World.size_alloc] at hlit
    generalize hW0 : w.alloc (.cells #[.int .i64 r, .int .i64 g, .int .i64 b, .int .i64 c] 165) = W0 at *
    have hWs : W0.heap.size = w.heap.size + 1 := by rw [← hW0]; simp
    clear hW0
    generalize hwb : w.heap.size = bx at *
    have HWB := Lib.hid hwb
    have HWS := Lib.hid hWs
    clear hwb hWs
    have hB1 : Below (bx + 1) W0 (W0.alloc (.cells #[.int .u8 35] 5)) := (Below.refl _ _).alloc (by rw [HWS.out]; exact Nat.le_refl _) _
    have HQ := Lib.hid hq
    clear hq
    go_loopg [4, 15] 3 (fun kx s4 s15 wr => ∃ (i N : Nat) (done : List UInt8) (p4 : Value), p4 = s4 ∧ s15 = .int .i64 (i : Int) ∧ kx + i = 3 ∧ wr.ownsRow (bx + 1) 5 1 s4 N (bytesV done) ∧ s4 ≠ .slice none 0 0 ∧ Hid (done.length = N) ∧ Hid (done = 35 :: hexes ([r, g, b].take i)) ∧ Below (bx + 1) W0 wr)
    case atStart => exact ⟨0, 1, [35], _, rfl, rfl, by omega, hlit, by simp, Lib.hid rfl, Lib.hid rfl, hB1⟩
    case round =>
      obtain ⟨i, N, done, p4, rfl, rfl, hk, hown, hnn, HN, I, hB⟩ := hrel
      clear hlit hB1
      have hfew : N ≤ 20 := by
        rw [← HN.out, I.out, List.length_cons, hexes_len, List.length_take]
        simp; omega
      by_cases hlt : i < 3
      · have hlt' : (i : Int) < 3 := by omega
        have i0' : (0 : Int) ≤ (i : Int) := by omega
        obtain ⟨x, hx⟩ : ∃ x, [r, g, b][i]? = some x := ⟨_, List.getElem?_eq_getElem hlt⟩
        have hxl : x ≤ 255 := H255.out x (by have := List.mem_of_getElem? hx; simp at this ⊢; omega)
        have hcell : wr.cell? ⟨bx, i, none⟩ = some (.int .i64 (x : Int)) := by
          refine (hB.cell (p := ⟨bx, i, none⟩) (by simp)).trans (HQ.out.2 i _ ?_).1
          obtain rfl | rfl | rfl : i = 0 ∨ i = 1 ∨ i = 2 := by omega
          all_goals (obtain rfl := Option.some.inj hx; rfl)
        have HX := Lib.hid hx
        obtain ⟨q, eq⟩ : ∃ q, x / 16 = q := ⟨_, rfl⟩
        obtain ⟨r', er⟩ : ∃ r', x % 16 = r' := ⟨_, rfl⟩
        have hq16 : q < 16 := by omega
        have hr16 : r' < 16 := by omega
        have hqd : (x : Int) / 16 = (q : Int) := by omega
        have hrd : (x : Int) % 16 = (r' : Int) := by omega
        have Hx2 := Lib.hid (show hex2 x = [hexD q, hexD r'] by rw [← eq, ← er]; rfl)
        have hqw : IntKind.i64.wrap (q : Int) = (q : Int) := by rw [IntKind.wrap_i64]; omega
        have hrw : IntKind.i64.wrap (r' : Int) = (r' : Int) := by rw [IntKind.wrap_i64]; omega
        have hrt : (x : Int).tmod 16 = (r' : Int) := by rw [Int.tmod_eq_emod_of_nonneg (by omega)]; exact hrd
        have x0 : (0 : Int) ≤ (x : Int) := by omega
        have x1 : (x : Int) ≤ 255 := by omega
        obtain ⟨dq, edq⟩ : ∃ dq, (hexD q).toNat = dq := ⟨_, rfl⟩
        obtain ⟨dr, edr⟩ : ∃ dr, (hexD r').toNat = dr := ⟨_, rfl⟩
        have aq := fun w' => str_atN _ q dq (by rw [hexs_at q hq16, ← edq]; rfl) w'
        have ar := fun w' => str_atN _ r' dr (by rw [hexs_at r' hr16, ← edr]; rfl) w'
        have Hnews := Lib.hid (show [Value.int .u8 (dq : Int), Value.int .u8 (dr : Int)] = bytesV (hex2 x) by rw [Hx2.out, ← edq, ← edr]; rfl)
        clear hx eq er edq edr
        go_wp2_with fail
        go_region_law (first | (refine step_append_mine rfl (.tmp 19) (.tmp 26) 22 rfl (bx + 1) 5 i0 _ 1 1 Tryz.underlying22 hi hz0 hz1 hz2 rfl (by decide) p4 N (bytesV done) rfl (World.ownsRow.alloc (w := wr.drew) hown _) ⟨wr.heap.size, 0, none⟩ 2 2 [.int .u8 (dq : Int), .int .u8 (dr : Int)] rfl rfl (cell_two_new wr.drew _ _ _) (by simp [Value.oneCell']) (by simp [maxLen]; omega) (by omega) (by have := hB.size; have := HWS.out; simp; omega) ?_; intro v4 w4 hown4 hgrow4 hnil4))
        all_goals
          have hnew : w4.ownsRow (bx + 1) 5 1 v4 (N + 2) (bytesV (done ++ hex2 x)) := by
            rw [Hnews.out] at hown4
            rwa [show bytesV (done ++ hex2 x) = bytesV done ++ bytesV (hex2 x) by simp [bytesV]]
          have hne4 : v4 ≠ .slice none 0 0 := fun e => hnn (hnil4.1 e).1
          have HN2 := Lib.hid (show (done ++ hex2 x).length = N + 2 by rw [List.length_append, HN.out]; rfl)
          have HI2 := Lib.hid (show done ++ hex2 x = 35 :: hexes ([r, g, b].take (i + 1)) by rw [hexes_more HX.out, I.out]; rfl)
          have hA := hB.alloc (by have := hB.size; have := HWS.out; omega) (.cells #[.int .u8 (dq : Int), .int .u8 (dr : Int)] 5)
          have hAd : Below (bx + 1) W0 (wr.alloc (.cells #[.int .u8 (dq : Int), .int .u8 (dr : Int)] 5)).drew := ⟨hA.os, hA.tape, hA.output, hA.size, hA.block⟩
          have hB4 := hAd.grown hgrow4 (by have := hB.size; have := HWS.out; simp; omega) (fun k hk => (World.ownsRow.lt hown k hk).1)
          clear hown4 hgrow4 hnil4 hA hAd
          go_wp2_with fail
          go_roundg (3 - (i + 1))
          case measure => omega
          case rel => exact ⟨i + 1, N + 2, done ++ hex2 x, _, rfl, by go_num, by omega, hnew, hne4, HN2, HI2, hB4⟩
      · have hlt' : ¬ (i : Int) < 3 := by omega
        have HD := Lib.hid (show done = 35 :: hexes [r, g, b] by rw [I.out, List.take_of_length_le (by simp; omega)])
        obtain ⟨gq, cap, rfl, hbt⟩ := Bts.own hown hnn
        have hconv := hbt.text
        rw [HN.out] at hconv ⊢
        go_wp2
        go_ret
        exact ⟨by rw [← HD.out]; rfl, by rw [HWB.out]; exact hb0.trans (hB.mono (by omega))⟩
  · have hcc : ((c : Int) == 255) = false := by simp; omega
    rw [if_neg hc]
    clear hc
    go_enter Tryz.func156, Tryz.ntmps156
    go_wp2
    rw [World.size_alloc] at hlit
    generalize hW0 : w.alloc (.cells #[.int .i64 r, .int .i64 g, .int .i64 b, .int .i64 c] 165) = W0 at *
    have hWs : W0.heap.size = w.heap.size + 1 := by rw [← hW0]; simp
    clear hW0
    generalize hwb : w.heap.size = bx at *
    have HWB := Lib.hid hwb
    have HWS := Lib.hid hWs
    clear hwb hWs
    have hB1 : Below (bx + 1) W0 (W0.alloc (.cells #[.int .u8 35] 5)) := (Below.refl _ _).alloc (by rw [HWS.out]; exact Nat.le_refl _) _
    have HQ := Lib.hid hq
    clear hq
    go_loopg [4, 15] 4 (fun kx s4 s15 wr => ∃ (i N : Nat) (done : List UInt8) (p4 : Value), p4 = s4 ∧ s15 = .int .i64 (i : Int) ∧ kx + i = 4 ∧ wr.ownsRow (bx + 1) 5 1 s4 N (bytesV done) ∧ s4 ≠ .slice none 0 0 ∧ Hid (done.length = N) ∧ Hid (done = 35 :: hexes ([r, g, b, c].take i)) ∧ Below (bx + 1) W0 wr)
    case atStart => exact ⟨0, 1, [35], _, rfl, rfl, by omega, hlit, by simp, Lib.hid rfl, Lib.hid rfl, hB1⟩
    case round =>
      obtain ⟨i, N, done, p4, rfl, rfl, hk, hown, hnn, HN, I, hB⟩ := hrel
      clear hlit hB1
      have hfew : N ≤ 20 := by
        rw [← HN.out, I.out, List.length_cons, hexes_len, List.length_take]
        simp; omega
      by_cases hlt : i < 4
      · have hlt' : (i : Int) < 4 := by omega
        have i0' : (0 : Int) ≤ (i : Int) := by omega
        obtain ⟨x, hx⟩ : ∃ x, [r, g, b, c][i]? = some x := ⟨_, List.getElem?_eq_getElem hlt⟩
        have hxl : x ≤ 255 := H255.out x (by have := List.mem_of_getElem? hx; simp at this ⊢; omega)
        have hcell : wr.cell? ⟨bx, i, none⟩ = some (.int .i64 (x : Int)) := by
          refine (hB.cell (p := ⟨bx, i, none⟩) (by simp)).trans (HQ.out.2 i _ ?_).1
          obtain rfl | rfl | rfl | rfl : i = 0 ∨ i = 1 ∨ i = 2 ∨ i = 3 := by omega
          all_goals (obtain rfl := Option.some.inj hx; rfl)
        have HX := Lib.hid hx
        obtain ⟨q, eq⟩ : ∃ q, x / 16 = q := ⟨_, rfl⟩
        obtain ⟨r', er⟩ : ∃ r', x % 16 = r' := ⟨_, rfl⟩
        have hq16 : q < 16 := by omega
        have hr16 : r' < 16 := by omega
        have hqd : (x : Int) / 16 = (q : Int) := by omega
        have hrd : (x : Int) % 16 = (r' : Int) := by omega
        have Hx2 := Lib.hid (show hex2 x = [hexD q, hexD r'] by rw [← eq, ← er]; rfl)
        have hqw : IntKind.i64.wrap (q : Int) = (q : Int) := by rw [IntKind.wrap_i64]; omega
        have hrw : IntKind.i64.wrap (r' : Int) = (r' : Int) := by rw [IntKind.wrap_i64]; omega
        have hrt : (x : Int).tmod 16 = (r' : Int) := by rw [Int.tmod_eq_emod_of_nonneg (by omega)]; exact hrd
        have x0 : (0 : Int) ≤ (x : Int) := by omega
        have x1 : (x : Int) ≤ 255 := by omega
        obtain ⟨dq, edq⟩ : ∃ dq, (hexD q).toNat = dq := ⟨_, rfl⟩
        obtain ⟨dr, edr⟩ : ∃ dr, (hexD r').toNat = dr := ⟨_, rfl⟩
        have aq := fun w' => str_atN _ q dq (by rw [hexs_at q hq16, ← edq]; rfl) w'
        have ar := fun w' => str_atN _ r' dr (by rw [hexs_at r' hr16, ← edr]; rfl) w'
        have Hnews := Lib.hid (show [Value.int .u8 (dq : Int), Value.int .u8 (dr : Int)] = bytesV (hex2 x) by rw [Hx2.out, ← edq, ← edr]; rfl)
        clear hx eq er edq edr
        go_wp2_with fail
        go_region_law (first | (refine step_append_mine rfl (.tmp 19) (.tmp 26) 22 rfl (bx + 1) 5 i0 _ 1 1 Tryz.underlying22 hi hz0 hz1 hz2 rfl (by decide) p4 N (bytesV done) rfl (World.ownsRow.alloc (w := wr.drew) hown _) ⟨wr.heap.size, 0, none⟩ 2 2 [.int .u8 (dq : Int), .int .u8 (dr : Int)] rfl rfl (cell_two_new wr.drew _ _ _) (by simp [Value.oneCell']) (by simp [maxLen]; omega) (by omega) (by have := hB.size; have := HWS.out; simp; omega) ?_; intro v4 w4 hown4 hgrow4 hnil4))
        all_goals
          have hnew : w4.ownsRow (bx + 1) 5 1 v4 (N + 2) (bytesV (done ++ hex2 x)) := by
            rw [Hnews.out] at hown4
            rwa [show bytesV (done ++ hex2 x) = bytesV done ++ bytesV (hex2 x) by simp [bytesV]]
          have hne4 : v4 ≠ .slice none 0 0 := fun e => hnn (hnil4.1 e).1
          have HN2 := Lib.hid (show (done ++ hex2 x).length = N + 2 by rw [List.length_append, HN.out]; rfl)
          have HI2 := Lib.hid (show done ++ hex2 x = 35 :: hexes ([r, g, b, c].take (i + 1)) by rw [hexes_more HX.out, I.out]; rfl)
          have hA := hB.alloc (by have := hB.size; have := HWS.out; omega) (.cells #[.int .u8 (dq : Int), .int .u8 (dr : Int)] 5)
          have hAd : Below (bx + 1) W0 (wr.alloc (.cells #[.int .u8 (dq : Int), .int .u8 (dr : Int)] 5)).drew := ⟨hA.os, hA.tape, hA.output, hA.size, hA.block⟩
          have hB4 := hAd.grown hgrow4 (by have := hB.size; have := HWS.out; simp; omega) (fun k hk => (World.ownsRow.lt hown k hk).1)
          clear hown4 hgrow4 hnil4 hA hAd
          go_wp2_with fail
          go_roundg (4 - (i + 1))
          case measure => omega
          case rel => exact ⟨i + 1, N + 2, done ++ hex2 x, _, rfl, by go_num, by omega, hnew, hne4, HN2, HI2, hB4⟩
      · have hlt' : ¬ (i : Int) < 4 := by omega
        have HD := Lib.hid (show done = 35 :: hexes [r, g, b, c] by rw [I.out, List.take_of_length_le (by simp; omega)])
        obtain ⟨gq, cap, rfl, hbt⟩ := Bts.own hown hnn
        have hconv := hbt.text
        rw [HN.out] at hconv ⊢
        go_wp2
        go_ret
        exact ⟨by rw [← HD.out]; rfl, by rw [HWB.out]; exact hb0.trans (hB.mono (by omega))⟩

set_option maxRecDepth 20000 in
set_option maxHeartbeats 2000000 in
theorem ShowI_num (k n r g b c : Int) (t : List UInt8) (w : World) (L : B5.Pow w) (hk : k = 1 ∨ k = 2 ∨ k = 3) (h0 : -1000000 ≤ n) (h1 : n ≤ 1000000) (hv : valueOk ⟨k, n, r, g, b, c, t⟩ = true) (hl : t.length ≤ 1048576) :
    Calls Tryz.prog 122 #[valV ⟨k, n, r, g, b, c, t⟩] w (Ans (.string ⟨(Lib.itoa n ++ unitOf k).toArray⟩) w) := by
  have HO := Lib.hid (fun w' (hb : Below w.heap.size w w') => ValueOk_impl ⟨k, n, r, g, b, c, t⟩ w' (L.on hb) hl)
  rw [hv] at HO
  have HM := Lib.hid (fun w' => measureOf_impl k n r g b c t w' hk)
  have HT := Lib.hid (fun w' (hb : Below w.heap.size w w') => text_impl n (unitOf k) w' (L.on hb) h0 h1 (by rcases hk with rfl | rfl | rfl <;> decide))
  generalize unitOf k = u at HM HT ⊢
  generalize Lib.itoa n ++ u = s at HT ⊢
  have k4 : (k == 4) = false := by simp; omega
  have k5 : (k == 5) = false := by simp; omega
  unfold valV at HO HM ⊢
  unfold mV at HM HT
  dsimp only at HO HM ⊢
  clear hk h0 h1 hv hl L
  obtain ⟨c0, c1, c2, c3, c4, c5, c6, hlt, hB⟩ := held7_new (.int .i64 k) (.int .i64 n) (.int .i64 r) (.int .i64 g) (.int .i64 b) (.int .i64 c) (.string ⟨t.toArray⟩) 54 (Below.refl w.heap.size w)
  go_enter Tryz.func122, Tryz.ntmps122
  go_wp2_with (first | (go_at_call 135; refine (HO.out _ hB).mono ?_; rintro e w1 ⟨rfl, g1⟩; obtain ⟨d0, d1, d2, d3, d4, d5, d6, hlt', hB'⟩ := held7_call g1 c0 c1 c2 c3 c4 c5 c6 hlt hB) | (go_at_call 158; refine (HM.out _).mono ?_; rintro e w2 ⟨rfl, g2⟩; have hB2 := hB'.trans (g2.mono hB'.size)) | (go_at_call 159; refine (HT.out _ hB2).mono ?_; rintro e w3 ⟨rfl, g3⟩))
  go_ret
  exact ⟨rfl, hB2.trans (g3.mono hB2.size)⟩

set_option maxRecDepth 20000 in
set_option maxHeartbeats 2000000 in
theorem ShowI_color (n r g b c : Nat) (t : List UInt8) (w : World) (L : B5.Pow w) (hr : r ≤ 255) (hg : g ≤ 255) (hb : b ≤ 255) (hc : c ≤ 255) (hv : valueOk ⟨4, n, r, g, b, c, t⟩ = true) (hl : t.length ≤ 1048576) :
    Calls Tryz.prog 122 #[valV ⟨4, n, r, g, b, c, t⟩] w (Ans (.string ⟨(35 :: hexes (if c = 255 then [r, g, b] else [r, g, b, c])).toArray⟩) w) := by
  have HO := Lib.hid (fun w' (hb : Below w.heap.size w w') => ValueOk_impl ⟨4, n, r, g, b, c, t⟩ w' (L.on hb) hl)
  rw [hv] at HO
  have HM := Lib.hid (fun w' => shadesOf_impl ⟨4, n, r, g, b, c, t⟩ w')
  have HT := Lib.hid (fun w' => colorText_impl r g b c w' hr hg hb hc)
  generalize 35 :: hexes (if c = 255 then [r, g, b] else [r, g, b, c]) = s at HT ⊢
  unfold valV at HO HM ⊢
  unfold shV at HM HT
  dsimp only at HO HM ⊢
  clear hr hg hb hc hv hl L
  obtain ⟨c0, c1, c2, c3, c4, c5, c6, hlt, hB⟩ := held7_new (.int .i64 4) (.int .i64 n) (.int .i64 r) (.int .i64 g) (.int .i64 b) (.int .i64 c) (.string ⟨t.toArray⟩) 54 (Below.refl w.heap.size w)
  go_enter Tryz.func122, Tryz.ntmps122
  go_wp2_with (first | (go_at_call 135; refine (HO.out _ hB).mono ?_; rintro e w1 ⟨rfl, g1⟩; obtain ⟨d0, d1, d2, d3, d4, d5, d6, hlt', hB'⟩ := held7_call g1 c0 c1 c2 c3 c4 c5 c6 hlt hB) | (go_at_call 157; refine (HM.out _).mono ?_; rintro e w2 ⟨rfl, g2⟩; have hB2 := hB'.trans (g2.mono hB'.size)) | (go_at_call 156; refine (HT.out _).mono ?_; rintro e w3 ⟨rfl, g3⟩))
  go_ret
  exact ⟨rfl, hB2.trans (g3.mono hB2.size)⟩

set_option maxRecDepth 20000 in
set_option maxHeartbeats 2000000 in
theorem ShowI_word (n r g b c : Int) (t : List UInt8) (w : World) (L : B5.Pow w) (hv : valueOk ⟨5, n, r, g, b, c, t⟩ = true) (hl : t.length ≤ 1048576) :
    Calls Tryz.prog 122 #[valV ⟨5, n, r, g, b, c, t⟩] w (Ans (.string ⟨t.toArray⟩) w) := by
  have HO := Lib.hid (fun w' (hb : Below w.heap.size w w') => ValueOk_impl ⟨5, n, r, g, b, c, t⟩ w' (L.on hb) hl)
  rw [hv] at HO
  unfold valV at HO ⊢
  dsimp only at HO ⊢
  clear hv hl L
  obtain ⟨c0, c1, c2, c3, c4, c5, c6, hlt, hB⟩ := held7_new (.int .i64 5) (.int .i64 n) (.int .i64 r) (.int .i64 g) (.int .i64 b) (.int .i64 c) (.string ⟨t.toArray⟩) 54 (Below.refl w.heap.size w)
  go_enter Tryz.func122, Tryz.ntmps122
  go_wp2_with (go_at_call 135; refine (HO.out _ hB).mono ?_; rintro e w1 ⟨rfl, g1⟩; obtain ⟨d0, d1, d2, d3, d4, d5, d6, hlt', hB'⟩ := held7_call g1 c0 c1 c2 c3 c4 c5 c6 hlt hB)
  go_ret
  exact ⟨rfl, hB'⟩

set_option maxRecDepth 20000 in
set_option maxHeartbeats 2000000 in
theorem ShowI_none (v : Va) (w : World) (L : B5.Pow w) (hv : valueOk v = false) (hl : v.w.length ≤ 1048576) :
    Calls Tryz.prog 122 #[valV v] w (Ans (.string ⟨#[]⟩) w) := by
  have HO := Lib.hid (fun w' (hb : Below w.heap.size w w') => ValueOk_impl v w' (L.on hb) hl)
  rw [hv] at HO
  obtain ⟨k, n, r, g, b, c, t⟩ := v
  unfold valV at HO ⊢
  dsimp only at HO ⊢
  clear hv hl L
  obtain ⟨c0, c1, c2, c3, c4, c5, c6, hlt, hB⟩ := held7_new (.int .i64 k) (.int .i64 n) (.int .i64 r) (.int .i64 g) (.int .i64 b) (.int .i64 c) (.string ⟨t.toArray⟩) 54 (Below.refl w.heap.size w)
  go_enter Tryz.func122, Tryz.ntmps122
  go_wp2_with (go_at_call 135; refine (HO.out _ hB).mono ?_; rintro e w1 ⟨rfl, g1⟩; obtain ⟨d0, d1, d2, d3, d4, d5, d6, hlt', hB'⟩ := held7_call g1 c0 c1 c2 c3 c4 c5 c6 hlt hB)
  go_ret
  exact ⟨rfl, hB'⟩

theorem ShowValue_impl (v : Va) (w : World) (L : B5.Pow w) (hl : v.w.length ≤ 1048576) :
    Calls Tryz.prog 122 #[valV v] w (Ans (.string ⟨(showValue v).toArray⟩) w) := by
  cases hv : valueOk v
  · have : showValue v = [] := by unfold showValue; rw [hv]; rfl
    rw [this]; exact ShowI_none v w L hv hl
  · have hsv : showValue v = showVal v := by unfold showValue; rw [hv]; rfl
    rw [hsv]
    rcases valueOk_cases hv with ⟨hk, h0, h1, e⟩ | ⟨hk, hr, hg, hb, hc, hn, hw⟩ | ⟨hk, hne, hl', hn, e⟩
    · have hs : showVal v = Lib.itoa v.n ++ unitOf v.k := by
        unfold showVal unitOf
        rcases hk with hk | hk | hk
        · rw [if_pos hk, if_neg (by omega), if_neg (by omega)]; simp
        · rw [if_neg (by omega), if_pos hk, if_pos hk]
        · rw [if_neg (by omega), if_neg (by omega), if_pos hk, if_neg (by omega), if_pos hk]
      rw [hs]
      obtain ⟨k, n, r, g, b, c, t⟩ := v
      exact ShowI_num k n r g b c t w L hk h0 h1 hv hl
    · have hs : showVal v = 35 :: colorText v := by unfold showVal; rw [if_neg (by omega), if_neg (by omega), if_neg (by omega), if_pos hk]
      rw [hs]
      obtain ⟨k, n, r, g, b, c, t⟩ := v
      dsimp only at hk hr hg hb hc hn hw
      subst hk hn
      obtain ⟨r', rfl⟩ := Int.eq_ofNat_of_zero_le hr.1
      obtain ⟨g', rfl⟩ := Int.eq_ofNat_of_zero_le hg.1
      obtain ⟨b', rfl⟩ := Int.eq_ofNat_of_zero_le hb.1
      obtain ⟨c', rfl⟩ := Int.eq_ofNat_of_zero_le hc.1
      have hx : colorText ⟨4, 0, r', g', b', c', t⟩ = hexes (if c' = 255 then [r', g', b'] else [r', g', b', c']) := by
        unfold colorText hexes
        dsimp only
        simp only [Int.toNat_natCast]
        by_cases h : c' = 255
        · rw [if_pos (by omega), if_pos h]; simp
        · rw [if_neg (by omega), if_neg h]; simp
      rw [hx]
      exact ShowI_color 0 r' g' b' c' t w L (by omega) (by omega) (by omega) (by omega) hv hl
    · have hs : showVal v = v.w := by unfold showVal; rw [if_neg (by omega), if_neg (by omega), if_neg (by omega), if_neg (by omega)]
      rw [hs]
      obtain ⟨k, n, r, g, b, c, t⟩ := v
      dsimp only at hk
      subst hk
      exact ShowI_word n r g b c t w L hv hl

end Go.Proofs.YtliihnkonakacaaGreatDoor.V6

namespace Go.Proofs.YtliihnkonakacaaGreatDoor.B9
open Go.Proofs.YtliihnkonakacaaGreatDoor.P1 Go.Proofs.YtliihnkonakacaaGreatDoor.B1 Go.Proofs.YtliihnkonakacaaGreatDoor.B2 Go.Proofs.YtliihnkonakacaaGreatDoor.T1 Go.Proofs.YtliihnkonakacaaGreatDoor.BT Go.Proofs.YtliihnkonakacaaGreatDoor.P5 Go.Proofs.YtliihnkonakacaaGreatDoor.P6 Go.Proofs.YtliihnkonakacaaGreatDoor.P8 Go.Proofs.YtliihnkonakacaaGreatDoor.P9 Go.Proofs.YtliihnkonakacaaGreatDoor.B5 Go.Proofs.YtliihnkonakacaaGreatDoor.B6 Go.Proofs.YtliihnkonakacaaGreatDoor.V6 Go.Proofs.YtliihnkonakacaaGreatDoor.B8 Go.Proofs.YtliihnkonakacaaGreatDoor.D1 Go.Proofs.YtliihnkonakacaaGreatDoor.W8 Go.Proofs.YtliihnkonakacaaGreatDoor.RC Go.Proofs.YtliihnkonakacaaGreatDoor.RI
open Go.ChangeShapes Go.WideShapes Go.ChangeAt Go.RowKit
set_option linter.unusedVariables false

set_option maxRecDepth 20000 in
set_option maxHeartbeats 2000000 in
theorem ShowNotes_spec (ns : List No) (v : Value) (w : World) (h : NoSlc w v ns) (hs : ns.length ≤ 2000000) (hx : ∀ n ∈ ns, n.v.w.length ≤ 1048576) :
    Calls Tryz.prog 41 #[v] w (Ans (.string ⟨(showNotes ns).toArray⟩) w) := by
  have HA := Lib.hid (Notes_spec ns v w h hs hx)
  have HV := Lib.hid h
  obtain ⟨a, cap, rfl, _⟩ := h.form
  obtain ⟨n, hn⟩ : ∃ n, ns.length = n := ⟨_, rfl⟩
  rw [hn] at HA HV ⊢
  clear h hs hx hn
  cases ho : notesOk ns
  · have HE := Lib.hid (show showNotes ns = [] by unfold showNotes; rw [ho]; rfl)
    rw [ho] at HA
    clear ho
    go_enter Tryz.func41, Tryz.ntmps41
    go_wp2_with (go_at_call 84; refine HA.out.mono ?_; rintro e w1 ⟨rfl, g1⟩)
    go_ret
    exact ⟨by rw [HE.out]; rfl, g1⟩
  · have HE := Lib.hid (show showNotes ns = joinBy [59, 32] (ns.map showNote) by unfold showNotes; rw [ho]; rfl)
    have HS := Lib.hid (fun w' (hb : Below w.heap.size w w') => Show9_spec ns _ w' (HV.out.on hb) (notesOk_len ho).1 (notesOk_len ho).2)
    rw [ho] at HA
    clear ho
    go_enter Tryz.func41, Tryz.ntmps41
    go_wp2_with (first | (go_at_call 84; refine HA.out.mono ?_; rintro e w1 ⟨rfl, g1⟩) | (go_at_call 85; refine (HS.out _ g1).mono ?_; rintro e w2 ⟨rfl, g2⟩))
    go_ret
    exact ⟨by rw [HE.out]; rfl, g1.trans (g2.mono g1.size)⟩

/-- A note of the program's: its numbers fit. -/
def NoF (n : No) : Prop := (-9223372036854775808 ≤ n.l ∧ n.l ≤ 9223372036854775807) ∧ n.v.w.length ≤ 1048576

set_option maxRecDepth 20000 in
set_option maxHeartbeats 2000000 in
theorem allOk_notes (ns : List No) (v : Value) (w : World) (L : Pow w) (h : NoSlc w v ns) (hs : ns.length ≤ 2000000) (hx : ∀ n ∈ ns, NoF n) :
    Calls Tryz.prog 120 #[v, .func (.func 42) #[] #[]] w (Ans (.bool (ns.all noteOk)) w) := by
  obtain ⟨a, cap, rfl, hnc, hcap, HA⟩ := h.form
  obtain ⟨n, hn⟩ : ∃ n, ns.length = n := ⟨_, rfl⟩
  rw [hn] at hnc hs ⊢
  have HN := Lib.hid hn
  have hnc' : (n : Int) ≤ (cap : Int) := by omega
  have hs' : (n : Int) ≤ 2000000 := by omega
  have HX := Lib.hid hx
  have HP := Lib.hid L
  replace HA := Lib.hid HA
  clear h hn hcap hx L
  go_enter Tryz.func120, Tryz.ntmps120
  go_wp2_with fail
  go_loopg [9] n (fun kx s9 wr => ∃ i : Nat, s9 = .int .i64 (i : Int) ∧ kx + i = n ∧ Hid (∀ j x, j < i → ns[j]? = some x → noteOk x = true) ∧ Below w.heap.size w wr)
  case atStart => exact ⟨0, rfl, by omega, Lib.hid (fun j x h => absurd h (Nat.not_lt_zero _)), Below.refl _ _⟩
  case round =>
    obtain ⟨i, rfl, hk, I, hB⟩ := hrel
    by_cases hlt : i < n
    · have hlt' : (i : Int) < (n : Int) := by omega
      have i0' : (0 : Int) ≤ (i : Int) := by omega
      obtain ⟨x, hx⟩ : ∃ x, ns[i]? = some x := ⟨_, List.getElem?_eq_getElem (by rw [HN.out]; exact hlt)⟩
      obtain ⟨g, off, rfl, hat⟩ := HA.out (by intro e0; rw [e0] at hx; cases hx)
      have HLD := Lib.hid (no_load (hat.on hB) hx)
      obtain ⟨w2, hst, hl2, g2⟩ := no_laid wr x
      have HST := Lib.hid hst
      have hB2 := hB.trans (g2.mono hB.size)
      have HL2 := Lib.hid (show (loadVar 56 ⟨wr.heap.size, 0, none⟩).run Tryz.prog w2 = .ok (noV x) w2 from load_blk hl2 no_wide)
      have hf := HX.out x (List.mem_of_getElem? hx)
      have HO := Lib.hid (NoteOk_impl x hf.1 hf.2 w2 (HP.out.on hB2))
      have HXX := Lib.hid hx
      clear hx hat hst hl2 g2 hf
      cases hok : noteOk x
      · have HE := Lib.hid (show ns.all noteOk = false by
          rw [Bool.eq_false_iff]
          intro ha
          have := List.all_eq_true.1 ha x (List.mem_of_getElem? HXX.out)
          rw [hok] at this; cases this)
        rw [hok] at HO
        clear hok
        go_wp2_with (first | (go_at_call 42; refine HO.out.mono ?_; rintro e w3 ⟨rfl, g3⟩) | ((with_reducible refine wp_load_at HLD.out ?_ ?_); exact And.intro rfl (And.intro rfl rfl)) | ((with_reducible refine wp_load_at HL2.out ?_ ?_); exact And.intro rfl (And.intro rfl rfl)) | ((with_reducible refine wp_store_at HST.out ?_ ?_); exact And.intro rfl (And.intro rfl (And.intro rfl rfl))))
        go_ret
        exact ⟨by rw [HE.out]; rfl, hB2.trans (g3.mono hB2.size)⟩
      · have HI := Lib.hid (show ∀ j y, j < i + 1 → ns[j]? = some y → noteOk y = true from fun j y hj hy => by
          rcases Nat.lt_or_eq_of_le (Nat.le_of_lt_succ hj) with h | h
          · exact I.out j y h hy
          · rw [h, HXX.out] at hy; cases hy; exact hok)
        rw [hok] at HO
        clear hok
        go_wp2_with (first | (go_at_call 42; refine HO.out.mono ?_; rintro e w3 ⟨rfl, g3⟩) | ((with_reducible refine wp_load_at HLD.out ?_ ?_); exact And.intro rfl (And.intro rfl rfl)) | ((with_reducible refine wp_load_at HL2.out ?_ ?_); exact And.intro rfl (And.intro rfl rfl)) | ((with_reducible refine wp_store_at HST.out ?_ ?_); exact And.intro rfl (And.intro rfl (And.intro rfl rfl))))
        go_roundg (n - (i + 1))
        case measure => omega
        case rel => exact ⟨i + 1, by go_num, by omega, HI, hB2.trans (g3.mono hB2.size)⟩
    · have hlt' : ¬ (i : Int) < (n : Int) := by omega
      have HE := Lib.hid (show ns.all noteOk = true by
        rw [List.all_eq_true]
        intro x hx
        obtain ⟨j, hj, e⟩ := List.getElem_of_mem hx
        exact I.out j x (by rw [HN.out] at hj; omega) (by rw [List.getElem?_eq_getElem hj, e]))
      go_wp2_with fail
      go_ret
      exact ⟨by rw [HE.out]; rfl, hB⟩

set_option maxRecDepth 20000 in
set_option maxHeartbeats 2000000 in
theorem notesOk_impl (ns : List No) (v : Value) (w : World) (L : Pow w) (h : NoSlc w v ns) (hs : ns.length ≤ 2000000) (hx : ∀ n ∈ ns, NoF n) :
    Calls Tryz.prog 73 #[v] w (Ans (.bool (notesOk ns)) w) := by
  have HA := Lib.hid (allOk_notes ns v w L h hs hx)
  obtain ⟨a, cap, rfl, hnc, hcap, _⟩ := h.form
  obtain ⟨n, hn⟩ : ∃ n, ns.length = n := ⟨_, rfl⟩
  have hs' : (n : Int) ≤ 2000000 := by omega
  have HE := Lib.hid (show notesOk ns = (ns.all noteOk && decide (n ≤ 12)) by unfold notesOk; rw [hn])
  rw [hn] at HA ⊢
  generalize ns.all noteOk = A at HA HE
  clear h hn hcap hx L hnc hs
  by_cases h12 : n ≤ 12
  · have h12' : (n : Int) ≤ 12 := by omega
    have HD := Lib.hid (show notesOk ns = A by rw [HE.out, show decide (n ≤ 12) = true by simpa using h12, Bool.and_true])
    clear HE
    go_enter Tryz.func73, Tryz.ntmps73
    go_wp2_with (go_at_call 120; refine HA.out.mono ?_; rintro e w3 ⟨rfl, g3⟩)
    go_ret
    exact ⟨by rw [HD.out]; rfl, g3⟩
  · have h12' : ¬ (n : Int) ≤ 12 := by omega
    have HD := Lib.hid (show notesOk ns = false by rw [HE.out, show decide (n ≤ 12) = false by simpa using h12, Bool.and_false])
    clear HE
    go_enter Tryz.func73, Tryz.ntmps73
    go_wp2_with fail
    go_ret
    exact ⟨by rw [HD.out]; rfl, Below.refl _ _⟩

/-- A note of the call's own. -/
structure NtB (w : World) (b : Nat) (n : No) (W : World) : Prop where
  n : LBlk W b (noL n)
  b : Below w.heap.size w W

theorem NtB.call {w W W' : World} {b : Nat} {n : No} (h : NtB w b n W) (g : Below W.heap.size W W') : NtB w b n W' := ⟨h.n.below g, h.b.trans (g.mono h.b.size)⟩

set_option maxRecDepth 20000 in
set_option maxHeartbeats 2000000 in
theorem noteText_impl (x : No) (w : World) (L : Pow w) (hf : NoF x) (hxo : noteOk x = true) :
    Calls Tryz.prog 74 #[noV x] w (Ans (.string ⟨(showNote x).toArray⟩) w) := by
  have hnl : (plainN x).length ≤ 100 := by
    have h1 := name_len x.l
    have h2 := show_short (fits_ok hxo)
    unfold plainN
    simp only [List.length_append, List.length_cons]
    omega
  have hsn : showNote x = plainN x ++ strongT x.s := by simp [showNote, plainN]
  have HName := Lib.hid (fun w' => NameOf_impl x.l w' hf.1)
  have HShow := Lib.hid (fun w' (hb : Below w.heap.size w w') => ShowValue_impl x.v w' (L.on hb) hf.2)
  rw [show showValue x.v = showVal x.v by unfold showValue; rw [fits_ok hxo]; rfl] at HShow
  have hq0 : NtB w w.heap.size x (w.alloc (.cells #[.int .i64 x.l, .int .i64 x.v.k, .int .i64 x.v.n, .int .i64 x.v.r, .int .i64 x.v.g, .int .i64 x.v.b, .int .i64 x.v.c, .string ⟨x.v.w.toArray⟩, .bool x.s] 56)).drew := ⟨(no_new w x _).drew, ⟨rfl, rfl, rfl, by simp [World.drew], fun k hk => ((Below.refl w.heap.size w).alloc (Nat.le_refl _) _).block k hk⟩⟩
  obtain ⟨bx, ebx⟩ : ∃ q, w.heap.size = q := ⟨_, rfl⟩
  have p1 := str_addT (nameOf x.l) [58, 32] (colonN x) rfl (by have := name_len x.l; simp [colonN]; omega)
  have p2 := str_addT (colonN x) (showVal x.v) (plainN x) (by simp [colonN, plainN]) (by omega)
  have p3 := str_addT (plainN x) [32, 33, 115, 116, 114, 111, 110, 103] (plainN x ++ strongT true) rfl (by simp [strongT, strongN]; omega)
  have HSN := Lib.hid hsn
  rw [noV_is]
  clear hsn hf hxo L
  go_enter Tryz.func74, Tryz.ntmps74
  go_upto_region 1 with fail
  rw [ebx] at hq0
  refine RI.region_det (by kernel_rfl) [.pointer (some ⟨bx, 0, none⟩), .int .i64 x.l, .string ⟨(nameOf x.l).toArray⟩, .string ⟨(colonN x).toArray⟩, .pointer (some ⟨bx, 1, none⟩), valV x.v, .string ⟨(showVal x.v).toArray⟩, .string ⟨(plainN x).toArray⟩, .string ⟨(plainN x).toArray⟩] (fun W => NtB w bx x W) (none :: none :: none :: some 8 :: some 0 :: some 1 :: some 2 :: some 3 :: some 4 :: some 5 :: some 6 :: some 7 :: none :: none :: none :: none :: none :: []) (by kernel_rfl) (by kernel_rfl) (hq0) ?_ ?_
  · intro i hi A W hB hA
    have hi2 : i < 9 := hi
    have hcase : i = 0 ∨ i = 1 ∨ i = 2 ∨ i = 3 ∨ i = 4 ∨ i = 5 ∨ i = 6 ∨ i = 7 ∨ i = 8 := by omega
    clear hi hi2
    rcases hcase with rfl | rfl | rfl | rfl | rfl | rfl | rfl | rfl | rfl
    · have s1 : A.tmps[1]?.getD undef = .pointer (some ⟨bx, 0, none⟩) := (hA.st 1 (by kernel_rfl)).trans rfl
      exact wpOp_of rfl rfl (wp_value (v := .pointer (some ⟨bx, 0, none⟩)) (W' := W) (by simp [execOp, Act.eval, s1, go_sem]) ⟨rfl, hB⟩)
    · have s4 : A.tmps[4]?.getD undef = .pointer (some ⟨bx, 0, none⟩) := hA.on 0 4 (by kernel_rfl) (by kernel_rfl)
      have c0 := (no_cells hB.n).1
      exact wpOp_of rfl rfl (wp_value (v := .int .i64 x.l) (W' := W) (by simp [execOp, Act.eval, s4, go_sem, c0]) ⟨rfl, hB⟩)
    · have s5 : A.tmps[5]?.getD undef = .int .i64 x.l := hA.on 1 5 (by kernel_rfl) (by kernel_rfl)
      refine wpOp_of rfl rfl (wp_enter (f := 121) (args := #[.int .i64 x.l]) (by simp [execOp, Act.eval, s5, go_sem]) ?_)
      refine (HName.out W).mono ?_
      rintro e w' ⟨rfl, hb'⟩
      exact ⟨_, rfl, rfl, NtB.call hB hb'⟩
    · have s6 : A.tmps[6]?.getD undef = .string ⟨(nameOf x.l).toArray⟩ := hA.on 2 6 (by kernel_rfl) (by kernel_rfl)
      exact wpOp_of rfl rfl (wp_value (v := .string ⟨(colonN x).toArray⟩) (W' := W) (by simp [execOp, Act.eval, s6, go_sem, p1]) ⟨rfl, hB⟩)
    · have s1 : A.tmps[1]?.getD undef = .pointer (some ⟨bx, 0, none⟩) := (hA.st 1 (by kernel_rfl)).trans rfl
      exact wpOp_of rfl rfl (wp_value (v := .pointer (some ⟨bx, 1, none⟩)) (W' := W) (by simp [execOp, Act.eval, s1, go_sem]) ⟨rfl, hB⟩)
    · have s8 : A.tmps[8]?.getD undef = .pointer (some ⟨bx, 1, none⟩) := hA.on 4 8 (by kernel_rfl) (by kernel_rfl)
      exact wpOp_of rfl rfl (wp_value (v := valV x.v) (W' := W) (by exact exec_load rfl (by simpa [Act.eval] using s8) (no_val hB.n)) ⟨rfl, hB⟩)
    · have s9 : A.tmps[9]?.getD undef = valV x.v := hA.on 5 9 (by kernel_rfl) (by kernel_rfl)
      refine wpOp_of rfl rfl (wp_enter (f := 122) (args := #[valV x.v]) (by simp [execOp, Act.eval, s9, go_sem]) ?_)
      refine (HShow.out W hB.b).mono ?_
      rintro e w' ⟨rfl, hb'⟩
      exact ⟨_, rfl, rfl, NtB.call hB hb'⟩
    · have s7 : A.tmps[7]?.getD undef = .string ⟨(colonN x).toArray⟩ := hA.on 3 7 (by kernel_rfl) (by kernel_rfl)
      have s10 : A.tmps[10]?.getD undef = .string ⟨(showVal x.v).toArray⟩ := hA.on 6 10 (by kernel_rfl) (by kernel_rfl)
      exact wpOp_of rfl rfl (wp_value (v := .string ⟨(plainN x).toArray⟩) (W' := W) (by simp [execOp, Act.eval, s7, s10, go_sem, p2]) ⟨rfl, hB⟩)
    · have s11 : A.tmps[11]?.getD undef = .string ⟨(plainN x).toArray⟩ := hA.on 7 11 (by kernel_rfl) (by kernel_rfl)
      exact wpOp_of rfl rfl (wp_value (v := .string ⟨(plainN x).toArray⟩) (W' := W) (by simp [execOp, Act.eval, s11, go_sem]) ⟨rfl, hB⟩)
  intro wR hR
  simp only [RI.mergeL, List.getElem?_cons_zero, List.getElem?_cons_succ, Option.getD_some]
  have c8 := (no_cells hR.n).2
  clear hq0 HName HShow p1 p2
  cases hxs : x.s
  · rw [hxs] at c8
    have HF := Lib.hid (show showNote x = plainN x by rw [HSN.out, hxs]; simp [strongT])
    clear HSN hxs
    go_wp2_with fail
    go_ret
    exact ⟨by rw [HF.out]; rfl, hR.b⟩
  · rw [hxs] at c8
    have HF := Lib.hid (show showNote x = plainN x ++ strongT true by rw [HSN.out, hxs])
    clear HSN hxs
    go_wp2_with fail
    go_ret
    exact ⟨by rw [HF.out]; rfl, hR.b⟩

end Go.Proofs.YtliihnkonakacaaGreatDoor.B9
