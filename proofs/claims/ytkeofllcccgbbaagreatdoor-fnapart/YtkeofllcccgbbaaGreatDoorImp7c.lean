/- Contract of the program's Apart. -/
import Derived.Test.YtkeofllcccgbbaaGreatDoorImp7b
namespace Go.Proofs.YtkeofllcccgbbaaGreatDoor.V7
open Go.Proofs.YtkeofllcccgbbaaGreatDoor.P1 Go.Proofs.YtkeofllcccgbbaaGreatDoor.B1 Go.Proofs.YtkeofllcccgbbaaGreatDoor.B2 Go.Proofs.YtkeofllcccgbbaaGreatDoor.T1 Go.Proofs.YtkeofllcccgbbaaGreatDoor.BT Go.Proofs.YtkeofllcccgbbaaGreatDoor.P5 Go.Proofs.YtkeofllcccgbbaaGreatDoor.P6 Go.Proofs.YtkeofllcccgbbaaGreatDoor.P7 Go.Proofs.YtkeofllcccgbbaaGreatDoor.B5 Go.Proofs.YtkeofllcccgbbaaGreatDoor.B6 Go.Proofs.YtkeofllcccgbbaaGreatDoor.S7 Go.Proofs.YtkeofllcccgbbaaGreatDoor.D1 Go.Proofs.YtkeofllcccgbbaaGreatDoor.V6
open Go.ChangeShapes Go.WideShapes Go.ChangeAt Go.RowKit
set_option linter.unusedVariables false

set_option maxRecDepth 20000 in
set_option maxHeartbeats 2000000 in
theorem ApartI_none (x y : Va) (hx : x.w.length ≤ 1048576) (hy : y.w.length ≤ 1048576) (w : World) (L : Pow w) (h : canMix x y = false) :
    Calls Tryz.prog 14 #[valV x, valV y] w (Ans (.int .i64 (-1)) w) := by
  have HC := Lib.hid (fun w' (hb : Below w.heap.size w w') => CanMix_impl x y hx hy w' (L.on hb))
  rw [h] at HC
  have Hk := Lib.hid (fun w' => kindOf_impl x w')
  have ha := fun w' => as_kind x w'
  generalize (if isMix x = true then kindV x else .nilIface) = M at ha
  generalize kindV x = K at Hk ha
  generalize isMix x = I at ha
  obtain ⟨k, n, r, g, b, c, t⟩ := x
  obtain ⟨k', n', r', g', b', c', t'⟩ := y
  unfold valV at HC Hk ⊢
  dsimp only at HC Hk ⊢
  clear hx hy h L
  obtain ⟨c0, c1, c2, c3, c4, c5, c6, d0, d1, d2, d3, d4, d5, d6, hlt, hld, hB⟩ := held77_new w (.int .i64 k) (.int .i64 n) (.int .i64 r) (.int .i64 g) (.int .i64 b) (.int .i64 c) (.string ⟨t.toArray⟩) (.int .i64 k') (.int .i64 n') (.int .i64 r') (.int .i64 g') (.int .i64 b') (.int .i64 c') (.string ⟨t'.toArray⟩) 25
  cases I
  · go_enter Tryz.func14, Tryz.ntmps14
    go_wp2_with (go_at_call 27; refine (Hk.out _).mono ?_; rintro e w1 ⟨rfl, g1⟩; obtain ⟨q0, q1, q2, q3, q4, q5, q6, p0, p1, p2, p3, p4, p5, p6, hlt', hld', hB'⟩ := held77_call g1 c0 c1 c2 c3 c4 c5 c6 d0 d1 d2 d3 d4 d5 d6 hlt hld hB)
    go_ret
    exact ⟨rfl, hB'⟩
  · go_enter Tryz.func14, Tryz.ntmps14
    go_wp2_with (first | (go_at_call 10; refine (HC.out _ hB').mono ?_; rintro e w2 ⟨rfl, g2⟩; have hB2 := hB'.trans (g2.mono hB'.size)) | (go_at_call 27; refine (Hk.out _).mono ?_; rintro e w1 ⟨rfl, g1⟩; obtain ⟨q0, q1, q2, q3, q4, q5, q6, p0, p1, p2, p3, p4, p5, p6, hlt', hld', hB'⟩ := held77_call g1 c0 c1 c2 c3 c4 c5 c6 d0 d1 d2 d3 d4 d5 d6 hlt hld hB))
    go_ret
    exact ⟨rfl, hB2⟩

/-- Where two can be mixed, what the one is and how it goes on. -/
theorem ApartI_some (x y : Va) (hx : x.w.length ≤ 1048576) (hy : y.w.length ≤ 1048576) (w : World) (L : Pow w) (h : canMix x y = true) :
    (∀ w', Calls Tryz.prog 27 #[valV x] w' (Ans (kindV x) w')) ∧ (∀ w', Below w.heap.size w w' → Calls Tryz.prog 10 #[valV x, valV y] w' (Ans (.bool true) w')) :=
  ⟨fun w' => kindOf_impl x w', fun w' hb => by have := CanMix_impl x y hx hy w' (L.on hb); rwa [h] at this⟩

set_option maxRecDepth 20000 in
set_option maxHeartbeats 2000000 in
theorem ApartI_num (k n m : Int) (hk : k = 1 ∨ k = 2 ∨ k = 3) (hn : -1000000 ≤ n ∧ n ≤ 1000000) (hm : -1000000 ≤ m ∧ m ≤ 1000000) (w : World) (L : Pow w) :
    Calls Tryz.prog 14 #[valV ⟨k, n, 0, 0, 0, 0, []⟩, valV ⟨k, m, 0, 0, 0, 0, []⟩] w (Ans (.int .i64 (P7.size (n - m))) w) := by
  obtain ⟨h1, h2⟩ := ApartI_some ⟨k, n, 0, 0, 0, 0, []⟩ ⟨k, m, 0, 0, 0, 0, []⟩ (Nat.zero_le _) (Nat.zero_le _) w L (can_num hk hn hm)
  have Hk := Lib.hid h1
  have HC := Lib.hid h2
  rw [show kindV ⟨k, n, 0, 0, 0, 0, []⟩ = .iface 63 (mV n (unitOf k)) by unfold kindV; rw [if_pos hk]] at Hk
  obtain ⟨u, eu⟩ : ∃ u, unitOf k = u := ⟨_, rfl⟩
  rw [eu] at Hk
  have HM := Lib.hid (fun w' => measureApart_impl n m u k 0 0 0 0 [] w' hn.1 hn.2 hm.1 hm.2)
  have ha := fun w' => as_measure (mV n u) w'
  obtain ⟨S, eS⟩ : ∃ S, P7.size (n - m) = S := ⟨_, rfl⟩
  rw [eS] at HM ⊢
  unfold valV mV at Hk HM
  unfold mV at ha
  unfold valV at HC ⊢
  dsimp only at HC Hk HM ⊢
  clear hk hn hm L h1 h2 eu eS
  obtain ⟨c0, c1, c2, c3, c4, c5, c6, d0, d1, d2, d3, d4, d5, d6, hlt, hld, hB⟩ := held77_new w (.int .i64 k) (.int .i64 n) (.int .i64 0) (.int .i64 0) (.int .i64 0) (.int .i64 0) (.string ⟨#[]⟩) (.int .i64 k) (.int .i64 m) (.int .i64 0) (.int .i64 0) (.int .i64 0) (.int .i64 0) (.string ⟨#[]⟩) 25
  go_enter Tryz.func14, Tryz.ntmps14
  go_wp2_with (first | (go_at_call 123; refine (HM.out _).mono ?_; rintro e w3 ⟨rfl, g3⟩; have hB3 := hB2.trans (g3.mono hB2.size)) | (go_at_call 10; refine (HC.out _ hB').mono ?_; rintro e w2 ⟨rfl, g2⟩; obtain ⟨u0, u1, u2, u3, u4, u5, u6, s0, s1, s2, s3, s4, s5, s6, hlt2, hld2, hB2⟩ := held77_call g2 q0 q1 q2 q3 q4 q5 q6 p0 p1 p2 p3 p4 p5 p6 hlt' hld' hB') | (go_at_call 27; refine (Hk.out _).mono ?_; rintro e w1 ⟨rfl, g1⟩; obtain ⟨q0, q1, q2, q3, q4, q5, q6, p0, p1, p2, p3, p4, p5, p6, hlt', hld', hB'⟩ := held77_call g1 c0 c1 c2 c3 c4 c5 c6 d0 d1 d2 d3 d4 d5 d6 hlt hld hB))
  go_ret
  exact ⟨rfl, hB3⟩

set_option maxRecDepth 20000 in
set_option maxHeartbeats 2000000 in
theorem ApartI_color (r g l c r' g' l' c' : Int) (h : Shades r g l c) (h' : Shades r' g' l' c') (w : World) (L : Pow w) :
    Calls Tryz.prog 14 #[valV ⟨4, 0, r, g, l, c, []⟩, valV ⟨4, 0, r', g', l', c', []⟩] w (Ans (.int .i64 (P7.size (r - r') + P7.size (g - g') + P7.size (l - l') + P7.size (c - c'))) w) := by
  obtain ⟨h1, h2⟩ := ApartI_some ⟨4, 0, r, g, l, c, []⟩ ⟨4, 0, r', g', l', c', []⟩ (Nat.zero_le _) (Nat.zero_le _) w L (can_color h h')
  have Hk := Lib.hid h1
  have HC := Lib.hid h2
  rw [show kindV ⟨4, 0, r, g, l, c, []⟩ = .iface 75 (shV r g l c) from rfl] at Hk
  have HM := Lib.hid (fun w' => shadesApart_impl r g l c r' g' l' c' 4 0 [] h h' w')
  have ha := fun w' => as_shades (shV r g l c) w'
  generalize P7.size (r - r') + P7.size (g - g') + P7.size (l - l') + P7.size (c - c') = S at HM ⊢
  unfold valV shV at Hk HM
  unfold shV at ha
  unfold valV at HC ⊢
  dsimp only at HC Hk HM ⊢
  clear h h' L h1 h2
  obtain ⟨c0, c1, c2, c3, c4, c5, c6, d0, d1, d2, d3, d4, d5, d6, hlt, hld, hB⟩ := held77_new w (.int .i64 4) (.int .i64 0) (.int .i64 r) (.int .i64 g) (.int .i64 l) (.int .i64 c) (.string ⟨#[]⟩) (.int .i64 4) (.int .i64 0) (.int .i64 r') (.int .i64 g') (.int .i64 l') (.int .i64 c') (.string ⟨#[]⟩) 25
  go_enter Tryz.func14, Tryz.ntmps14
  go_wp2_with (first | (go_at_call 131; refine (HM.out _).mono ?_; rintro e w3 ⟨rfl, g3⟩; have hB3 := hB2.trans (g3.mono hB2.size)) | (go_at_call 10; refine (HC.out _ hB').mono ?_; rintro e w2 ⟨rfl, g2⟩; obtain ⟨u0, u1, u2, u3, u4, u5, u6, s0, s1, s2, s3, s4, s5, s6, hlt2, hld2, hB2⟩ := held77_call g2 q0 q1 q2 q3 q4 q5 q6 p0 p1 p2 p3 p4 p5 p6 hlt' hld' hB') | (go_at_call 27; refine (Hk.out _).mono ?_; rintro e w1 ⟨rfl, g1⟩; obtain ⟨q0, q1, q2, q3, q4, q5, q6, p0, p1, p2, p3, p4, p5, p6, hlt', hld', hB'⟩ := held77_call g1 c0 c1 c2 c3 c4 c5 c6 d0 d1 d2 d3 d4 d5 d6 hlt hld hB))
  go_ret
  exact ⟨rfl, hB3⟩

/-- One of the two words, by which it is. -/
theorem word_show {s : List UInt8} (hs : s = shownW ∨ s = hiddenW) : ∃ b, s = showW b ∧ wordV7 s = .iface 86 (.bool b) := by
  rcases hs with rfl | rfl
  · exact ⟨true, rfl, rfl⟩
  · exact ⟨false, rfl, rfl⟩

set_option maxRecDepth 20000 in
set_option maxHeartbeats 2000000 in
theorem ApartI_word (s t : List UInt8) (hs : s = shownW ∨ s = hiddenW) (ht : t = shownW ∨ t = hiddenW) (w : World) (L : Pow w) :
    Calls Tryz.prog 14 #[valV ⟨5, 0, 0, 0, 0, 0, s⟩, valV ⟨5, 0, 0, 0, 0, 0, t⟩] w (Ans (.int .i64 (if s = t then 0 else 1)) w) := by
  have hls : s.length ≤ 1048576 := by rcases hs with rfl | rfl <;> decide
  have hlt : t.length ≤ 1048576 := by rcases ht with rfl | rfl <;> decide
  obtain ⟨h1, h2⟩ := ApartI_some ⟨5, 0, 0, 0, 0, 0, s⟩ ⟨5, 0, 0, 0, 0, 0, t⟩ hls hlt w L (can_word hs ht)
  have Hk := Lib.hid h1
  have HC := Lib.hid h2
  rw [show kindV ⟨5, 0, 0, 0, 0, 0, s⟩ = wordV7 s from rfl] at Hk
  obtain ⟨b, eb, ek⟩ := word_show hs
  rw [ek] at Hk
  have HM := Lib.hid (fun w' => showingApart_impl b t w')
  rw [← eb] at HM
  have ha := fun w' => as_showing (.bool b) w'
  generalize (if s = t then (0 : Int) else 1) = S at HM ⊢
  unfold valV at Hk HM
  unfold valV at HC ⊢
  dsimp only at HC Hk HM ⊢
  clear hs ht hls hlt L h1 h2 eb ek
  obtain ⟨c0, c1, c2, c3, c4, c5, c6, d0, d1, d2, d3, d4, d5, d6, hlt, hld, hB⟩ := held77_new w (.int .i64 5) (.int .i64 0) (.int .i64 0) (.int .i64 0) (.int .i64 0) (.int .i64 0) (.string ⟨s.toArray⟩) (.int .i64 5) (.int .i64 0) (.int .i64 0) (.int .i64 0) (.int .i64 0) (.int .i64 0) (.string ⟨t.toArray⟩) 25
  go_enter Tryz.func14, Tryz.ntmps14
  go_wp2_with (first | (go_at_call 134; refine (HM.out _).mono ?_; rintro e w3 ⟨rfl, g3⟩; have hB3 := hB2.trans (g3.mono hB2.size)) | (go_at_call 10; refine (HC.out _ hB').mono ?_; rintro e w2 ⟨rfl, g2⟩; obtain ⟨u0, u1, u2, u3, u4, u5, u6, s0, s1, s2, s3, s4, s5, s6, hlt2, hld2, hB2⟩ := held77_call g2 q0 q1 q2 q3 q4 q5 q6 p0 p1 p2 p3 p4 p5 p6 hlt' hld' hB') | (go_at_call 27; refine (Hk.out _).mono ?_; rintro e w1 ⟨rfl, g1⟩; obtain ⟨q0, q1, q2, q3, q4, q5, q6, p0, p1, p2, p3, p4, p5, p6, hlt', hld', hB'⟩ := held77_call g1 c0 c1 c2 c3 c4 c5 c6 d0 d1 d2 d3 d4 d5 d6 hlt hld hB))
  go_ret
  exact ⟨rfl, hB3⟩

/-- The program's Apart. -/
theorem Apart_impl (x y : Va) (hx : x.w.length ≤ 1048576) (hy : y.w.length ≤ 1048576) (w : World) (L : Pow w) :
    Calls Tryz.prog 14 #[valV x, valV y] w (Ans (.int .i64 (apartV x y)) w) := by
  by_cases hc : canMix x y = true
  · rcases mix_cases hc with ⟨k, n, m, hk, hn, hm, rfl, rfl⟩ | ⟨r, g, l, c, r', g', l', c', h1, h2, rfl, rfl⟩ | ⟨s, t, hs, ht, rfl, rfl⟩
    · rw [apart_num hk hn hm]
      exact ApartI_num k n m hk hn hm w L
    · rw [apart_color h1 h2]
      exact ApartI_color r g l c r' g' l' c' h1 h2 w L
    · rw [show apartV ⟨5, 0, 0, 0, 0, 0, s⟩ ⟨5, 0, 0, 0, 0, 0, t⟩ = if s = t then 0 else 1 from apart_word hs ht]
      exact ApartI_word s t hs ht w L
  · rw [show apartV x y = -1 by unfold apartV; rw [if_neg hc]]
    exact ApartI_none x y hx hy w L (by simpa using hc)

end Go.Proofs.YtkeofllcccgbbaaGreatDoor.V7
