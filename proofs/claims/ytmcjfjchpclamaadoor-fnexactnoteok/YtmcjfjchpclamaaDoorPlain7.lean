/- Plain functions of chapter 7 (mixing), and plain facts on them: no program, no model. -/
import Derived.Test.YtmcjfjchpclamaaDoorLot
import Derived.Test.YtmcjfjchpclamaaDoorPlain6
namespace Go.Proofs.YtmcjfjchpclamaaDoor.P7
open Go.Proofs.YtmcjfjchpclamaaDoor.P1 Go.Proofs.YtmcjfjchpclamaaDoor.P5 Go.Proofs.YtmcjfjchpclamaaDoor.P6

def shownW : List UInt8 := [115, 104, 111, 119, 110]
def hiddenW : List UInt8 := [104, 105, 100, 100, 101, 110]

def seen (v : Va) : Bool := v.w == shownW || v.w == hiddenW

def canMix (a b : Va) : Bool := valueOk a && valueOk b && a.k == b.k && (a.k != 5 || seen a && seen b)

def clip (n lo hi : Int) : Int := max lo (min hi n)

def lev (a b p : Int) : Int := clip (between a b p) 0 255

def mixed (a b : Va) (p : Int) : Va :=
  if valueOk a = true ∧ valueOk b = true ∧ -131072 ≤ p ∧ p ≤ 196608 then
    (if canMix a b = true then
      (if a.k = 4 then ⟨4, 0, lev a.r b.r p, lev a.g b.g p, lev a.b b.b p, lev a.c b.c p, []⟩
       else if a.k = 5 then (if p ≤ 0 then a else if 65536 ≤ p then b else if a.w = shownW ∨ b.w = shownW then ⟨5, 0, 0, 0, 0, 0, shownW⟩ else a)
       else ⟨a.k, clip (between a.n b.n p) (-1000000) 1000000, 0, 0, 0, 0, []⟩)
     else if p < 32768 then a else b)
  else Va.zero

def size (n : Int) : Int := if n < 0 then -n else n

def apartV (a b : Va) : Int :=
  if canMix a b = true then
    (if a.k = 4 then size (a.r - b.r) + size (a.g - b.g) + size (a.b - b.b) + size (a.c - b.c)
     else if a.k = 5 then (if a.same b = true then 0 else 1)
     else size (b.n - a.n))
  else -1

theorem clip_in {n lo hi : Int} (h : lo ≤ hi) : lo ≤ clip n lo hi ∧ clip n lo hi ≤ hi := by unfold clip; omega
theorem clip_same {n lo hi : Int} (h0 : lo ≤ n) (h1 : n ≤ hi) : clip n lo hi = n := by unfold clip; omega

theorem can_parts {a b : Va} (h : canMix a b = true) : valueOk a = true ∧ valueOk b = true ∧ a.k = b.k ∧ (a.k = 5 → seen a = true ∧ seen b = true) := by
  unfold canMix at h
  simp only [Bool.and_eq_true, Bool.or_eq_true, bne_iff_ne, ne_eq, beq_iff_eq] at h
  refine ⟨h.1.1.1, h.1.1.2, h.1.2, fun h5 => ?_⟩
  rcases h.2 with h' | h'
  · exact absurd h5 h'
  · exact h'

/-- A value that can be mixed, by its kind: a number, a color, one of two words. -/
theorem mix_cases {a b : Va} (h : canMix a b = true) :
    (∃ k n m, (k = 1 ∨ k = 2 ∨ k = 3) ∧ (-1000000 ≤ n ∧ n ≤ 1000000) ∧ (-1000000 ≤ m ∧ m ≤ 1000000) ∧ a = ⟨k, n, 0, 0, 0, 0, []⟩ ∧ b = ⟨k, m, 0, 0, 0, 0, []⟩) ∨
    (∃ r g l c r' g' l' c', ((0 ≤ r ∧ r ≤ 255) ∧ (0 ≤ g ∧ g ≤ 255) ∧ (0 ≤ l ∧ l ≤ 255) ∧ (0 ≤ c ∧ c ≤ 255)) ∧ ((0 ≤ r' ∧ r' ≤ 255) ∧ (0 ≤ g' ∧ g' ≤ 255) ∧ (0 ≤ l' ∧ l' ≤ 255) ∧ (0 ≤ c' ∧ c' ≤ 255)) ∧ a = ⟨4, 0, r, g, l, c, []⟩ ∧ b = ⟨4, 0, r', g', l', c', []⟩) ∨
    (∃ s t, (s = shownW ∨ s = hiddenW) ∧ (t = shownW ∨ t = hiddenW) ∧ a = ⟨5, 0, 0, 0, 0, 0, s⟩ ∧ b = ⟨5, 0, 0, 0, 0, 0, t⟩) := by
  obtain ⟨ha, hb, hk, hw⟩ := can_parts h
  rcases valueOk_cases ha with ⟨ka, n0, n1, ea⟩ | ⟨ka, hr, hg, hl, hc, hn, hw'⟩ | ⟨ka, _, _, _, ea⟩
  · rcases valueOk_cases hb with ⟨kb, m0, m1, eb⟩ | ⟨kb, _⟩ | ⟨kb, _⟩
    · exact Or.inl ⟨a.k, a.n, b.n, ka, ⟨n0, n1⟩, ⟨m0, m1⟩, ea, by rw [hk]; exact eb⟩
    · omega
    · omega
  · rcases valueOk_cases hb with ⟨kb, _⟩ | ⟨kb, hr2, hg2, hl2, hc2, hn2, hw2⟩ | ⟨kb, _⟩
    · omega
    · refine Or.inr (Or.inl ⟨a.r, a.g, a.b, a.c, b.r, b.g, b.b, b.c, ⟨hr, hg, hl, hc⟩, ⟨hr2, hg2, hl2, hc2⟩, ?_, ?_⟩)
      · obtain ⟨k, n, r, g, l, c, t⟩ := a
        dsimp only at ka hn hw'
        subst ka hn hw'; rfl
      · obtain ⟨k, n, r, g, l, c, t⟩ := b
        dsimp only at kb hn2 hw2
        subst kb hn2 hw2; rfl
    · omega
  · rcases valueOk_cases hb with ⟨kb, _⟩ | ⟨kb, _⟩ | ⟨kb, _, _, _, eb⟩
    · omega
    · omega
    · obtain ⟨s1, s2⟩ := hw ka
      unfold seen at s1 s2
      simp only [Bool.or_eq_true, beq_iff_eq] at s1 s2
      exact Or.inr (Or.inr ⟨a.w, b.w, s1, s2, ea, eb⟩)

theorem mixed_in {a b : Va} {p : Int} (ha : valueOk a = true) (hb : valueOk b = true) (h0 : -131072 ≤ p) (h1 : p ≤ 196608) : mixed a b p =
    (if canMix a b = true then
      (if a.k = 4 then ⟨4, 0, lev a.r b.r p, lev a.g b.g p, lev a.b b.b p, lev a.c b.c p, []⟩
       else if a.k = 5 then (if p ≤ 0 then a else if 65536 ≤ p then b else if a.w = shownW ∨ b.w = shownW then ⟨5, 0, 0, 0, 0, 0, shownW⟩ else a)
       else ⟨a.k, clip (between a.n b.n p) (-1000000) 1000000, 0, 0, 0, 0, []⟩)
     else if p < 32768 then a else b) := by
  unfold mixed
  rw [if_pos ⟨ha, hb, h0, h1⟩]

theorem lev_zero {a b : Int} (ha : 0 ≤ a ∧ a ≤ 255) (hb : 0 ≤ b ∧ b ≤ 255) : lev a b 0 = a := by
  unfold lev
  rw [between_zero ⟨by omega, by omega⟩ ⟨by omega, by omega⟩]
  exact clip_same ha.1 ha.2

theorem lev_one {a b : Int} (ha : 0 ≤ a ∧ a ≤ 255) (hb : 0 ≤ b ∧ b ≤ 255) : lev a b 65536 = b := by
  unfold lev
  rw [between_one ⟨by omega, by omega⟩ ⟨by omega, by omega⟩]
  exact clip_same hb.1 hb.2

theorem lev_self {a p : Int} (ha : 0 ≤ a ∧ a ≤ 255) (hp : InReach p) : lev a a p = a := by
  unfold lev
  rw [between_self ⟨by omega, by omega⟩ hp]
  exact clip_same ha.1 ha.2

theorem num_not {k : Int} (h : k = 1 ∨ k = 2 ∨ k = 3) : k ≠ 4 ∧ k ≠ 5 := by omega

theorem mixed_zero {a b : Va} (ha : valueOk a = true) (hb : valueOk b = true) : mixed a b 0 = a := by
  rw [mixed_in ha hb (by omega) (by omega)]
  by_cases hc : canMix a b = true
  · rw [if_pos hc]
    rcases mix_cases hc with ⟨k, n, m, hk, hn, hm, rfl, rfl⟩ | ⟨r, g, l, c, r', g', l', c', h1, h2, rfl, rfl⟩ | ⟨s, t, hs, ht, rfl, rfl⟩
    · dsimp only
      rw [if_neg (num_not hk).1, if_neg (num_not hk).2, between_zero ⟨by omega, by omega⟩ ⟨by omega, by omega⟩, clip_same hn.1 hn.2]
    · dsimp only
      rw [if_pos rfl, lev_zero h1.1 h2.1, lev_zero h1.2.1 h2.2.1, lev_zero h1.2.2.1 h2.2.2.1, lev_zero h1.2.2.2 h2.2.2.2]
    · dsimp only
      rw [if_neg (by decide), if_pos rfl, if_pos (by omega)]
  · rw [if_neg hc, if_pos (by omega)]

theorem mixed_one {a b : Va} (ha : valueOk a = true) (hb : valueOk b = true) : mixed a b 65536 = b := by
  rw [mixed_in ha hb (by omega) (by omega)]
  by_cases hc : canMix a b = true
  · rw [if_pos hc]
    rcases mix_cases hc with ⟨k, n, m, hk, hn, hm, rfl, rfl⟩ | ⟨r, g, l, c, r', g', l', c', h1, h2, rfl, rfl⟩ | ⟨s, t, hs, ht, rfl, rfl⟩
    · dsimp only
      rw [if_neg (num_not hk).1, if_neg (num_not hk).2, between_one ⟨by omega, by omega⟩ ⟨by omega, by omega⟩, clip_same hm.1 hm.2]
    · dsimp only
      rw [if_pos rfl, lev_one h1.1 h2.1, lev_one h1.2.1 h2.2.1, lev_one h1.2.2.1 h2.2.2.1, lev_one h1.2.2.2 h2.2.2.2]
    · dsimp only
      rw [if_neg (by decide), if_pos rfl, if_neg (by omega), if_pos (by omega)]
  · rw [if_neg hc, if_neg (by omega)]

theorem can_sym (a b : Va) : canMix a b = canMix b a := by
  cases h : canMix a b
  · cases h2 : canMix b a
    · rfl
    · obtain ⟨x1, x2, x3, x4⟩ := can_parts h2
      rw [← h]
      unfold canMix
      rw [x1, x2, x3]
      by_cases h5 : a.k = 5
      · obtain ⟨y1, y2⟩ := x4 (x3.trans h5)
        simp [y1, y2]
      · simp [h5]
  · obtain ⟨x1, x2, x3, x4⟩ := can_parts h
    unfold canMix
    rw [x1, x2, x3]
    by_cases h5 : b.k = 5
    · obtain ⟨y1, y2⟩ := x4 (x3.trans h5)
      simp [y1, y2]
    · simp [h5]

theorem mixed_self {a : Va} {p : Int} (ha : valueOk a = true) (hp : InReach p) : mixed a a p = a := by
  rw [mixed_in ha ha hp.1 hp.2]
  by_cases hc : canMix a a = true
  · rw [if_pos hc]
    rcases mix_cases hc with ⟨k, n, m, hk, hn, hm, e, e'⟩ | ⟨r, g, l, c, r', g', l', c', h1, h2, e, e'⟩ | ⟨s, t, hs, ht, e, e'⟩
    · subst e
      dsimp only
      rw [if_neg (num_not hk).1, if_neg (num_not hk).2, between_self ⟨by omega, by omega⟩ hp, clip_same hn.1 hn.2]
    · subst e
      dsimp only
      rw [if_pos rfl, lev_self h1.1 hp, lev_self h1.2.1 hp, lev_self h1.2.2.1 hp, lev_self h1.2.2.2 hp]
    · subst e
      dsimp only
      rw [if_neg (by decide), if_pos rfl]
      split
      · rfl
      · split
        · rfl
        · split
          · next h => rw [show s = shownW by rcases h with h | h <;> exact h]
          · rfl
  · rw [if_neg hc]
    split <;> rfl

theorem ok_num {k n : Int} (hk : k = 1 ∨ k = 2 ∨ k = 3) (h0 : -1000000 ≤ n) (h1 : n ≤ 1000000) : valueOk ⟨k, n, 0, 0, 0, 0, []⟩ = true := by
  unfold valueOk
  dsimp only
  rw [if_pos hk, Va.same_iff.2 rfl]
  simp [inR, h0, h1]

theorem ok_color {r g l c : Int} (hr : 0 ≤ r ∧ r ≤ 255) (hg : 0 ≤ g ∧ g ≤ 255) (hl : 0 ≤ l ∧ l ≤ 255) (hc : 0 ≤ c ∧ c ≤ 255) : valueOk ⟨4, 0, r, g, l, c, []⟩ = true := by
  unfold valueOk
  dsimp only
  rw [if_neg (by omega), if_pos rfl, level_iff.2 hr, level_iff.2 hg, level_iff.2 hl, level_iff.2 hc]
  rfl

theorem ok_shown : valueOk ⟨5, 0, 0, 0, 0, 0, shownW⟩ = true := by decide

/-- What is mixed of two right ones is right. -/
theorem mixed_ok {a b : Va} {p : Int} (ha : valueOk a = true) (hb : valueOk b = true) (h0 : -131072 ≤ p) (h1 : p ≤ 196608) : valueOk (mixed a b p) = true := by
  rw [mixed_in ha hb h0 h1]
  by_cases hc : canMix a b = true
  · rw [if_pos hc]
    rcases mix_cases hc with ⟨k, n, m, hk, hn, hm, e, e'⟩ | ⟨r, g, l, c, r', g', l', c', q1, q2, e, e'⟩ | ⟨s, t, hs, ht, e, e'⟩
    · subst e
      dsimp only
      rw [if_neg (num_not hk).1, if_neg (num_not hk).2]
      exact ok_num hk (clip_in (by omega)).1 (clip_in (by omega)).2
    · subst e
      dsimp only
      rw [if_pos rfl]
      exact ok_color (clip_in (by omega)) (clip_in (by omega)) (clip_in (by omega)) (clip_in (by omega))
    · subst e
      dsimp only
      rw [if_neg (by decide), if_pos rfl]
      split
      · exact ha
      · split
        · exact hb
        · split
          · exact ok_shown
          · exact ha
  · rw [if_neg hc]
    split
    · exact ha
    · exact hb

theorem size_sym (x y : Int) : size (x - y) = size (y - x) := by unfold size; split <;> split <;> omega
theorem size_zero (x : Int) : size (x - x) = 0 := by unfold size; split <;> omega
theorem size_tri (x y z : Int) : size (x - z) ≤ size (x - y) + size (y - z) := by unfold size; split <;> split <;> split <;> omega
theorem size_pos (x : Int) : 0 ≤ size x := by unfold size; split <;> omega
theorem size_none {x : Int} (h : size x = 0) : x = 0 := by unfold size at h; split at h <;> omega

/-- What lies between two is no farther from either than they are apart. -/
theorem size_in {x y z : Int} (h : (x ≤ y ∧ y ≤ z) ∨ (z ≤ y ∧ y ≤ x)) : size (x - y) ≤ size (x - z) ∧ size (y - z) ≤ size (x - z) := by
  unfold size
  constructor <;> split <;> split <;> omega

theorem between_in {a b p : Int} (ha : InEnd a) (hb : InEnd b) (h0 : 0 ≤ p) (h1 : p ≤ 65536) : (a ≤ between a b p ∧ between a b p ≤ b) ∨ (b ≤ between a b p ∧ between a b p ≤ a) := by
  rcases Int.le_total a b with h | h
  · exact Or.inl (between_in_up ha hb h0 h1 h)
  · exact Or.inr (between_in_down ha hb h0 h1 h)

theorem clip_between {a b p lo hi : Int} (ha : InEnd a) (hb : InEnd b) (h0 : 0 ≤ p) (h1 : p ≤ 65536) (a0 : lo ≤ a) (a1 : a ≤ hi) (b0 : lo ≤ b) (b1 : b ≤ hi) : (a ≤ clip (between a b p) lo hi ∧ clip (between a b p) lo hi ≤ b) ∨ (b ≤ clip (between a b p) lo hi ∧ clip (between a b p) lo hi ≤ a) := by
  rcases between_in ha hb h0 h1 with h | h
  · rw [clip_same (by omega) (by omega)]; exact Or.inl h
  · rw [clip_same (by omega) (by omega)]; exact Or.inr h

theorem can_num {k n m : Int} (hk : k = 1 ∨ k = 2 ∨ k = 3) (hn : -1000000 ≤ n ∧ n ≤ 1000000) (hm : -1000000 ≤ m ∧ m ≤ 1000000) : canMix ⟨k, n, 0, 0, 0, 0, []⟩ ⟨k, m, 0, 0, 0, 0, []⟩ = true := by
  unfold canMix
  rw [ok_num hk hn.1 hn.2, ok_num hk hm.1 hm.2]
  have := (num_not hk).2
  simp [this]

theorem apart_num {k n m : Int} (hk : k = 1 ∨ k = 2 ∨ k = 3) (hn : -1000000 ≤ n ∧ n ≤ 1000000) (hm : -1000000 ≤ m ∧ m ≤ 1000000) : apartV ⟨k, n, 0, 0, 0, 0, []⟩ ⟨k, m, 0, 0, 0, 0, []⟩ = size (n - m) := by
  unfold apartV
  rw [if_pos (can_num hk hn hm)]
  dsimp only
  rw [if_neg (num_not hk).1, if_neg (num_not hk).2, size_sym]

/-- Four shades, each from 0 to 255. -/
def Shades (r g l c : Int) : Prop := (0 ≤ r ∧ r ≤ 255) ∧ (0 ≤ g ∧ g ≤ 255) ∧ (0 ≤ l ∧ l ≤ 255) ∧ (0 ≤ c ∧ c ≤ 255)

theorem can_color {r g l c r' g' l' c' : Int} (h : Shades r g l c) (h' : Shades r' g' l' c') : canMix ⟨4, 0, r, g, l, c, []⟩ ⟨4, 0, r', g', l', c', []⟩ = true := by
  unfold canMix
  rw [ok_color h.1 h.2.1 h.2.2.1 h.2.2.2, ok_color h'.1 h'.2.1 h'.2.2.1 h'.2.2.2]
  rfl

theorem apart_color {r g l c r' g' l' c' : Int} (h : Shades r g l c) (h' : Shades r' g' l' c') : apartV ⟨4, 0, r, g, l, c, []⟩ ⟨4, 0, r', g', l', c', []⟩ = size (r - r') + size (g - g') + size (l - l') + size (c - c') := by
  unfold apartV
  rw [if_pos (can_color h h')]
  rfl

def wordV (s : List UInt8) : Va := ⟨5, 0, 0, 0, 0, 0, s⟩

theorem can_word {s t : List UInt8} (hs : s = shownW ∨ s = hiddenW) (ht : t = shownW ∨ t = hiddenW) : canMix (wordV s) (wordV t) = true := by
  rcases hs with rfl | rfl <;> rcases ht with rfl | rfl <;> decide

theorem apart_word {s t : List UInt8} (hs : s = shownW ∨ s = hiddenW) (ht : t = shownW ∨ t = hiddenW) : apartV (wordV s) (wordV t) = if s = t then 0 else 1 := by
  rcases hs with rfl | rfl <;> rcases ht with rfl | rfl <;> decide

/-- What a mixed value is, of values that can be mixed. -/
theorem mixed_parts {a b : Va} {p : Int} (hc : canMix a b = true) (h0 : -131072 ≤ p) (h1 : p ≤ 196608) :
    (∃ k n m x, (k = 1 ∨ k = 2 ∨ k = 3) ∧ (-1000000 ≤ n ∧ n ≤ 1000000) ∧ (-1000000 ≤ m ∧ m ≤ 1000000) ∧ (-1000000 ≤ x ∧ x ≤ 1000000) ∧ a = ⟨k, n, 0, 0, 0, 0, []⟩ ∧ b = ⟨k, m, 0, 0, 0, 0, []⟩ ∧ mixed a b p = ⟨k, x, 0, 0, 0, 0, []⟩ ∧ (0 ≤ p → p ≤ 65536 → (n ≤ x ∧ x ≤ m) ∨ (m ≤ x ∧ x ≤ n))) ∨
    (∃ r g l c r' g' l' c' x y z u, Shades r g l c ∧ Shades r' g' l' c' ∧ Shades x y z u ∧ a = ⟨4, 0, r, g, l, c, []⟩ ∧ b = ⟨4, 0, r', g', l', c', []⟩ ∧ mixed a b p = ⟨4, 0, x, y, z, u, []⟩ ∧ (0 ≤ p → p ≤ 65536 → ((r ≤ x ∧ x ≤ r') ∨ (r' ≤ x ∧ x ≤ r)) ∧ ((g ≤ y ∧ y ≤ g') ∨ (g' ≤ y ∧ y ≤ g)) ∧ ((l ≤ z ∧ z ≤ l') ∨ (l' ≤ z ∧ z ≤ l)) ∧ ((c ≤ u ∧ u ≤ c') ∨ (c' ≤ u ∧ u ≤ c)))) ∨
    (∃ s t x, (s = shownW ∨ s = hiddenW) ∧ (t = shownW ∨ t = hiddenW) ∧ (x = shownW ∨ x = hiddenW) ∧ a = wordV s ∧ b = wordV t ∧ mixed a b p = wordV x ∧ (s = t → x = s)) := by
  obtain ⟨ha, hb, _, _⟩ := can_parts hc
  have hm := mixed_in ha hb h0 h1
  rw [if_pos hc] at hm
  rcases mix_cases hc with ⟨k, n, m, hk, hn, hm', e, e'⟩ | ⟨r, g, l, c, r', g', l', c', q1, q2, e, e'⟩ | ⟨s, t, hs, ht, e, e'⟩
  · refine Or.inl ⟨k, n, m, clip (between n m p) (-1000000) 1000000, hk, hn, hm', clip_in (by omega), e, e', ?_, fun p0 p1 => clip_between ⟨by omega, by omega⟩ ⟨by omega, by omega⟩ p0 p1 hn.1 hn.2 hm'.1 hm'.2⟩
    rw [hm]
    subst e e'
    dsimp only
    rw [if_neg (num_not hk).1, if_neg (num_not hk).2]
  · refine Or.inr (Or.inl ⟨r, g, l, c, r', g', l', c', lev r r' p, lev g g' p, lev l l' p, lev c c' p, q1, q2, ⟨clip_in (by omega), clip_in (by omega), clip_in (by omega), clip_in (by omega)⟩, e, e', ?_, fun p0 p1 => ⟨?_, ?_, ?_, ?_⟩⟩)
    · rw [hm]
      subst e e'
      rfl
    · exact clip_between ⟨by omega, by omega⟩ ⟨by omega, by omega⟩ p0 p1 q1.1.1 q1.1.2 q2.1.1 q2.1.2
    · exact clip_between ⟨by omega, by omega⟩ ⟨by omega, by omega⟩ p0 p1 q1.2.1.1 q1.2.1.2 q2.2.1.1 q2.2.1.2
    · exact clip_between ⟨by omega, by omega⟩ ⟨by omega, by omega⟩ p0 p1 q1.2.2.1.1 q1.2.2.1.2 q2.2.2.1.1 q2.2.2.1.2
    · exact clip_between ⟨by omega, by omega⟩ ⟨by omega, by omega⟩ p0 p1 q1.2.2.2.1 q1.2.2.2.2 q2.2.2.2.1 q2.2.2.2.2
  · refine Or.inr (Or.inr ?_)
    subst e e'
    dsimp only at hm
    rw [if_neg (by decide), if_pos rfl] at hm
    by_cases p0 : p ≤ 0
    · rw [if_pos p0] at hm
      exact ⟨s, t, s, hs, ht, hs, rfl, rfl, hm, fun _ => rfl⟩
    · rw [if_neg p0] at hm
      by_cases p1 : 65536 ≤ p
      · rw [if_pos p1] at hm
        exact ⟨s, t, t, hs, ht, ht, rfl, rfl, hm, fun e => e.symm⟩
      · rw [if_neg p1] at hm
        by_cases hsh : s = shownW ∨ t = shownW
        · rw [if_pos hsh] at hm
          exact ⟨s, t, shownW, hs, ht, Or.inl rfl, rfl, rfl, hm, fun e => by rcases hsh with h | h <;> simp [h, e]⟩
        · rw [if_neg hsh] at hm
          exact ⟨s, t, s, hs, ht, hs, rfl, rfl, hm, fun _ => rfl⟩

/-- From 0 to One what is mixed is no farther from either than they are apart. -/
theorem mixed_near {a b : Va} {p : Int} (hc : canMix a b = true) (h0 : 0 ≤ p) (h1 : p ≤ 65536) : apartV a (mixed a b p) ≤ apartV a b ∧ apartV (mixed a b p) b ≤ apartV a b := by
  rcases mixed_parts hc (by omega) (by omega : p ≤ 196608) with ⟨k, n, m, x, hk, hn, hm, hx, e, e', ex, hin⟩ | ⟨r, g, l, c, r', g', l', c', x, y, z, u, q1, q2, q3, e, e', ex, hin⟩ | ⟨s, t, x, hs, ht, hx, e, e', ex, hst⟩
  · rw [ex, e, e', apart_num hk hn hx, apart_num hk hn hm, apart_num hk hx hm]
    exact size_in (hin h0 h1)
  · rw [ex, e, e', apart_color q1 q3, apart_color q1 q2, apart_color q3 q2]
    obtain ⟨i1, i2, i3, i4⟩ := hin h0 h1
    have a1 := size_in i1
    have a2 := size_in i2
    have a3 := size_in i3
    have a4 := size_in i4
    omega
  · rw [ex, e, e', apart_word hs hx, apart_word hs ht, apart_word hx ht]
    by_cases h : s = t
    · subst h
      rw [hst rfl, if_pos rfl]; omega
    · rw [if_neg h]
      constructor <;> split <;> omega

/-- Over what is mixed it is no nearer. -/
theorem mixed_far {a b : Va} {p : Int} (hc : canMix a b = true) (h0 : -131072 ≤ p) (h1 : p ≤ 196608) : apartV a b ≤ apartV a (mixed a b p) + apartV (mixed a b p) b := by
  rcases mixed_parts hc h0 h1 with ⟨k, n, m, x, hk, hn, hm, hx, e, e', ex, hin⟩ | ⟨r, g, l, c, r', g', l', c', x, y, z, u, q1, q2, q3, e, e', ex, hin⟩ | ⟨s, t, x, hs, ht, hx, e, e', ex, hst⟩
  · rw [ex, e, e', apart_num hk hn hx, apart_num hk hn hm, apart_num hk hx hm]
    exact size_tri n x m
  · rw [ex, e, e', apart_color q1 q3, apart_color q1 q2, apart_color q3 q2]
    have a1 := size_tri r x r'
    have a2 := size_tri g y g'
    have a3 := size_tri l z l'
    have a4 := size_tri c u c'
    omega
  · rw [ex, e, e', apart_word hs hx, apart_word hs ht, apart_word hx ht]
    by_cases h : s = x
    · subst h; rw [if_pos rfl]; omega
    · rw [if_neg h]
      split <;> split <;> omega

theorem apart_sym (a b : Va) : apartV a b = apartV b a := by
  by_cases hc : canMix a b = true
  · rcases mix_cases hc with ⟨k, n, m, hk, hn, hm, e, e'⟩ | ⟨r, g, l, c, r', g', l', c', q1, q2, e, e'⟩ | ⟨s, t, hs, ht, e, e'⟩
    · rw [e, e', apart_num hk hn hm, apart_num hk hm hn, size_sym]
    · rw [e, e', apart_color q1 q2, apart_color q2 q1, size_sym r, size_sym g, size_sym l, size_sym c]
    · have h1 := apart_word hs ht
      have h2 := apart_word ht hs
      unfold wordV at h1 h2
      rw [e, e', h1, h2]
      by_cases h : s = t
      · rw [if_pos h, if_pos h.symm]
      · rw [if_neg h, if_neg (Ne.symm h)]
  · unfold apartV
    rw [if_neg hc, if_neg (by rw [can_sym b a]; exact hc)]

/-- Those that can be mixed are nothing apart where they are one. -/
theorem apart_none {a b : Va} (hc : canMix a b = true) : apartV a b = 0 ↔ a = b := by
  rcases mix_cases hc with ⟨k, n, m, hk, hn, hm, e, e'⟩ | ⟨r, g, l, c, r', g', l', c', q1, q2, e, e'⟩ | ⟨s, t, hs, ht, e, e'⟩
  · rw [e, e', apart_num hk hn hm]
    constructor
    · intro h
      have := size_none h
      have : n = m := by omega
      rw [this]
    · intro h
      injection h with _ h2
      rw [h2, size_zero]
  · rw [e, e', apart_color q1 q2]
    have p1 := size_pos (r - r')
    have p2 := size_pos (g - g')
    have p3 := size_pos (l - l')
    have p4 := size_pos (c - c')
    constructor
    · intro h
      have h1 := size_none (x := r - r') (by omega)
      have h2 := size_none (x := g - g') (by omega)
      have h3 := size_none (x := l - l') (by omega)
      have h4 := size_none (x := c - c') (by omega)
      rw [show r = r' by omega, show g = g' by omega, show l = l' by omega, show c = c' by omega]
    · intro h
      injection h with _ _ h1 h2 h3 h4
      rw [h1, h2, h3, h4, size_zero, size_zero, size_zero, size_zero]; rfl
  · have h1 := apart_word hs ht
    unfold wordV at h1
    rw [e, e', h1]
    constructor
    · intro h
      by_cases hst : s = t
      · rw [hst]
      · rw [if_neg hst] at h; cases h
    · intro h
      injection h with _ _ _ _ _ _ h7
      rw [if_pos h7]

theorem apart_pos {a b : Va} : 0 ≤ apartV a b ↔ canMix a b = true := by
  by_cases hc : canMix a b = true
  · refine ⟨fun _ => hc, fun _ => ?_⟩
    rcases mix_cases hc with ⟨k, n, m, hk, hn, hm, e, e'⟩ | ⟨r, g, l, c, r', g', l', c', q1, q2, e, e'⟩ | ⟨s, t, hs, ht, e, e'⟩
    · rw [e, e', apart_num hk hn hm]; exact size_pos _
    · rw [e, e', apart_color q1 q2]
      have p1 := size_pos (r - r')
      have p2 := size_pos (g - g')
      have p3 := size_pos (l - l')
      have p4 := size_pos (c - c')
      omega
    · have h1 := apart_word hs ht
      unfold wordV at h1
      rw [e, e', h1]
      split <;> omega
  · refine ⟨fun h => ?_, fun h => absurd h hc⟩
    unfold apartV at h
    rw [if_neg hc] at h
    omega

end Go.Proofs.YtmcjfjchpclamaaDoor.P7
