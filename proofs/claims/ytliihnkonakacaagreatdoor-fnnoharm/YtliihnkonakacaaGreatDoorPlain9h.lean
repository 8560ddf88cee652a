/- Plain facts of chapter 9: what is no note changes no other one. -/
import Derived.Test.YtliihnkonakacaaGreatDoorPlain
import Derived.KernelRfl
namespace Go.Proofs.YtliihnkonakacaaGreatDoor.P9
open Go.Proofs.YtliihnkonakacaaGreatDoor.P1 Go.Proofs.YtliihnkonakacaaGreatDoor.T1 Go.Proofs.YtliihnkonakacaaGreatDoor.P5 Go.Proofs.YtliihnkonakacaaGreatDoor.P6 Go.Proofs.YtliihnkonakacaaGreatDoor.P8 Go.Lib

/-- The nine texts that are no notes, as the law has them. -/
def bads : List (List UInt8) := [
  [119, 104, 97, 116, 58, 32, 53],
  [119, 105, 100, 101, 32, 55, 112, 120],
  [99, 111, 108, 111, 114, 58, 32, 35, 102, 102],
  [125],
  [102, 111, 114, 109, 58, 32, 97, 32, 98],
  [],
  [99, 108, 101, 97, 114, 58, 32, 49, 48, 48, 49],
  [108, 101, 102, 116, 58, 32, 53, 112, 120, 32, 33, 32, 115, 116, 114, 111, 110, 103],
  [115, 104, 111, 119, 58, 32, 114, 111, 117, 110, 100]]

/-- The three texts that are notes. -/
def goods : List (List UInt8) := [
  [119, 105, 100, 101, 58, 32, 55, 112, 120],
  [99, 108, 101, 97, 114, 58, 32, 57, 32, 33, 115, 116, 114, 111, 110, 103],
  [102, 111, 114, 109, 58, 32, 114, 111, 117, 110, 100]]

theorem read_short {s : List UInt8} (h : s.length ≤ 4000) : readNotes (tokensOf s) = (read9 (toks s)).take 12 := by
  unfold tokensOf
  rw [if_neg (by omega)]
  unfold readNotes
  rw [if_pos (List.all_eq_true.2 (toks_ok (by omega)))]

theorem bads_none : ∀ b ∈ bads, read9 (toks b) = [] := by
  intro b hb
  simp only [bads, List.mem_cons, List.not_mem_nil, or_false] at hb
  rcases hb with rfl | rfl | rfl | rfl | rfl | rfl | rfl | rfl | rfl <;> kernel_rfl

theorem goods_one : ∀ b ∈ goods, (read9 (toks b)).length = 1 ∧ (∀ c, b.head? = some c → isSpace c = false) := by
  intro b hb
  simp only [goods, List.mem_cons, List.not_mem_nil, or_false] at hb
  rcases hb with rfl | rfl | rfl
  all_goals
    refine ⟨by kernel_rfl, fun c hc => ?_⟩
    simp at hc
    subst hc
    rfl

theorem no_harm {a b g : List UInt8} (ha : (read9 (toks a)).length ≤ 6) (hb : b ∈ bads) (hg : g ∈ goods) (hl : (a ++ 59 :: (b ++ 59 :: 32 :: g)).length ≤ 4000) :
    readNotes (tokensOf (a ++ 59 :: (b ++ 59 :: 32 :: g))) = readNotes (tokensOf a) ++ readNotes (tokensOf g) ∧ (readNotes (tokensOf g)).length = 1 := by
  have hla : a.length ≤ 4000 := by simp at hl; omega
  have hlg : g.length ≤ 4000 := by simp at hl; omega
  obtain ⟨h1, hsp⟩ := goods_one g hg
  rw [read_short hl, read_short hla, read_short hlg, toks_sign (by decide), toks_sign (by decide), space_toks hsp, read9_cut (by rfl), read9_cut (by rfl), read9_space, bads_none b hb, List.nil_append]
  constructor
  · rw [List.take_of_length_le (by rw [List.length_append]; omega), List.take_of_length_le (by omega), List.take_of_length_le (by omega)]
  · rw [List.length_take]; omega

end Go.Proofs.YtliihnkonakacaaGreatDoor.P9
