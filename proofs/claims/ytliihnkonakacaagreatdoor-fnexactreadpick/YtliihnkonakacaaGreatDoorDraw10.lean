/- Draws of chapter 10: l10DrawBadges, l10Draw. -/
import Derived.Test.YtliihnkonakacaaGreatDoorPut10
import Derived.Test.YtliihnkonakacaaGreatDoorDraw5
namespace Go.Proofs.YtliihnkonakacaaGreatDoor.B10
open Go.Proofs.YtliihnkonakacaaGreatDoor.P1 Go.Proofs.YtliihnkonakacaaGreatDoor.B1 Go.Proofs.YtliihnkonakacaaGreatDoor.B2 Go.Proofs.YtliihnkonakacaaGreatDoor.T1 Go.Proofs.YtliihnkonakacaaGreatDoor.BT Go.Proofs.YtliihnkonakacaaGreatDoor.P5 Go.Proofs.YtliihnkonakacaaGreatDoor.B5 Go.Proofs.YtliihnkonakacaaGreatDoor.P6 Go.Proofs.YtliihnkonakacaaGreatDoor.B6 Go.Proofs.YtliihnkonakacaaGreatDoor.D1 Go.Proofs.YtliihnkonakacaaGreatDoor.D2 Go.Proofs.YtliihnkonakacaaGreatDoor.D5 Go.Proofs.YtliihnkonakacaaGreatDoor.DB Go.Proofs.YtliihnkonakacaaGreatDoor.W8 Go.Proofs.YtliihnkonakacaaGreatDoor.RC Go.Proofs.YtliihnkonakacaaGreatDoor.RI Go.Proofs.YtliihnkonakacaaGreatDoor.P10
open Go.ChangeShapes Go.WideShapes Go.ChangeAt Go.RowKit
set_option linter.unusedVariables false

theorem own_onlyA {w w' : World} {B e size n c : Nat} {v : Value} {xs : List Value} (h : w.ownsRow B e size v n xs) (ho : Only c w w') (hc : c < B) : w'.ownsRow B e size v n xs := by
  have hne : v.ownBlock ≠ some c := fun e0 => by
    have := (World.ownsRow.lt h c e0).1
    omega
  exact h.kept (row := some c) ⟨ho.os, ho.tape, ho.output, ho.size, fun k hk hn => ho.block k (fun e0 => hn (by rw [e0])) hk⟩ (Or.inr hne)

theorem own_otherA {w w' : World} {B e size n b : Nat} {v : Value} {xs : List Value} (h : w.ownsRow B e size v n xs) (ho : Only b w w') (hne : some b ≠ v.ownBlock) : w'.ownsRow B e size v n xs :=
  h.kept (row := some b) ⟨ho.os, ho.tape, ho.output, ho.size, fun k hk hn => ho.block k (fun e0 => hn (by rw [e0])) hk⟩ (Or.inr (Ne.symm hne))

/-- Some texts of the call's own. -/
def DrawnBs (m : Nat) (c : Nat) (a : Option Addr) (len cap : Nat) (w : World) (e : Ending) (w' : World) : Prop :=
  ∃ v ss, e = .returned v ∧ Words w' v w.heap.size ss ∧ (∀ s ∈ ss, s.length ≤ 100) ∧ ss.length ≤ m ∧ Cur w' c a len cap ∧ Only c w w'

theorem put_len (s : List UInt8) : ∀ (l : List (List UInt8)), (put s l).length ≤ l.length + 1
  | [] => by simp [put]
  | y :: r => by
    unfold put
    split
    · have := put_len s r; simp; omega
    · split <;> simp

theorem words_shapeA {w : World} {v : Value} {B : Nat} {ss : List (List UInt8)} (h : Words w v B ss) : ∃ a c, v = .slice a ss.length c := by
  rcases h.2 with ⟨rfl, h0⟩ | ⟨g, cap, cur, rfl, _⟩
  · exact ⟨none, 0, by rw [h0]⟩
  · exact ⟨_, _, rfl⟩

def badgeWords : List (List UInt8) := [[111, 110], [114, 101, 100], [117, 112]]

/-- A text picked out of some. -/
theorem picked {W : World} {b K : Nat} {ls : List (List UInt8)} (h : LBlk W b (wordsV ls)) (hK : K < ls.length) : ∃ s, s ∈ ls ∧ W.cell? ⟨b, K, none⟩ = some (.string ⟨s.toArray⟩) :=
  ⟨ls[K], List.getElem_mem hK, (h.2 K _ (by unfold wordsV; rw [List.getElem?_map, List.getElem?_eq_getElem hK]; rfl)).1⟩

set_option maxRecDepth 20000 in
set_option maxHeartbeats 4000000 in
theorem DrawBadges_draw (w : World) (c : Nat) (a : Option Addr) (len cap : Nat) (M : Nat) (hM0 : 1 ≤ M) (hM1 : M ≤ 10) (h : Cur w c a len cap) :
    Calls Tryz.prog 178 #[.pointer (some ⟨c, 0, none⟩), .int .i64 (M : Int)] w (DrawnBs M c a len cap w) := by
  have hF1 := (Fr.refl h).alloc (.cells #[] 9)
  have hcw := h.lt
  have ho1 : (w.alloc (.cells #[] 9)).ownsRow w.heap.size 9 1 (.slice (some ⟨w.heap.size, 0, none⟩) 0 0) 0 [] := World.ownsRow_lit w #[] 0 (Nat.le_refl _) (by decide) rfl
  clear h
  go_enter Tryz.func178, Tryz.ntmps178
  go_wp2_with fail
  refine (Below_draw _ c a len cap (M : Int) hF1.cur).mono ?_
  rintro e w2 ⟨x, ⟨hx0, hx1, _⟩, rfl, hc2, hon2⟩
  have hx1' := hx1 (by omega)
  obtain ⟨N, rfl⟩ : ∃ N : Nat, x = (N : Int) := ⟨x.toNat, by omega⟩
  have hF2 := hF1.call hc2 hon2
  have ho2 : Words w2 (.slice (some ⟨w.heap.size, 0, none⟩) 0 0) w.heap.size [] := own_onlyA ho1 hon2 hcw
  have hN : N < M := by omega
  clear hF1 hc2 hon2 ho1 hx0 hx1 hx1'
  go_wp2_with fail
  go_loopg [5, 6] N (fun kx s5 s6 wr => ∃ (k : Nat) (ss : List (List UInt8)), s6 = .int .i64 (k : Int) ∧ k ≤ kx ∧ ss.length + k ≤ M ∧ Words wr s5 w.heap.size ss ∧ Hid (∀ s ∈ ss, s.length ≤ 100) ∧ Fr c a len cap w wr)
  case atStart => exact ⟨N, [], rfl, Nat.le_refl _, by simp; omega, ho2, Lib.hid (fun s hs => by cases hs), hF2⟩
  case round =>
    obtain ⟨k, ss, rfl, hkk, hlen, hown, HS, hF⟩ := hrel
    clear ho2 hF2
    by_cases hk0 : k = 0
    · subst hk0
      go_wp2_with fail
      go_ret
      exact ⟨_, ss, rfl, hown, HS.out, by omega, hF.cur, hF.only⟩
    · have hk1 : 0 < k := by omega
      have hFa := hF.alloc (.cells #[.string ⟨#[111, 110]⟩, .string ⟨#[114, 101, 100]⟩, .string ⟨#[117, 112]⟩] 9)
      have hla : LBlk (wr.alloc (.cells #[.string ⟨#[111, 110]⟩, .string ⟨#[114, 101, 100]⟩, .string ⟨#[117, 112]⟩] 9)) wr.heap.size (wordsV badgeWords) := LBlk.new wr (wordsV badgeWords) 9
      have hcr : wr.heap.size ≠ c := Nat.ne_of_gt hF.cur.lt
      have howna := World.ownsRow.alloc hown (.cells #[.string ⟨#[111, 110]⟩, .string ⟨#[114, 101, 100]⟩, .string ⟨#[117, 112]⟩] 9)
      obtain ⟨a5, c5, rfl⟩ := words_shapeA hown
      clear hown
      go_wp2_with fail
      refine (Below_draw _ c a len cap 3 hFa.cur).mono ?_
      rintro e w3 ⟨l, ⟨hl0, hl1, _⟩, rfl, hc3, hon3⟩
      have hl1' := hl1 (by omega)
      obtain ⟨K, rfl⟩ : ∃ K : Nat, l = (K : Int) := ⟨l.toNat, by omega⟩
      have hF3 := hFa.call hc3 hon3
      have hown3 := own_onlyA howna hon3 hcw
      obtain ⟨s, hsm, cs⟩ := picked (hla.only hon3 hcr) (K := K) (by show K < 3; omega)
      have hs100 : s.length ≤ 100 := by
        have : ∀ x ∈ badgeWords, x.length ≤ 100 := by decide
        exact this s hsm
      have HP := Lib.hid (Put_spec s ss _ w.heap.size w3 hown3 (by have := hF3.only.size; omega) (by omega))
      have hK3 : (K : Int) < 3 := by omega
      have hK0 : (0 : Int) ≤ (K : Int) := by omega
      clear hF hFa hla hcr howna hc3 hon3 hl0 hl1 hl1' hsm
      go_wp2_with (go_at_call 147; refine HP.out.mono ?_; rintro e w4 ⟨r, rfl, hr, g4⟩; go_frame)
      go_roundg (k - 1)
      case measure => omega
      case rel => exact ⟨k - 1, put s ss, by go_num, by omega, by have := put_len s ss; omega, hr, Lib.hid (fun x hx => by
        rcases (put_mem s x ss).1 hx with rfl | hx
        · exact hs100
        · exact HS.out x hx), fr_below hF3 g4⟩

end Go.Proofs.YtliihnkonakacaaGreatDoor.B10
