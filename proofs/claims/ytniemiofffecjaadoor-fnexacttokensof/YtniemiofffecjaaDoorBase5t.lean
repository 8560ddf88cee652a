/- The laws' own helpers on slices of tokens, the nil one among them: marked and held. -/
import Derived.Test.YtniemiofffecjaaDoorBase5s
namespace Go.Proofs.YtniemiofffecjaaDoor.B5
open Go.Proofs.YtniemiofffecjaaDoor.P1 Go.Proofs.YtniemiofffecjaaDoor.B1 Go.Proofs.YtniemiofffecjaaDoor.B2 Go.Proofs.YtniemiofffecjaaDoor.T1 Go.Proofs.YtniemiofffecjaaDoor.BT Go.Proofs.YtniemiofffecjaaDoor.P5 Go.Proofs.YtniemiofffecjaaDoor.D1
open Go.ChangeShapes Go.WideShapes Go.ChangeAt Go.RowKit
set_option linter.unusedVariables false

theorem markS_none (a : Option Addr) (cap k : Nat) (w : World) : Calls Tryd.prog 26 #[.slice a 0 cap, .int .i64 (k : Int)] w (Ans (.int .i64 (k : Int)) w) := by
  go_enter Tryd.func26, Tryd.ntmps26
  go_wp2
  go_loop [1, 5] (fun s1 s5 => s1 = .int .i64 (k : Int) ∧ s5 = .int .i64 0) (fun _ _ => 0)
  case atStart => exact ⟨rfl, rfl⟩
  case round =>
    obtain ⟨rfl, rfl⟩ := hrel
    go_wp2
    go_ret
    exact ⟨rfl, Below.refl _ _⟩

theorem heldS_none (a : Option Addr) (cap k : Nat) (w : World) : Calls Tryd.prog 27 #[.slice a 0 cap, .int .i64 (k : Int)] w (Ans (.int .i64 (k : Int)) w) := by
  go_enter Tryd.func27, Tryd.ntmps27
  go_wp2
  go_loop [1, 5] (fun s1 s5 => s1 = .int .i64 (k : Int) ∧ s5 = .int .i64 0) (fun _ _ => 0)
  case atStart => exact ⟨rfl, rfl⟩
  case round =>
    obtain ⟨rfl, rfl⟩ := hrel
    go_wp2
    go_ret
    exact ⟨rfl, Below.refl _ _⟩

theorem Only.belowAt {g B : Nat} {w w' : World} (h : Only g w w') (hg : B ≤ g) (hB : B ≤ w.heap.size) : Below B w w' := h.below hg hB

/-- A slice of the call's own, marked: it holds the marks, and what lies below it stands. -/
theorem mark_val (ts : List Tok) (v : Value) (B k n : Nat) (w : World) (hn : ts.length = n) (h : Toks w v B ts) (hB : B ≤ w.heap.size) (hs : n ≤ 2000000) (hk1 : 1 ≤ k) (hk2 : k ≤ 1000000) :
    Calls Tryd.prog 26 #[v, .int .i64 (k : Int)] w fun e w' => e = .returned (.int .i64 ((k + 3 * n : Nat) : Int)) ∧ TokVal w' v (marked k n) ∧ Below B w w' := by
  subst hn
  rcases h.row with ⟨rfl, rfl⟩ | ⟨g, cap, rfl, hg, hr⟩
  · refine (markS_none none 0 k w).mono ?_
    rintro e w' ⟨rfl, hb⟩
    exact ⟨rfl, Or.inl ⟨rfl, rfl⟩, hb.mono hB⟩
  · refine (markS_rows ts k ts.length g cap w rfl (h.lblk rfl) hr.room hs hk1 hk2).mono ?_
    rintro e w' ⟨rfl, hl, ho⟩
    exact ⟨rfl, Or.inr ⟨g, cap, by rw [marked_len], row_of_lblk hl (by rw [marked_len]; exact hr.room) hr.top⟩, ho.below hg hB⟩

theorem held_val (v : Value) (k n : Nat) (w : World) (h : TokVal w v (marked k n)) (hs : n ≤ 2000000) (hk1 : 1 ≤ k) (hk2 : k ≤ 1000000) :
    Calls Tryd.prog 27 #[v, .int .i64 (k : Int)] w (Ans (.int .i64 ((k + 3 * n : Nat) : Int)) w) := by
  rcases h with ⟨rfl, h0⟩ | ⟨g, cap, rfl, hr⟩
  · have : n = 0 := by have := congrArg List.length h0; rw [marked_len] at this; simpa using this
    subst this
    exact heldS_none none 0 k w
  · rw [marked_len]
    exact heldS_rows k n g cap w hr hs hk1 hk2

theorem TokVal.below {B : Nat} {w w' : World} {v : Value} {ts : List Tok} (h : TokVal w v ts) (hb : Below B w w') (hv : ∀ g, v.ownBlock = some g → g < B) : TokVal w' v ts := by
  rcases h with h | ⟨g, cap, rfl, hr⟩
  · exact Or.inl h
  · have hg := hv g rfl
    exact Or.inr ⟨g, cap, rfl, ⟨fun i x hx => by
      obtain ⟨c0, c1, c2⟩ := hr.cells i x hx
      exact ⟨(hb.cell (p := ⟨g, i * 3, none⟩) hg).trans c0, (hb.cell (p := ⟨g, i * 3 + 1, none⟩) hg).trans c1, (hb.cell (p := ⟨g, i * 3 + 2, none⟩) hg).trans c2⟩, hr.room, hr.top, Nat.lt_of_lt_of_le hr.lt hb.size⟩⟩

theorem Toks.under {w : World} {v : Value} {B : Nat} {ts : List Tok} (h : Toks w v B ts) : ∀ g, v.ownBlock = some g → g < w.heap.size := by
  intro g hg
  rcases h.row with ⟨rfl, _⟩ | ⟨g', cap, rfl, _, hr⟩
  · cases hg
  · cases hg; exact hr.lt

end Go.Proofs.YtniemiofffecjaaDoor.B5
