/- Contracts of chapter 5's functions (tokens): the reference's Squeezed. -/
import Derived.Test.YtniemiofffecjaaDoorBase5l
namespace Go.Proofs.YtniemiofffecjaaDoor.B5
open Go.Proofs.YtniemiofffecjaaDoor.P1 Go.Proofs.YtniemiofffecjaaDoor.B1 Go.Proofs.YtniemiofffecjaaDoor.B2 Go.Proofs.YtniemiofffecjaaDoor.T1 Go.Proofs.YtniemiofffecjaaDoor.BT Go.Proofs.YtniemiofffecjaaDoor.P5 Go.Proofs.YtniemiofffecjaaDoor.D1
open Go.ChangeShapes Go.WideShapes Go.ChangeAt Go.RowKit
set_option linter.unusedVariables false

theorem Squeezes.from {ts : List Tok} {w w1 : World} {e : Ending} {w' : World} (hb : Below w.heap.size w w1) (h : Squeezes ts w1 e w') : Squeezes ts w e w' := by
  obtain ⟨v, he, ho, hB⟩ := h
  refine ⟨v, he, ?_, hb.trans (hB.mono hb.size)⟩
  unfold Toks at ho ⊢
  refine ⟨ho.1, ?_⟩
  rcases ho.2 with h0 | ⟨g, cap, cur, h1, h2, h3⟩
  · exact Or.inl h0
  · exact Or.inr ⟨g, cap, cur, h1, Nat.le_trans hb.size h2, h3⟩

set_option maxHeartbeats 1000000 in
theorem Squeezed_row (ts : List Tok) (n g cap : Nat) (w : World) (hn : ts.length = n) (h : TokRow w g cap ts) (hf : ∀ x ∈ ts, TokFit x) (hs : n ≤ 2000000) :
    Calls Tryd.prog 22 #[.slice (some ⟨g, 0, none⟩) n cap] w (Squeezes (squeezed ts) w) := by
  have HA := Lib.hid (All_row ts n g cap w hn h hf hs)
  have HS := Lib.hid (fun w' (hb : Below w.heap.size w w') => Squeeze_row ts n g cap w' hn (h.on hb) hs)
  clear hn h hf hs
  cases hall : ts.all tokOk
  · rw [hall] at HA
    have Hx := Lib.hid (show squeezed ts = [] by unfold squeezed; rw [if_neg (by rw [hall]; decide)])
    go_enter Tryd.func22, Tryd.ntmps22
    go_wp2_with (go_at_call 41; refine HA.out.mono ?_; rintro e w1 ⟨rfl, g1⟩)
    go_ret
    exact ⟨_, rfl, by rw [Hx.out]; exact World.ownsRow_lit w1 #[] 0 g1.size (by decide) rfl, g1.alloc g1.size _⟩
  · rw [hall] at HA
    have Hx := Lib.hid (show squeezed ts = squeeze ts by unfold squeezed; rw [if_pos hall])
    go_enter Tryd.func22, Tryd.ntmps22
    go_wp2_with (first | (go_at_call 41; refine HA.out.mono ?_; rintro e w1 ⟨rfl, g1⟩) | (go_at_call 45; refine (HS.out _ g1).mono ?_; rintro e w2 hsq; replace hsq := Squeezes.from g1 hsq; obtain ⟨v, rfl, ho, hB⟩ := hsq))
    go_ret
    exact ⟨_, rfl, by rw [Hx.out]; exact ho, hB⟩

set_option maxHeartbeats 1000000 in
theorem Squeeze_nil (w : World) : Calls Tryd.prog 45 #[.slice none 0 0] w (Squeezes [] w) := by
  go_enter Tryd.func45, Tryd.ntmps45
  go_wp2
  go_loop [3, 4] (fun s3 s4 => s3 = .slice (some ⟨w.heap.size, 0, none⟩) 0 0 ∧ s4 = .int .i64 0) (fun _ _ => 0)
  case atStart => exact ⟨rfl, rfl⟩
  case round =>
    obtain ⟨rfl, rfl⟩ := hrel
    go_wp2
    go_ret
    exact ⟨_, rfl, World.ownsRow_lit w #[] 0 (Nat.le_refl _) (by decide) rfl, (Below.refl _ _).alloc (Nat.le_refl _) _⟩

theorem Squeezed_nil (w : World) : Calls Tryd.prog 22 #[.slice none 0 0] w (Squeezes [] w) := by
  go_enter Tryd.func22, Tryd.ntmps22
  go_wp2_with (first | (go_at_call 41; refine (All_nil _).mono ?_; rintro e w1 ⟨rfl, g1⟩) | (go_at_call 45; refine (Squeeze_nil _).mono ?_; rintro e w2 hsq; replace hsq := Squeezes.from g1 hsq; obtain ⟨v, rfl, ho, hB⟩ := hsq))
  go_ret
  exact ⟨_, rfl, ho, hB⟩

end Go.Proofs.YtniemiofffecjaaDoor.B5
