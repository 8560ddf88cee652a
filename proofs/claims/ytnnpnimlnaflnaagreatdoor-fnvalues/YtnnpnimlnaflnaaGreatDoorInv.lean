/- A region that draws its order, by what holds whatever of its operations have been done. -/
import Derived.Test.YtnnpnimlnaflnaaGreatDoorLoc
import Derived.Orders
namespace Go.Proofs.YtnnpnimlnaflnaaGreatDoor.RI
open Go.ChangeShapes Go.WideShapes Go.ChangeAt Go.RowKit
set_option linter.unusedVariables false

/-- The operations that are still to be done. -/
def left (n : Nat) (L : Array Bool) : List Nat := (List.range n).filter fun i => !L.getD i true

theorem left_less {n i : Nat} {L : Array Bool} (hL : L.size = n) (hi : i < n) (h : L.getD i true = false) : (left n (L.setIfInBounds i true)).length < (left n L).length := by
  have he : left n (L.setIfInBounds i true) = (left n L).filter fun j => decide (j ≠ i) := by
    unfold left
    rw [List.filter_filter]
    refine List.filter_congr fun j _ => ?_
    by_cases e : j = i
    · subst e
      simp [hL, hi]
    · simp [Array.getElem?_setIfInBounds_ne (Ne.symm e), e]
  rw [he, List.length_filter_lt_length_iff_exists]
  refine ⟨i, ?_, by simp⟩
  unfold left
  rw [List.mem_filter]
  exact ⟨by simpa using hi, by rw [h]; rfl⟩

theorem any_inv {P : Program} {ops : Array Oper} {Q : Exit → Act → World → Prop} (J : Array Bool → Act → World → Prop)
    (hs : ∀ L a w, L.size = ops.size → J L a w → ∀ i ∈ Region.ready .any ops L, wpOp P ops Q i (J (L.setIfInBounds i true)) a w)
    (he : ∀ L a w, L.size = ops.size → J L a w → Region.ready .any ops L = [] → Q .normal a w) :
    ∀ (fuel : Nat) (L : Array Bool) (a : Act) (w : World), L.size = ops.size → (left ops.size L).length ≤ fuel → J L a w → wpAny P .any ops Q fuel L a w
  | 0, L, a, w, hL, hf, hJ => by
    have hr : Region.ready .any ops L = [] := by
      have h0 : left ops.size L = [] := List.length_eq_zero_iff.1 (Nat.le_zero.1 hf)
      unfold Region.ready
      rw [List.filter_eq_nil_iff]
      intro i hi hc
      have : i ∈ left ops.size L := by
        unfold left
        rw [List.mem_filter]
        exact ⟨hi, by simp only [Bool.and_eq_true] at hc; exact hc.1⟩
      rw [h0] at this; cases this
    exact ⟨hr, he L a w hL hJ hr⟩
  | fuel + 1, L, a, w, hL, hf, hJ => by
    refine ⟨fun hr => he L a w hL hJ hr, fun i hi => ?_⟩
    refine wpOp_mono ?_ (hs L a w hL hJ i hi)
    intro a' w' hJ'
    have hi' := hi
    unfold Region.ready at hi'
    rw [List.mem_filter] at hi'
    have hlt : i < ops.size := by simpa using hi'.1
    have hnl : L.getD i true = false := by
      have := hi'.2
      simp only [Bool.and_eq_true, Bool.not_eq_true'] at this
      exact this.1
    have := left_less hL hlt hnl
    exact any_inv J hs he fuel _ a' w' (by simpa using hL) (by omega) hJ'

theorem region_inv {P : Program} {ops : Array Oper} {Q : Exit → Act → World → Prop} {id : Nat} {a : Act} {w : World} (hm : P.follows .mixedOrders = true) (J : Array Bool → Act → World → Prop)
    (h0 : J (Array.replicate ops.size false) a w.drew)
    (hs : ∀ L a w, L.size = ops.size → J L a w → ∀ i ∈ Region.ready .any ops L, wpOp P ops Q i (J (L.setIfInBounds i true)) a w)
    (he : ∀ L a w, L.size = ops.size → J L a w → Region.ready .any ops L = [] → Q .normal a w) : (Code.region id ops true).wp P Q a w :=
  wp_region_any hm (any_inv J hs he ops.size _ a _ (by simp) (by
    unfold left
    refine Nat.le_trans (List.length_filter_le _ _) ?_
    simp) h0)

end Go.Proofs.YtnnpnimlnaflnaaGreatDoor.RI
