/- A law on a region that draws its order: what is held may speak of all that is done and of all that it left, together. -/
import Derived.Test.YtgaggpnlimchkaaGreatDoorFree10
namespace Go.Proofs.YtgaggpnlimchkaaGreatDoor.B11
open Go.Proofs.YtgaggpnlimchkaaGreatDoor.RI Go.Proofs.YtgaggpnlimchkaaGreatDoor.B10
open Go.ChangeShapes Go.WideShapes Go.ChangeAt Go.RowKit
set_option linter.unusedVariables false

section
variable {P : Program} {ops : Array Oper} {Q : Exit → Act → World → Prop} {a : Act} {w : World}

structure FreeJ (ops : Array Oper) (a : Act) (B : Array Bool → List Value → World → Prop) (L : Array Bool) (A : Act) (W : World) : Prop where
  sz : A.tmps.size = a.tmps.size
  rs : A = { a with tmps := A.tmps }
  st : ∀ k, apart ops k = true → A.tmps[k]?.getD undef = a.tmps[k]?.getD undef
  bs : B L (valsOf ops A) W

theorem region_joint {id : Nat} (hm : P.follows .mixedOrders = true) (B : Array Bool → List Value → World → Prop) (ms : List (Option Nat))
    (hok : okD ops a.tmps.size = true) (hms : okM ops ms = true) (hB : B (Array.replicate ops.size false) (valsOf ops a) w.drew)
    (hs : ∀ i, i < ops.size → ∀ L A W, B L (valsOf ops A) W → L.size = ops.size → L[i]?.getD false = false → (∀ j, behind ops i j = true → L[j]?.getD false = true) → (∀ k, apart ops k = true → A.tmps[k]?.getD undef = a.tmps[k]?.getD undef) →
      wpOp P ops Q i (fun A' W' => ∃ v, A' = A.put (dstOf ops i) v ∧ ∀ vs, (∀ j, j ≠ i → vs[j]?.getD undef = (valsOf ops A)[j]?.getD undef) → (∀ d, dstOf ops i = some d → vs[i]?.getD undef = v) → B (L.setIfInBounds i true) vs W') A W)
    (he : ∀ L W vs, (∀ j, j < ops.size → L[j]?.getD false = true) → B L vs W → Q .normal { a with tmps := (mergeL vs ms a.tmps.toList).toArray } W) : (Code.region id ops true).wp P Q a w := by
  refine region_inv hm (fun L => FreeJ ops a B L) ⟨rfl, rfl, fun _ _ => rfl, hB⟩ (fun L A W hL hJ i hi => ?_) (fun L A W hL hJ hr => ?_)
  · have hin : i < ops.size := by
      unfold Region.ready at hi
      rw [List.mem_filter] at hi
      simpa using hi.1
    obtain ⟨o, ho⟩ : ∃ o, ops[i]? = some o := ⟨_, Array.getElem?_eq_getElem hin⟩
    obtain ⟨hnot, hdep⟩ := ready_of hL ho hi
    refine wpOp_mono (fun A' W' hh => ?_) (hs i hin L A W hJ.bs hL hnot (fun j hb => behind_dep ho hdep hb) hJ.st)
    obtain ⟨v, rfl, hB'⟩ := hh
    have hlen : (valsOf ops A).length = ops.size := by unfold valsOf; simp
    have hi2 : ((valsOf ops A).set i v)[i]?.getD undef = v := by
      rw [List.getElem?_set_self (by omega)]; rfl
    have hne : ∀ j, j ≠ i → ((valsOf ops A).set i v)[j]?.getD undef = (valsOf ops A)[j]?.getD undef := fun j hj => by
      rw [List.getElem?_set_ne (Ne.symm hj)]
    have hD : Det ops ((valsOf ops A).set i v) a (fun _ => True) (fun j => j ≠ i) A W := ⟨hJ.sz, hJ.rs, hJ.st, fun j d hd hj => by rw [hne j hj, valsOf_at hd], trivial⟩
    have hP := hD.put (D' := fun _ => True) (w' := W') hok hin trivial (fun j _ => by
      by_cases e : j = i
      · exact Or.inl e
      · exact Or.inr e)
    rw [hi2] at hP
    refine ⟨hP.sz, hP.rs, hP.st, hB' _ (fun j hj => ?_) (fun d hd => ?_)⟩
    · cases hd : dstOf ops j with
      | some d => rw [valsOf_at hd, valsOf_at hd, hP.on j d hd trivial, hne j hj, valsOf_at hd]
      | none =>
        have hnone : ∀ X : Act, (valsOf ops X)[j]?.getD undef = undef := fun X => by
          unfold valsOf
          rw [List.getElem?_map]
          rcases Nat.lt_or_ge j ops.size with hl | hl
          · rw [List.getElem?_range hl]
            simp [hd]
          · rw [List.getElem?_eq_none (by simp; omega)]
            rfl
        rw [hnone, hnone]
    · rw [valsOf_at hd, hP.on i d hd trivial, hi2]
  · have hall := ready_all (List.all_eq_true.2 fun i hi => by
      have := List.all_eq_true.1 hok i hi
      simp only [Bool.and_eq_true] at this
      exact this.1) hL hr
    have hD : Det ops (valsOf ops A) a (fun _ => True) (fun _ => True) A W := ⟨hJ.sz, hJ.rs, hJ.st, fun j d hd _ => (valsOf_at hd).symm, trivial⟩
    rw [hD.frame hok hms (fun _ _ => trivial)]
    exact he L W (valsOf ops A) hall hJ.bs
end

end Go.Proofs.YtgaggpnlimchkaaGreatDoor.B11
