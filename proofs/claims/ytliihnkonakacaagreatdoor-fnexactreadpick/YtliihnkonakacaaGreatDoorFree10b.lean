/- As Free10, where what is held turns with what is done (a cell that is loaded and then stored). -/
import Derived.Test.YtliihnkonakacaaGreatDoorFree10
namespace Go.Proofs.YtliihnkonakacaaGreatDoor.B10
open Go.Proofs.YtliihnkonakacaaGreatDoor.RI
open Go.ChangeShapes Go.WideShapes Go.ChangeAt Go.RowKit
set_option linter.unusedVariables false

section
variable {P : Program} {ops : Array Oper} {Q : Exit → Act → World → Prop} {a : Act} {w : World}

/-- What holds while a region's operations are done, whatever they answer. -/
structure Free3 (ops : Array Oper) (a : Act) (F : Nat → Value → World → Prop) (B : Array Bool → World → Prop) (L : Array Bool) (A : Act) (W : World) : Prop where
  sz : A.tmps.size = a.tmps.size
  rs : A = { a with tmps := A.tmps }
  st : ∀ k, apart ops k = true → A.tmps[k]?.getD undef = a.tmps[k]?.getD undef
  on : ∀ j d, dstOf ops j = some d → L[j]?.getD false = true → F j (A.tmps[d]?.getD undef) W
  un : ∀ j d, dstOf ops j = some d → L[j]?.getD false = false → A.tmps[d]?.getD undef = a.tmps[d]?.getD undef
  cl : ∀ j i, L[j]?.getD false = true → behind ops j i = true → L[i]?.getD false = true
  bs : B L W

theorem region_free3 {id : Nat} (hm : P.follows .mixedOrders = true) (F : Nat → Value → World → Prop) (B : Array Bool → World → Prop) (ms : List (Option Nat))
    (hok : okD ops a.tmps.size = true) (hms : okM ops ms = true) (hB : B (Array.replicate ops.size false) w.drew)
    (hs : ∀ i, i < ops.size → ∀ L A W, B L W → L.size = ops.size → L[i]?.getD false = false → (∀ j, behind ops j i = true → L[j]?.getD false = false) → (∀ k, apart ops k = true → A.tmps[k]?.getD undef = a.tmps[k]?.getD undef) → (∀ j d, dstOf ops j = some d → behind ops j i = true → A.tmps[d]?.getD undef = a.tmps[d]?.getD undef) → (∀ j d, dstOf ops j = some d → behind ops i j = true → F j (A.tmps[d]?.getD undef) W) → wpOp P ops Q i (fun A' W' => ∃ v, A' = A.put (dstOf ops i) v ∧ B (L.setIfInBounds i true) W' ∧ F i v W' ∧ ∀ j u, j < ops.size → F j u W → F j u W') A W)
    (he : ∀ L W vs, (∀ j, j < ops.size → L[j]?.getD false = true) → B L W → (∀ j d, dstOf ops j = some d → F j (vs[j]?.getD undef) W) → Q .normal { a with tmps := (mergeL vs ms a.tmps.toList).toArray } W) : (Code.region id ops true).wp P Q a w := by
  refine region_inv hm (fun L => Free3 ops a F B L) ⟨rfl, rfl, fun _ _ => rfl, fun j d _ hl => ?_, fun _ _ _ _ => rfl, fun j i hl _ => ?_, hB⟩ (fun L A W hL hJ i hi => ?_) (fun L A W hL hJ hr => ?_)
  · rw [Array.getElem?_replicate] at hl
    split at hl <;> cases hl
  · rw [Array.getElem?_replicate] at hl
    split at hl <;> cases hl
  · have hin : i < ops.size := by
      unfold Region.ready at hi
      rw [List.mem_filter] at hi
      simpa using hi.1
    obtain ⟨o, ho⟩ : ∃ o, ops[i]? = some o := ⟨_, Array.getElem?_eq_getElem hin⟩
    obtain ⟨hnot, hdep⟩ := ready_of hL ho hi
    have hbeh : ∀ j, behind ops j i = true → L[j]?.getD false = false := fun j hb => by
      cases hl : L[j]?.getD false
      · rfl
      · have := hJ.cl j i hl hb
        have hn : L[i]?.getD false = false := hnot
        rw [hn] at this; cases this
    refine wpOp_mono (fun A' W' hh => ?_) (hs i hin L A W hJ.bs hL hnot hbeh hJ.st (fun j d hd hb => hJ.un j d hd (hbeh j hb)) (fun j d hd hb => hJ.on j d hd (behind_dep ho hdep hb)))
    · obtain ⟨v, rfl, hB', hF, hK⟩ := hh
      have hlen : (valsOf ops A).length = ops.size := by unfold valsOf; simp
      have hi2 : ((valsOf ops A).set i v)[i]?.getD undef = v := by
        rw [List.getElem?_set_self (by omega)]; rfl
      have hne : ∀ j, j ≠ i → ((valsOf ops A).set i v)[j]?.getD undef = (valsOf ops A)[j]?.getD undef := fun j hj => by
        rw [List.getElem?_set_ne (Ne.symm hj)]
      have hD : Det ops ((valsOf ops A).set i v) a (fun _ => True) (fun j => j ≠ i) A W := ⟨hJ.sz, hJ.rs, hJ.st, fun j d hd hj => by rw [hne j hj, valsOf_at hd], trivial⟩
      have hP := hD.put (D' := fun _ => True) (w' := W') hok hin trivial (fun j _ => by
        by_cases e : j = i
        · exact Or.inl e
        · exact Or.inr e)
      rw [hi2] at hP
      have hset : (L.setIfInBounds i true)[i]?.getD false = true := by
        rw [Array.getElem?_setIfInBounds_self_of_lt (by omega)]; rfl
      refine ⟨hP.sz, hP.rs, hP.st, fun j d hd hl => ?_, fun j d hd hl => ?_, fun j k hl hb => ?_, hB'⟩
      · rw [hP.on j d hd trivial]
        by_cases e : j = i
        · subst e
          rw [hi2]; exact hF
        · rw [hne j e, valsOf_at hd]
          refine hK j _ (dst_lt hd) (hJ.on j d hd ?_)
          rwa [Array.getElem?_setIfInBounds_ne (Ne.symm e)] at hl
      · by_cases e : j = i
        · subst e
          rw [hset] at hl; cases hl
        · rw [hP.on j d hd trivial, hne j e, valsOf_at hd]
          refine hJ.un j d hd ?_
          rwa [Array.getElem?_setIfInBounds_ne (Ne.symm e)] at hl
      · have hk : L[k]?.getD false = true := by
          by_cases e : j = i
          · subst e
            exact behind_dep ho hdep hb
          · rw [Array.getElem?_setIfInBounds_ne (Ne.symm e)] at hl
            exact hJ.cl j k hl hb
        by_cases e : k = i
        · subst e; exact hset
        · rw [Array.getElem?_setIfInBounds_ne (Ne.symm e)]; exact hk
  · have hall := ready_all (List.all_eq_true.2 fun i hi => by
      have := List.all_eq_true.1 hok i hi
      simp only [Bool.and_eq_true] at this
      exact this.1) hL hr
    have hD : Det ops (valsOf ops A) a (fun _ => True) (fun _ => True) A W := ⟨hJ.sz, hJ.rs, hJ.st, fun j d hd _ => (valsOf_at hd).symm, trivial⟩
    rw [hD.frame hok hms (fun _ _ => trivial)]
    exact he L W (valsOf ops A) hall hJ.bs (fun j d hd => by rw [valsOf_at hd]; exact hJ.on j d hd (hall j (dst_lt hd)))
end

end Go.Proofs.YtliihnkonakacaaGreatDoor.B10
