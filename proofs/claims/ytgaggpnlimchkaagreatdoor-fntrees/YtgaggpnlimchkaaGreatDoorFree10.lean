/- A law on a region that draws its order: as region_free, where an operation may read a slot that a later one of the region writes. -/
import Derived.Test.YtgaggpnlimchkaaGreatDoorFound
namespace Go.Proofs.YtgaggpnlimchkaaGreatDoor.B10
open Go.Proofs.YtgaggpnlimchkaaGreatDoor.RI
open Go.ChangeShapes Go.WideShapes Go.ChangeAt Go.RowKit
set_option linter.unusedVariables false

section
variable {P : Program} {ops : Array Oper} {Q : Exit → Act → World → Prop} {a : Act} {w : World}

/-- What the operations have left in an act. -/
def valsOf (ops : Array Oper) (A : Act) : List Value := (List.range ops.size).map fun j => match dstOf ops j with
  | some d => A.tmps[d]?.getD undef
  | none => undef

theorem dst_lt {j d : Nat} (h : dstOf ops j = some d) : j < ops.size := by
  unfold dstOf at h
  cases e : ops[j]? with
  | none => rw [e] at h; cases h
  | some o => exact (Array.getElem?_eq_some_iff.1 e).1

theorem valsOf_at {A : Act} {j d : Nat} (h : dstOf ops j = some d) : (valsOf ops A)[j]?.getD undef = A.tmps[d]?.getD undef := by
  unfold valsOf
  rw [List.getElem?_map, List.getElem?_range (dst_lt h)]
  simp [h]

/-- What holds while a region's operations are done, whatever they answer. -/
structure Free2 (ops : Array Oper) (a : Act) (F : Nat → Value → World → Prop) (B : World → Prop) (L : Array Bool) (A : Act) (W : World) : Prop where
  sz : A.tmps.size = a.tmps.size
  rs : A = { a with tmps := A.tmps }
  st : ∀ k, apart ops k = true → A.tmps[k]?.getD undef = a.tmps[k]?.getD undef
  on : ∀ j d, dstOf ops j = some d → L[j]?.getD false = true → F j (A.tmps[d]?.getD undef) W
  un : ∀ j d, dstOf ops j = some d → L[j]?.getD false = false → A.tmps[d]?.getD undef = a.tmps[d]?.getD undef
  cl : ∀ j i, L[j]?.getD false = true → behind ops j i = true → L[i]?.getD false = true
  bs : B W

theorem behind_dep {L : Array Bool} {i j : Nat} {o : Oper} (ho : ops[i]? = some o) (hdep : ∀ e ∈ o.after, Region.binds .any e = true → L[e.on]?.getD false = true) (hb : behind ops i j = true) : L[j]?.getD false = true := by
  unfold behind at hb
  rw [ho] at hb
  simp only [Option.map_some, Option.getD_some] at hb
  obtain ⟨k, hk, hb⟩ := Array.any_eq_true.1 hb
  simp only [Bool.and_eq_true, beq_iff_eq] at hb
  obtain ⟨hbe, rfl⟩ := hb
  exact hdep _ (Array.getElem_mem hk) hbe

theorem region_free2 {id : Nat} (hm : P.follows .mixedOrders = true) (F : Nat → Value → World → Prop) (B : World → Prop) (ms : List (Option Nat))
    (hok : okD ops a.tmps.size = true) (hms : okM ops ms = true) (hB : B w.drew)
    (hs : ∀ i, i < ops.size → ∀ A W, B W → (∀ k, apart ops k = true → A.tmps[k]?.getD undef = a.tmps[k]?.getD undef) → (∀ j d, dstOf ops j = some d → behind ops j i = true → A.tmps[d]?.getD undef = a.tmps[d]?.getD undef) → (∀ j d, dstOf ops j = some d → behind ops i j = true → F j (A.tmps[d]?.getD undef) W) → wpOp P ops Q i (fun A' W' => ∃ v, A' = A.put (dstOf ops i) v ∧ B W' ∧ F i v W' ∧ ∀ j u, j < ops.size → F j u W → F j u W') A W)
    (he : ∀ W vs, B W → (∀ j d, dstOf ops j = some d → F j (vs[j]?.getD undef) W) → Q .normal { a with tmps := (mergeL vs ms a.tmps.toList).toArray } W) : (Code.region id ops true).wp P Q a w := by
  refine region_inv hm (fun L => Free2 ops a F B L) ⟨rfl, rfl, fun _ _ => rfl, fun j d _ hl => ?_, fun _ _ _ _ => rfl, fun j i hl _ => ?_, hB⟩ (fun L A W hL hJ i hi => ?_) (fun L A W hL hJ hr => ?_)
  · rw [Array.getElem?_replicate] at hl
    split at hl <;> cases hl
  · rw [Array.getElem?_replicate] at hl
    split at hl <;> cases hl
  · have hin : i < ops.size := by
      unfold Region.ready at hi
      rw [List.mem_filter] at hi
      simpa using hi.1
    obtain ⟨o, ho⟩ : ∃ o, ops[i]? = some o := ⟨_, Array.getElem?_eq_getElem hin⟩
    obtain ⟨hnot, hdep⟩ := ready_of hL ho hi
    refine wpOp_mono (fun A' W' hh => ?_) (hs i hin A W hJ.bs hJ.st (fun j d hd hb => hJ.un j d hd ?_) (fun j d hd hb => hJ.on j d hd (behind_dep ho hdep hb)))
    · obtain ⟨v, rfl, hB', hF, hK⟩ := hh
      have hlen : (valsOf ops A).length = ops.size := by unfold valsOf; simp
      have hi2 : ((valsOf ops A).set i v)[i]?.getD undef = v := by
        rw [List.getElem?_set_self (by omega)]; rfl
      have hne : ∀ j, j ≠ i → ((valsOf ops A).set i v)[j]?.getD undef = (valsOf ops A)[j]?.getD undef := fun j hj => by
        rw [List.getElem?_set_ne (Ne.symm hj)]
      have hD : Det ops ((valsOf ops A).set i v) a (fun _ => True) (fun j => j ≠ i) A W := ⟨hJ.sz, hJ.rs, hJ.st, fun j d hd hj => by rw [hne j hj, valsOf_at hd], trivial⟩
      have hP := hD.put (D' := fun _ => True) (w' := W') hok hin trivial (fun j _ => by
        by_cases e : j = i
        · exact Or.inl e
        · exact Or.inr e)
      rw [hi2] at hP
      have hset : (L.setIfInBounds i true)[i]?.getD false = true := by
        rw [Array.getElem?_setIfInBounds_self_of_lt (by omega)]; rfl
      refine ⟨hP.sz, hP.rs, hP.st, fun j d hd hl => ?_, fun j d hd hl => ?_, fun j k hl hb => ?_, hB'⟩
      · rw [hP.on j d hd trivial]
        by_cases e : j = i
        · subst e
          rw [hi2]; exact hF
        · rw [hne j e, valsOf_at hd]
          refine hK j _ (dst_lt hd) (hJ.on j d hd ?_)
          rwa [Array.getElem?_setIfInBounds_ne (Ne.symm e)] at hl
      · by_cases e : j = i
        · subst e
          rw [hset] at hl; cases hl
        · rw [hP.on j d hd trivial, hne j e, valsOf_at hd]
          refine hJ.un j d hd ?_
          rwa [Array.getElem?_setIfInBounds_ne (Ne.symm e)] at hl
      · have hk : L[k]?.getD false = true := by
          by_cases e : j = i
          · subst e
            exact behind_dep ho hdep hb
          · rw [Array.getElem?_setIfInBounds_ne (Ne.symm e)] at hl
            exact hJ.cl j k hl hb
        by_cases e : k = i
        · subst e; exact hset
        · rw [Array.getElem?_setIfInBounds_ne (Ne.symm e)]; exact hk
    · cases hl : L[j]?.getD false
      · rfl
      · have := hJ.cl j i hl hb
        have hn : L[i]?.getD false = false := hnot
        rw [hn] at this; cases this
  · have hall := ready_all (List.all_eq_true.2 fun i hi => by
      have := List.all_eq_true.1 hok i hi
      simp only [Bool.and_eq_true] at this
      exact this.1) hL hr
    have hD : Det ops (valsOf ops A) a B (fun _ => True) A W := ⟨hJ.sz, hJ.rs, hJ.st, fun j d hd _ => (valsOf_at hd).symm, hJ.bs⟩
    rw [hD.frame hok hms (fun _ _ => trivial)]
    exact he W (valsOf ops A) hJ.bs (fun j d hd => by rw [valsOf_at hd]; exact hJ.on j d hd (hall j (dst_lt hd)))
end

end Go.Proofs.YtgaggpnlimchkaaGreatDoor.B10

namespace Go.Proofs.YtgaggpnlimchkaaGreatDoor.B10
open Go.Proofs.YtgaggpnlimchkaaGreatDoor.RI
open Go.ChangeShapes Go.WideShapes Go.ChangeAt Go.RowKit
set_option linter.unusedVariables false

section
variable {P : Program} {ops : Array Oper} {Q : Exit → Act → World → Prop} {a : Act} {w : World}

/-- What holds while a region's operations are done, whatever they answer. -/
structure Free3 (ops : Array Oper) (a : Act) (F : Nat → Value → World → Prop) (B : Array Bool → World → Prop) (L : Array Bool) (A : Act) (W : World) : Prop where
  sz : A.tmps.size = a.tmps.size
  rs : A = { a with tmps := A.tmps }
  st : ∀ k, apart ops k = true → A.tmps[k]?.getD undef = a.tmps[k]?.getD undef
  on : ∀ j d, dstOf ops j = some d → L[j]?.getD false = true → F j (A.tmps[d]?.getD undef) W
  un : ∀ j d, dstOf ops j = some d → L[j]?.getD false = false → A.tmps[d]?.getD undef = a.tmps[d]?.getD undef
  cl : ∀ j i, L[j]?.getD false = true → behind ops j i = true → L[i]?.getD false = true
  bs : B L W

theorem region_free3 {id : Nat} (hm : P.follows .mixedOrders = true) (F : Nat → Value → World → Prop) (B : Array Bool → World → Prop) (ms : List (Option Nat))
    (hok : okD ops a.tmps.size = true) (hms : okM ops ms = true) (hB : B (Array.replicate ops.size false) w.drew)
    (hs : ∀ i, i < ops.size → ∀ L A W, B L W → L.size = ops.size → L[i]?.getD false = false → (∀ j, behind ops j i = true → L[j]?.getD false = false) → (∀ k, apart ops k = true → A.tmps[k]?.getD undef = a.tmps[k]?.getD undef) → (∀ j d, dstOf ops j = some d → behind ops j i = true → A.tmps[d]?.getD undef = a.tmps[d]?.getD undef) → (∀ j d, dstOf ops j = some d → behind ops i j = true → F j (A.tmps[d]?.getD undef) W) → wpOp P ops Q i (fun A' W' => ∃ v, A' = A.put (dstOf ops i) v ∧ B (L.setIfInBounds i true) W' ∧ F i v W' ∧ ∀ j u, j < ops.size → F j u W → F j u W') A W)
    (he : ∀ L W vs, (∀ j, j < ops.size → L[j]?.getD false = true) → B L W → (∀ j d, dstOf ops j = some d → F j (vs[j]?.getD undef) W) → Q .normal { a with tmps := (mergeL vs ms a.tmps.toList).toArray } W) : (Code.region id ops true).wp P Q a w := by
  refine region_inv hm (fun L => Free3 ops a F B L) ⟨rfl, rfl, fun _ _ => rfl, fun j d _ hl => ?_, fun _ _ _ _ => rfl, fun j i hl _ => ?_, hB⟩ (fun L A W hL hJ i hi => ?_) (fun L A W hL hJ hr => ?_)
  · rw [Array.getElem?_replicate] at hl
    split at hl <;> cases hl
  · rw [Array.getElem?_replicate] at hl
    split at hl <;> cases hl
  · have hin : i < ops.size := by
      unfold Region.ready at hi
      rw [List.mem_filter] at hi
      simpa using hi.1
    obtain ⟨o, ho⟩ : ∃ o, ops[i]? = some o := ⟨_, Array.getElem?_eq_getElem hin⟩
    obtain ⟨hnot, hdep⟩ := ready_of hL ho hi
    have hbeh : ∀ j, behind ops j i = true → L[j]?.getD false = false := fun j hb => by
      cases hl : L[j]?.getD false
      · rfl
      · have := hJ.cl j i hl hb
        have hn : L[i]?.getD false = false := hnot
        rw [hn] at this; cases this
    refine wpOp_mono (fun A' W' hh => ?_) (hs i hin L A W hJ.bs hL hnot hbeh hJ.st (fun j d hd hb => hJ.un j d hd (hbeh j hb)) (fun j d hd hb => hJ.on j d hd (behind_dep ho hdep hb)))
    · obtain ⟨v, rfl, hB', hF, hK⟩ := hh
      have hlen : (valsOf ops A).length = ops.size := by unfold valsOf; simp
      have hi2 : ((valsOf ops A).set i v)[i]?.getD undef = v := by
        rw [List.getElem?_set_self (by omega)]; rfl
      have hne : ∀ j, j ≠ i → ((valsOf ops A).set i v)[j]?.getD undef = (valsOf ops A)[j]?.getD undef := fun j hj => by
        rw [List.getElem?_set_ne (Ne.symm hj)]
      have hD : Det ops ((valsOf ops A).set i v) a (fun _ => True) (fun j => j ≠ i) A W := ⟨hJ.sz, hJ.rs, hJ.st, fun j d hd hj => by rw [hne j hj, valsOf_at hd], trivial⟩
      have hP := hD.put (D' := fun _ => True) (w' := W') hok hin trivial (fun j _ => by
        by_cases e : j = i
        · exact Or.inl e
        · exact Or.inr e)
      rw [hi2] at hP
      have hset : (L.setIfInBounds i true)[i]?.getD false = true := by
        rw [Array.getElem?_setIfInBounds_self_of_lt (by omega)]; rfl
      refine ⟨hP.sz, hP.rs, hP.st, fun j d hd hl => ?_, fun j d hd hl => ?_, fun j k hl hb => ?_, hB'⟩
      · rw [hP.on j d hd trivial]
        by_cases e : j = i
        · subst e
          rw [hi2]; exact hF
        · rw [hne j e, valsOf_at hd]
          refine hK j _ (dst_lt hd) (hJ.on j d hd ?_)
          rwa [Array.getElem?_setIfInBounds_ne (Ne.symm e)] at hl
      · by_cases e : j = i
        · subst e
          rw [hset] at hl; cases hl
        · rw [hP.on j d hd trivial, hne j e, valsOf_at hd]
          refine hJ.un j d hd ?_
          rwa [Array.getElem?_setIfInBounds_ne (Ne.symm e)] at hl
      · have hk : L[k]?.getD false = true := by
          by_cases e : j = i
          · subst e
            exact behind_dep ho hdep hb
          · rw [Array.getElem?_setIfInBounds_ne (Ne.symm e)] at hl
            exact hJ.cl j k hl hb
        by_cases e : k = i
        · subst e; exact hset
        · rw [Array.getElem?_setIfInBounds_ne (Ne.symm e)]; exact hk
  · have hall := ready_all (List.all_eq_true.2 fun i hi => by
      have := List.all_eq_true.1 hok i hi
      simp only [Bool.and_eq_true] at this
      exact this.1) hL hr
    have hD : Det ops (valsOf ops A) a (fun _ => True) (fun _ => True) A W := ⟨hJ.sz, hJ.rs, hJ.st, fun j d hd _ => (valsOf_at hd).symm, trivial⟩
    rw [hD.frame hok hms (fun _ _ => trivial)]
    exact he L W (valsOf ops A) hall hJ.bs (fun j d hd => by rw [valsOf_at hd]; exact hJ.on j d hd (hall j (dst_lt hd)))
end

end Go.Proofs.YtgaggpnlimchkaaGreatDoor.B10

namespace Go.Proofs.YtgaggpnlimchkaaGreatDoor.B11
open Go.Proofs.YtgaggpnlimchkaaGreatDoor.RI Go.Proofs.YtgaggpnlimchkaaGreatDoor.B10
open Go.ChangeShapes Go.WideShapes Go.ChangeAt Go.RowKit
set_option linter.unusedVariables false

section
variable {P : Program} {ops : Array Oper} {Q : Exit → Act → World → Prop} {a : Act} {w : World}

structure FreeJ (ops : Array Oper) (a : Act) (B : Array Bool → List Value → World → Prop) (L : Array Bool) (A : Act) (W : World) : Prop where
  sz : A.tmps.size = a.tmps.size
  rs : A = { a with tmps := A.tmps }
  st : ∀ k, apart ops k = true → A.tmps[k]?.getD undef = a.tmps[k]?.getD undef
  bs : B L (valsOf ops A) W

theorem region_joint {id : Nat} (hm : P.follows .mixedOrders = true) (B : Array Bool → List Value → World → Prop) (ms : List (Option Nat))
    (hok : okD ops a.tmps.size = true) (hms : okM ops ms = true) (hB : B (Array.replicate ops.size false) (valsOf ops a) w.drew)
    (hs : ∀ i, i < ops.size → ∀ L A W, B L (valsOf ops A) W → L.size = ops.size → L[i]?.getD false = false → (∀ j, behind ops i j = true → L[j]?.getD false = true) → (∀ k, apart ops k = true → A.tmps[k]?.getD undef = a.tmps[k]?.getD undef) →
      wpOp P ops Q i (fun A' W' => ∃ v, A' = A.put (dstOf ops i) v ∧ ∀ vs, (∀ j, j ≠ i → vs[j]?.getD undef = (valsOf ops A)[j]?.getD undef) → (∀ d, dstOf ops i = some d → vs[i]?.getD undef = v) → B (L.setIfInBounds i true) vs W') A W)
    (he : ∀ L W vs, (∀ j, j < ops.size → L[j]?.getD false = true) → B L vs W → Q .normal { a with tmps := (mergeL vs ms a.tmps.toList).toArray } W) : (Code.region id ops true).wp P Q a w := by
  refine region_inv hm (fun L => FreeJ ops a B L) ⟨rfl, rfl, fun _ _ => rfl, hB⟩ (fun L A W hL hJ i hi => ?_) (fun L A W hL hJ hr => ?_)
  · have hin : i < ops.size := by
      unfold Region.ready at hi
      rw [List.mem_filter] at hi
      simpa using hi.1
    obtain ⟨o, ho⟩ : ∃ o, ops[i]? = some o := ⟨_, Array.getElem?_eq_getElem hin⟩
    obtain ⟨hnot, hdep⟩ := ready_of hL ho hi
    refine wpOp_mono (fun A' W' hh => ?_) (hs i hin L A W hJ.bs hL hnot (fun j hb => behind_dep ho hdep hb) hJ.st)
    obtain ⟨v, rfl, hB'⟩ := hh
    have hlen : (valsOf ops A).length = ops.size := by unfold valsOf; simp
    have hi2 : ((valsOf ops A).set i v)[i]?.getD undef = v := by
      rw [List.getElem?_set_self (by omega)]; rfl
    have hne : ∀ j, j ≠ i → ((valsOf ops A).set i v)[j]?.getD undef = (valsOf ops A)[j]?.getD undef := fun j hj => by
      rw [List.getElem?_set_ne (Ne.symm hj)]
    have hD : Det ops ((valsOf ops A).set i v) a (fun _ => True) (fun j => j ≠ i) A W := ⟨hJ.sz, hJ.rs, hJ.st, fun j d hd hj => by rw [hne j hj, valsOf_at hd], trivial⟩
    have hP := hD.put (D' := fun _ => True) (w' := W') hok hin trivial (fun j _ => by
      by_cases e : j = i
      · exact Or.inl e
      · exact Or.inr e)
    rw [hi2] at hP
    refine ⟨hP.sz, hP.rs, hP.st, hB' _ (fun j hj => ?_) (fun d hd => ?_)⟩
    · cases hd : dstOf ops j with
      | some d => rw [valsOf_at hd, valsOf_at hd, hP.on j d hd trivial, hne j hj, valsOf_at hd]
      | none =>
        have hnone : ∀ X : Act, (valsOf ops X)[j]?.getD undef = undef := fun X => by
          unfold valsOf
          rw [List.getElem?_map]
          rcases Nat.lt_or_ge j ops.size with hl | hl
          · rw [List.getElem?_range hl]
            simp [hd]
          · rw [List.getElem?_eq_none (by simp; omega)]
            rfl
        rw [hnone, hnone]
    · rw [valsOf_at hd, hP.on i d hd trivial, hi2]
  · have hall := ready_all (List.all_eq_true.2 fun i hi => by
      have := List.all_eq_true.1 hok i hi
      simp only [Bool.and_eq_true] at this
      exact this.1) hL hr
    have hD : Det ops (valsOf ops A) a (fun _ => True) (fun _ => True) A W := ⟨hJ.sz, hJ.rs, hJ.st, fun j d hd _ => (valsOf_at hd).symm, trivial⟩
    rw [hD.frame hok hms (fun _ _ => trivial)]
    exact he L W (valsOf ops A) hall hJ.bs
end

end Go.Proofs.YtgaggpnlimchkaaGreatDoor.B11
