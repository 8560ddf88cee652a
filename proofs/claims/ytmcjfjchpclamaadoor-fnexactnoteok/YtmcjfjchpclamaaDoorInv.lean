/- A region that draws its order, by what holds whatever of its operations have been done. -/
import Derived.Test.YtmcjfjchpclamaaDoorLot
import Derived.Orders
namespace Go.Proofs.YtmcjfjchpclamaaDoor.RI
open Go.ChangeShapes Go.WideShapes Go.ChangeAt Go.RowKit
set_option linter.unusedVariables false

/-- The operations that are still to be done. -/
def left (n : Nat) (L : Array Bool) : List Nat := (List.range n).filter fun i => !L.getD i true

theorem left_less {n i : Nat} {L : Array Bool} (hL : L.size = n) (hi : i < n) (h : L.getD i true = false) : (left n (L.setIfInBounds i true)).length < (left n L).length := by
  have he : left n (L.setIfInBounds i true) = (left n L).filter fun j => decide (j ≠ i) := by
    unfold left
    rw [List.filter_filter]
    refine List.filter_congr fun j _ => ?_
    by_cases e : j = i
    · subst e
      simp [hL, hi]
    · simp [Array.getElem?_setIfInBounds_ne (Ne.symm e), e]
  rw [he, List.length_filter_lt_length_iff_exists]
  refine ⟨i, ?_, by simp⟩
  unfold left
  rw [List.mem_filter]
  exact ⟨by simpa using hi, by rw [h]; rfl⟩

theorem any_inv {P : Program} {ops : Array Oper} {Q : Exit → Act → World → Prop} (J : Array Bool → Act → World → Prop)
    (hs : ∀ L a w, L.size = ops.size → J L a w → ∀ i ∈ Region.ready .any ops L, wpOp P ops Q i (J (L.setIfInBounds i true)) a w)
    (he : ∀ L a w, L.size = ops.size → J L a w → Region.ready .any ops L = [] → Q .normal a w) :
    ∀ (fuel : Nat) (L : Array Bool) (a : Act) (w : World), L.size = ops.size → (left ops.size L).length ≤ fuel → J L a w → wpAny P .any ops Q fuel L a w
  | 0, L, a, w, hL, hf, hJ => by
    have hr : Region.ready .any ops L = [] := by
      have h0 : left ops.size L = [] := List.length_eq_zero_iff.1 (Nat.le_zero.1 hf)
      unfold Region.ready
      rw [List.filter_eq_nil_iff]
      intro i hi hc
      have : i ∈ left ops.size L := by
        unfold left
        rw [List.mem_filter]
        exact ⟨hi, by simp only [Bool.and_eq_true] at hc; exact hc.1⟩
      rw [h0] at this; cases this
    exact ⟨hr, he L a w hL hJ hr⟩
  | fuel + 1, L, a, w, hL, hf, hJ => by
    refine ⟨fun hr => he L a w hL hJ hr, fun i hi => ?_⟩
    refine wpOp_mono ?_ (hs L a w hL hJ i hi)
    intro a' w' hJ'
    have hi' := hi
    unfold Region.ready at hi'
    rw [List.mem_filter] at hi'
    have hlt : i < ops.size := by simpa using hi'.1
    have hnl : L.getD i true = false := by
      have := hi'.2
      simp only [Bool.and_eq_true, Bool.not_eq_true'] at this
      exact this.1
    have := left_less hL hlt hnl
    exact any_inv J hs he fuel _ a' w' (by simpa using hL) (by omega) hJ'

theorem region_inv {P : Program} {ops : Array Oper} {Q : Exit → Act → World → Prop} {id : Nat} {a : Act} {w : World} (hm : P.follows .mixedOrders = true) (J : Array Bool → Act → World → Prop)
    (h0 : J (Array.replicate ops.size false) a w.drew)
    (hs : ∀ L a w, L.size = ops.size → J L a w → ∀ i ∈ Region.ready .any ops L, wpOp P ops Q i (J (L.setIfInBounds i true)) a w)
    (he : ∀ L a w, L.size = ops.size → J L a w → Region.ready .any ops L = [] → Q .normal a w) : (Code.region id ops true).wp P Q a w :=
  wp_region_any hm (any_inv J hs he ops.size _ a _ (by simp) (by
    unfold left
    refine Nat.le_trans (List.length_filter_le _ _) ?_
    simp) h0)

/-- What an operation that is ready leans on. -/
theorem ready_of {ops : Array Oper} {L : Array Bool} {i : Nat} {o : Oper} (hL : L.size = ops.size) (ho : ops[i]? = some o) (h : i ∈ Region.ready .any ops L) : L[i]?.getD false = false ∧ ∀ e ∈ o.after, Region.binds .any e = true → L[e.on]?.getD false = true := by
  unfold Region.ready at h
  rw [List.mem_filter, ho] at h
  obtain ⟨hi, h2⟩ := h
  simp only [Bool.and_eq_true, Bool.not_eq_true', Option.map_some, Option.getD_some, Array.all_eq_true_iff_forall_mem, Bool.or_eq_true, Bool.not_eq_true'] at h2
  have hlt : i < L.size := by rw [hL]; simpa using hi
  refine ⟨?_, fun e he hb => ?_⟩
  · have := h2.1
    rw [Array.getD_eq_getD_getElem?, Array.getElem?_eq_getElem hlt] at this
    rw [Array.getElem?_eq_getElem hlt]
    exact this
  · rcases h2.2 e he with h | h
    · rw [hb] at h; cases h
    · rw [Array.getD_eq_getD_getElem?] at h; exact h

theorem wpOp_of {P : Program} {ops : Array Oper} {Q : Exit → Act → World → Prop} {i : Nat} {o : Oper} {K : Act → World → Prop} {A : Act} {W : World} (ho : ops[i]? = some o) (hg : o.guard = none) (h : o.wp P A W K Q) : wpOp P ops Q i K A W := by
  unfold wpOp
  rw [ho]
  simp only
  rw [if_pos (by simp [Region.wanted, hg])]
  exact Or.inl h

theorem wp_value {P : Program} {Q : Exit → Act → World → Prop} {o : Oper} {K : Act → World → Prop} {A : Act} {W W' : World} {v : Value} (hr : (execOp A.eval o).run P W = .ok (.value v) W') (h : K (A.put o.dst v) W') : o.wp P A W K Q := by
  unfold Oper.wp
  rw [hr]
  exact h

theorem wp_stored {P : Program} {Q : Exit → Act → World → Prop} {o : Oper} {K : Act → World → Prop} {A : Act} {W W' : World} (hr : (execOp A.eval o).run P W = .ok .skip W') (h : K (A.put o.dst undef) W') : o.wp P A W K Q := by
  unfold Oper.wp
  rw [hr]
  exact h

theorem wp_enter {P : Program} {Q : Exit → Act → World → Prop} {o : Oper} {K : Act → World → Prop} {A : Act} {W : World} {f : FuncId} {args : Array Value} (hr : (execOp A.eval o).run P W = .ok (.enter f args) W) (h : Calls P f args W fun e w' => ∃ v, e = .returned v ∧ K (A.put o.dst v) w') : o.wp P A W K Q := by
  unfold Oper.wp
  rw [hr, Oper.upon_enter]
  refine h.mono ?_
  rintro e w' ⟨v, rfl, hk⟩
  exact hk

theorem ready_all {ops : Array Oper} {L : Array Bool} (hd : ((List.range ops.size).all fun i => ((ops[i]?).map (·.after.all fun e => !Region.binds .any e || decide (e.on < i))).getD false) = true) (hL : L.size = ops.size) (hr : Region.ready .any ops L = []) : ∀ i, i < ops.size → L[i]?.getD false = true := by
  intro i
  induction i using Nat.strongRecOn with
  | _ i ih =>
    intro hi
    cases hc : L[i]?.getD false
    · exfalso
      have hm : i ∈ Region.ready .any ops L := by
        unfold Region.ready
        rw [List.mem_filter]
        have hlt : i < L.size := by omega
        rw [Array.getElem?_eq_getElem hlt] at hc
        refine ⟨by simpa using hi, ?_⟩
        rw [Array.getD_eq_getD_getElem?, Array.getElem?_eq_getElem hlt, Array.getElem?_eq_getElem hi]
        have hd' := List.all_eq_true.1 hd i (by simpa using hi)
        rw [Array.getElem?_eq_getElem hi] at hd'
        simp only [Option.map_some, Option.getD_some, Array.all_eq_true_iff_forall_mem, decide_eq_true_eq, Bool.or_eq_true, Bool.not_eq_true'] at hd' ⊢
        simp only [Option.getD_some] at hc
        simp only [hc, Bool.not_false, Bool.true_and, Array.all_eq_true_iff_forall_mem, Bool.or_eq_true, Bool.not_eq_true']
        intro e he
        rcases hd' e he with h | h
        · exact Or.inl h
        · right
          have := ih e.on h (by omega)
          rw [Array.getD_eq_getD_getElem?]; exact this
      rw [hr] at hm; cases hm
    · rfl

/-- What holds whatever of n operations have been done: of sz slots those of ks stay; B: what holds of the world, by what is done; F: what the slot of an operation that is done holds. -/
structure Inv (n sz : Nat) (dst : Nat → Option Nat) (ks : List (Nat × Value)) (B : (Nat → Bool) → World → Prop) (F : Nat → Value → World → Prop) (L : Array Bool) (a : Act) (w : World) : Prop where
  sz : a.tmps.size = sz
  df : a.defers = []
  ks : ∀ kv ∈ ks, a.tmps[kv.1]?.getD undef = kv.2
  bs : B (fun i => L[i]?.getD false) w
  fs : ∀ i, i < n → ∀ d, dst i = some d → L[i]?.getD false = true → F i (a.tmps[d]?.getD undef) w

/-- That no two operations write one slot, and none a slot that stays. -/
def okI (n sz : Nat) (dst : Nat → Option Nat) (ks : List Nat) : Bool :=
  (List.range n).all fun i => match dst i with
    | none => true
    | some d => decide (d < sz) && !ks.contains d && (List.range n).all fun j => i == j || dst j != some d

theorem Inv.step {n sz : Nat} {dst : Nat → Option Nat} {ks : List (Nat × Value)} {B : (Nat → Bool) → World → Prop} {F : Nat → Value → World → Prop} {L : Array Bool} {a : Act} {w w' : World} (hok : okI n sz dst (ks.map (·.1)) = true) (h : Inv n sz dst ks B F L a w) (hL : L.size = n) {i : Nat} (hi : i < n) {v : Value} (d : Option Nat) (hd : dst i = d)
    (hB : B (fun j => Nat.beq j i || L[j]?.getD false) w') (hk : ∀ j v, j < n → F j v w → F j v w') (hn : F i v w') : Inv n sz dst ks B F (L.setIfInBounds i true) (a.put d v) w' := by
  have hset : ∀ k, (L.setIfInBounds i true)[k]?.getD false = (Nat.beq k i || L[k]?.getD false) := fun k => by
    by_cases e : k = i
    · subst e
      rw [Array.getElem?_setIfInBounds_self_of_lt (by omega)]; simp
    · rw [Array.getElem?_setIfInBounds_ne (Ne.symm e)]
      have : Nat.beq k i = false := by
        cases hb : Nat.beq k i
        · rfl
        · exact absurd (Nat.eq_of_beq_eq_true hb) e
      rw [this, Bool.false_or]
  have hsz := h.sz
  have hin := List.all_eq_true.1 hok i (by simpa using hi)
  have hset' : (fun k => (L.setIfInBounds i true)[k]?.getD false) = fun j => Nat.beq j i || L[j]?.getD false := funext hset
  subst hd
  cases hdi : dst i with
  | none =>
    refine ⟨hsz, h.df, h.ks, by rw [hset']; exact hB, fun j hj e he hl => ?_⟩
    rw [hset] at hl
    have hne : j ≠ i := fun e' => by subst e'; rw [hdi] at he; cases he
    have hb : Nat.beq j i = false := by
      cases hb : Nat.beq j i
      · rfl
      · exact absurd (Nat.eq_of_beq_eq_true hb) hne
    rw [hb, Bool.false_or] at hl
    exact hk j _ hj (h.fs j hj e he hl)
  | some d =>
    rw [hdi] at hin
    simp only [Bool.and_eq_true, decide_eq_true_eq, Bool.not_eq_true', List.all_eq_true] at hin
    obtain ⟨⟨hlt, hnk⟩, hinj⟩ := hin
    have hput : ∀ k, (a.put (some d) v).tmps[k]?.getD undef = if k = d then v else a.tmps[k]?.getD undef := fun k => by
      show (a.tmps.setIfInBounds d v)[k]?.getD undef = _
      by_cases e : k = d
      · subst e
        rw [if_pos rfl, Array.getElem?_setIfInBounds_self_of_lt (by omega)]; rfl
      · rw [if_neg e, Array.getElem?_setIfInBounds_ne (Ne.symm e)]
    refine ⟨?_, h.df, fun kv hkv => ?_, by rw [hset']; exact hB, fun j hj e he hl => ?_⟩
    · show (a.tmps.setIfInBounds d v).size = sz
      rw [Array.size_setIfInBounds]; exact hsz
    · have hne : kv.1 ≠ d := fun e => by
        have : (ks.map (·.1)).contains d = true := by rw [List.contains_iff_mem]; exact List.mem_map.2 ⟨kv, hkv, e⟩
        rw [this] at hnk; cases hnk
      rw [hput, if_neg hne]
      exact h.ks kv hkv
    · rw [hput]
      by_cases e' : j = i
      · subst e'
        rw [hdi] at he
        cases he
        rw [if_pos rfl]; exact hn
      · have hne : e ≠ d := fun e'' => by
          subst e''
          have := hinj j (by simpa using hj)
          rw [he] at this
          simp only [Bool.or_eq_true, beq_iff_eq, bne_self_eq_false, Bool.false_eq_true, or_false] at this
          exact e' this.symm
        rw [if_neg hne]
        rw [hset] at hl
        have hb : Nat.beq j i = false := by
          cases hb : Nat.beq j i
          · rfl
          · exact absurd (Nat.eq_of_beq_eq_true hb) e'
        rw [hb, Bool.false_or] at hl
        exact hk j _ hj (h.fs j hj e he hl)

theorem Inv.start {n sz : Nat} {dst : Nat → Option Nat} {ks : List (Nat × Value)} {B : (Nat → Bool) → World → Prop} {F : Nat → Value → World → Prop} {a : Act} {w : World} (hsz : a.tmps.size = sz) (hdf : a.defers = []) (hks : ∀ kv ∈ ks, a.tmps[kv.1]?.getD undef = kv.2) (hB : B (fun _ => false) w) : Inv n sz dst ks B F (Array.replicate n false) a w := by
  have h0 : ∀ k, (Array.replicate n false)[k]?.getD false = false := fun k => by
    rw [Array.getElem?_replicate]
    split <;> rfl
  refine ⟨hsz, hdf, hks, ?_, fun i _ d _ hl => ?_⟩
  · rw [show (fun k => (Array.replicate n false)[k]?.getD false) = fun _ => false from funext h0]
    exact hB
  · rw [h0] at hl; cases hl

/-- The slot that operation j writes. -/
def dstOf (ops : Array Oper) (j : Nat) : Option Nat := (ops[j]?).bind (·.dst)

/-- That operation i comes behind operation j. -/
def behind (ops : Array Oper) (i j : Nat) : Bool := ((ops[i]?).map (·.after.any fun e => Region.binds .any e && e.on == j)).getD false

/-- That no operation of the region writes slot k. -/
def apart (ops : Array Oper) (k : Nat) : Bool := ops.all fun o => o.dst != some k

/-- The frame behind the region: ms tells of each slot which operation writes it. -/
def mergeL (val : List Value) : List (Option Nat) → List Value → List Value
  | [], xs => xs
  | _ :: _, [] => []
  | none :: ms, x :: xs => x :: mergeL val ms xs
  | some i :: ms, _ :: xs => (val[i]?.getD undef) :: mergeL val ms xs

def okM (ops : Array Oper) (ms : List (Option Nat)) : Bool :=
  ((List.range ops.size).all fun i => match dstOf ops i with
    | none => true
    | some d => ms[d]? == some (some i)) &&
  (List.range ms.length).all fun k => match ms[k]? with
    | some (some i) => dstOf ops i == some k
    | _ => true

theorem merge_len (val : List Value) : ∀ (ms : List (Option Nat)) (xs : List Value), (mergeL val ms xs).length = xs.length
  | [], xs => by cases xs <;> rfl
  | none :: ms, [] => rfl
  | some _ :: ms, [] => rfl
  | none :: ms, x :: xs => by simp [mergeL, merge_len val ms xs]
  | some i :: ms, x :: xs => by simp [mergeL, merge_len val ms xs]

theorem merge_at (val : List Value) : ∀ (ms : List (Option Nat)) (xs : List Value) (k : Nat), k < xs.length → (mergeL val ms xs)[k]? = match ms[k]? with
    | some (some i) => some (val[i]?.getD undef)
    | _ => xs[k]?
  | [], xs, k, _ => by cases xs <;> simp [mergeL]
  | _ :: ms, [], k, h => by simp at h
  | none :: ms, x :: xs, 0, _ => by simp [mergeL]
  | some i :: ms, x :: xs, 0, _ => by simp [mergeL]
  | none :: ms, x :: xs, k + 1, h => by simpa [mergeL] using merge_at val ms xs k (by simpa using h)
  | some i :: ms, x :: xs, k + 1, h => by simpa [mergeL] using merge_at val ms xs k (by simpa using h)

/-- What operation i finds. -/
structure At (R : Nat → Nat → Bool) (ops : Array Oper) (val : List Value) (a : Act) (i : Nat) (A : Act) : Prop where
  st : ∀ k, apart ops k = true → A.tmps[k]?.getD undef = a.tmps[k]?.getD undef
  on : ∀ j d, dstOf ops j = some d → R i j = true → A.tmps[d]?.getD undef = val[j]?.getD undef

/-- What holds where the operations of D have been done. -/
structure Det (ops : Array Oper) (val : List Value) (a : Act) (B : World → Prop) (D : Nat → Prop) (A : Act) (w : World) : Prop where
  sz : A.tmps.size = a.tmps.size
  rs : A = { a with tmps := A.tmps }
  st : ∀ k, apart ops k = true → A.tmps[k]?.getD undef = a.tmps[k]?.getD undef
  on : ∀ j d, dstOf ops j = some d → D j → A.tmps[d]?.getD undef = val[j]?.getD undef
  bs : B w

def okD (ops : Array Oper) (n : Nat) : Bool :=
  (List.range ops.size).all fun i => (((ops[i]?).map (·.after.all fun e => !Region.binds .any e || decide (e.on < i))).getD false) && match dstOf ops i with
    | none => true
    | some d => decide (d < n) && (List.range ops.size).all fun j => i == j || dstOf ops j != some d

theorem okD_row {ops : Array Oper} {n : Nat} (hok : okD ops n = true) (i : Nat) (hi : i < ops.size) (d : Nat) (hd : dstOf ops i = some d) : d < n ∧ ∀ j, j ≠ i → dstOf ops j ≠ some d := by
  have h1 := List.all_eq_true.1 hok i (by simpa using hi)
  rw [hd] at h1
  simp only [Bool.and_eq_true, decide_eq_true_eq, List.all_eq_true] at h1
  refine ⟨h1.2.1, fun j hj e => ?_⟩
  by_cases hj2 : j < ops.size
  · have := h1.2.2 j (by simpa using hj2)
    rw [e] at this
    simp at this
    exact hj this.symm
  · unfold dstOf at e
    rw [Array.getElem?_eq_none (by omega)] at e
    cases e

theorem Det.put {ops : Array Oper} {val : List Value} {a : Act} {B : World → Prop} {D D' : Nat → Prop} {A : Act} {w w' : World} (hok : okD ops a.tmps.size = true) (hJ : Det ops val a B D A w) {i : Nat} (hin : i < ops.size) (hB' : B w') (hD : ∀ j, D' j → j = i ∨ D j) : Det ops val a B D' (A.put (dstOf ops i) (val[i]?.getD undef)) w' := by
  obtain ⟨o, ho⟩ : ∃ o, ops[i]? = some o := ⟨_, Array.getElem?_eq_getElem hin⟩
  cases hdi : dstOf ops i with
  | none =>
    refine ⟨hJ.sz, hJ.rs, hJ.st, fun j d hd hl => hJ.on j d hd ?_, hB'⟩
    rcases hD j hl with rfl | h
    · rw [hdi] at hd; cases hd
    · exact h
  | some d =>
    obtain ⟨hdl, hdn⟩ := okD_row hok i hin d hdi
    have hsz := hJ.sz
    have hput : ∀ k, (A.put (some d) (val[i]?.getD undef)).tmps[k]?.getD undef = if k = d then val[i]?.getD undef else A.tmps[k]?.getD undef := fun k => by
      show (A.tmps.setIfInBounds d _)[k]?.getD undef = _
      by_cases e : k = d
      · subst e
        rw [if_pos rfl, Array.getElem?_setIfInBounds_self_of_lt (by omega)]; rfl
      · rw [if_neg e, Array.getElem?_setIfInBounds_ne (Ne.symm e)]
    refine ⟨?_, ?_, fun k hk => ?_, fun j e he hl => ?_, hB'⟩
    · show (A.tmps.setIfInBounds d _).size = _
      rw [Array.size_setIfInBounds]; exact hsz
    · show ({ A with tmps := A.tmps.setIfInBounds d _ } : Act) = _
      rw [hJ.rs]
      rfl
    · have hne : k ≠ d := by
        rintro rfl
        have hd' : o.dst = some k := by
          unfold dstOf at hdi
          rw [ho] at hdi
          exact hdi
        obtain ⟨hl', he'⟩ := Array.getElem?_eq_some_iff.1 ho
        have := Array.all_eq_true_iff_forall_mem.1 hk o (he' ▸ Array.getElem_mem hl')
        rw [hd'] at this
        simp at this
      rw [hput, if_neg hne]
      exact hJ.st k hk
    · rw [hput]
      by_cases e' : j = i
      · subst e'
        rw [hdi] at he
        cases he
        rw [if_pos rfl]
      · have hne : e ≠ d := fun e'' => hdn j e' (e'' ▸ he)
        rw [if_neg hne]
        rcases hD j hl with h | h
        · exact absurd h e'
        · exact hJ.on j e he h

theorem Det.frame {ops : Array Oper} {val : List Value} {a : Act} {B : World → Prop} {D : Nat → Prop} {A : Act} {w : World} {ms : List (Option Nat)} (hok : okD ops a.tmps.size = true) (hms : okM ops ms = true) (hJ : Det ops val a B D A w) (hall : ∀ j, j < ops.size → D j) : A = { a with tmps := (mergeL val ms a.tmps.toList).toArray } := by
  obtain ⟨hm1, hm2⟩ := Bool.and_eq_true_iff.1 hms
  have hTe : A.tmps = (mergeL val ms a.tmps.toList).toArray := by
    refine Array.ext (by simp [merge_len, hJ.sz]) fun k h1 h2 => ?_
    have hk : k < a.tmps.size := by have := hJ.sz; omega
    have key : A.tmps[k]?.getD undef = (mergeL val ms a.tmps.toList)[k]?.getD undef := by
      rw [merge_at val ms _ k (by simpa using hk)]
      cases hap : apart ops k with
      | true =>
        have hno : ∀ i, ms[k]? ≠ some (some i) := fun i e => by
          have hkl : k < ms.length := (List.getElem?_eq_some_iff.1 e).1
          have := List.all_eq_true.1 hm2 k (by simpa using hkl)
          rw [e] at this
          have hd : dstOf ops i = some k := by simpa using this
          unfold dstOf at hd
          cases ho : ops[i]? with
          | none => rw [ho] at hd; cases hd
          | some o =>
            rw [ho] at hd
            have hd' : o.dst = some k := hd
            obtain ⟨hlt', he'⟩ := Array.getElem?_eq_some_iff.1 ho
            have := Array.all_eq_true_iff_forall_mem.1 hap o (he' ▸ Array.getElem_mem hlt')
            rw [hd'] at this
            simp at this
        rw [hJ.st k hap]
        split
        · rename_i i e
          exact absurd e (hno i)
        · simp
      | false =>
        obtain ⟨o, ho, hok'⟩ : ∃ o ∈ ops, o.dst = some k := by
          unfold apart at hap
          obtain ⟨k', hk', hne⟩ := Array.all_eq_false.1 hap
          exact ⟨_, Array.getElem_mem hk', by simpa using hne⟩
        obtain ⟨j, hj, rfl⟩ := Array.mem_iff_getElem.1 ho
        have hdj : dstOf ops j = some k := by
          unfold dstOf
          rw [Array.getElem?_eq_getElem hj]
          exact hok'
        have := List.all_eq_true.1 hm1 j (by simpa using hj)
        rw [hdj] at this
        have hmk : ms[k]? = some (some j) := by simpa using this
        rw [hJ.on j k hdj (hall j hj), hmk]
        rfl
    have h2' : k < (mergeL val ms a.tmps.toList).length := by simpa using h2
    rw [Array.getElem?_eq_getElem h1, List.getElem?_eq_getElem h2'] at key
    simpa using key
  rw [hJ.rs, hTe]

/-- A region that draws its order, where each operation yields one and the same whatever the order: 'val' (what is not wanted yields 'undef'), and B is kept. -/
theorem region_det {P : Program} {ops : Array Oper} {Q : Exit → Act → World → Prop} {id : Nat} {a : Act} {w : World} (hm : P.follows .mixedOrders = true) (val : List Value) (B : World → Prop) (ms : List (Option Nat))
    (hok : okD ops a.tmps.size = true) (hms : okM ops ms = true) (hB : B w.drew)
    (hs : ∀ i, i < ops.size → ∀ A W, B W → At (behind ops) ops val a i A → wpOp P ops Q i (fun A' W' => A' = A.put (dstOf ops i) (val[i]?.getD undef) ∧ B W') A W)
    (he : ∀ W, B W → Q .normal { a with tmps := (mergeL val ms a.tmps.toList).toArray } W) : (Code.region id ops true).wp P Q a w := by
  refine region_inv hm (fun L => Det ops val a B fun j => L[j]?.getD false = true) ⟨rfl, rfl, fun _ _ => rfl, fun j d _ hl => ?_, hB⟩ (fun L A W hL hJ i hi => ?_) (fun L A W hL hJ hr => ?_)
  · rw [Array.getElem?_replicate] at hl
    split at hl <;> cases hl
  · have hin : i < ops.size := by
      unfold Region.ready at hi
      rw [List.mem_filter] at hi
      simpa using hi.1
    obtain ⟨o, ho⟩ : ∃ o, ops[i]? = some o := ⟨_, Array.getElem?_eq_getElem hin⟩
    have hdep := (ready_of hL ho hi).2
    refine wpOp_mono (fun A' W' hh => ?_) (hs i hin A W hJ.bs ⟨hJ.st, fun j d hd hb => hJ.on j d hd ?_⟩)
    · obtain ⟨rfl, hB'⟩ := hh
      refine hJ.put hok hin hB' fun j hl => ?_
      by_cases e : j = i
      · exact Or.inl e
      · right
        rwa [Array.getElem?_setIfInBounds_ne (Ne.symm e)] at hl
    · unfold behind at hb
      rw [ho] at hb
      simp only [Option.map_some, Option.getD_some] at hb
      obtain ⟨k, hk, hb⟩ := Array.any_eq_true.1 hb
      simp only [Bool.and_eq_true, beq_iff_eq] at hb
      obtain ⟨hbe, rfl⟩ := hb
      exact hdep _ (Array.getElem_mem hk) hbe
  · have hall := ready_all (List.all_eq_true.2 fun i hi => by
      have := List.all_eq_true.1 hok i hi
      simp only [Bool.and_eq_true] at this
      exact this.1) hL hr
    rw [hJ.frame hok hms hall]
    exact he W hJ.bs

theorem seq_det {P : Program} {ops : Array Oper} {Q : Exit → Act → World → Prop} {a : Act} {val : List Value} {B : World → Prop} {ms : List (Option Nat)} (hok : okD ops a.tmps.size = true) (hms : okM ops ms = true)
    (hs : ∀ i, i < ops.size → ∀ A W, B W → At (fun i j => Nat.blt j i) ops val a i A → wpOp P ops Q i (fun A' W' => A' = A.put (dstOf ops i) (val[i]?.getD undef) ∧ B W') A W)
    (he : ∀ W, B W → Q .normal { a with tmps := (mergeL val ms a.tmps.toList).toArray } W) : ∀ (m k : Nat) (A : Act) (W : World), k + m = ops.size → Det ops val a B (fun j => j < k) A W → wpOps P ops Q (List.range' k m) A W
  | 0, k, A, W, hk, hJ => by
    show Q .normal A W
    rw [hJ.frame hok hms fun j hj => by omega]
    exact he W hJ.bs
  | m + 1, k, A, W, hk, hJ => by
    rw [show List.range' k (m + 1) = k :: List.range' (k + 1) m from rfl, wpOps_cons]
    have hin : k < ops.size := by omega
    refine wpOp_mono (fun A' W' hh => ?_) (hs k hin A W hJ.bs ⟨hJ.st, fun j d hd hb => hJ.on j d hd ?_⟩)
    · obtain ⟨rfl, hB'⟩ := hh
      exact seq_det hok hms hs he m (k + 1) _ _ (by omega) (hJ.put hok hin hB' fun j hl => by omega)
    · simpa using hb

/-- The same of a region that does not draw its order. -/
theorem region_det1 {P : Program} {ops : Array Oper} {Q : Exit → Act → World → Prop} {id : Nat} {a : Act} {w : World} (val : List Value) (B : World → Prop) (ms : List (Option Nat))
    (hok : okD ops a.tmps.size = true) (hms : okM ops ms = true) (hB : B w)
    (hs : ∀ i, i < ops.size → ∀ A W, B W → At (fun i j => Nat.blt j i) ops val a i A → wpOp P ops Q i (fun A' W' => A' = A.put (dstOf ops i) (val[i]?.getD undef) ∧ B W') A W)
    (he : ∀ W, B W → Q .normal { a with tmps := (mergeL val ms a.tmps.toList).toArray } W) : (Code.region id ops false).wp P Q a w := by
  refine wp_region ?_
  rw [List.range_eq_range']
  exact seq_det hok hms hs he ops.size 0 a w (by omega) ⟨rfl, rfl, fun _ _ => rfl, fun j d _ hl => absurd hl (Nat.not_lt_zero _), hB⟩

theorem yielded_bool {ops : Array Oper} {t : Array Value} {j d : Nat} {b : Bool} (hd : dstOf ops j = some d) (hv : t[d]?.getD undef = .bool b) : yielded ops t j = some b := by
  unfold yielded
  unfold dstOf at hd
  rw [hd]
  cases hc : t[d]? with
  | none => rw [hc] at hv; cases hv
  | some v =>
    rw [hc] at hv
    have : v = .bool b := hv
    subst this
    simp [hc]

theorem yielded_other {ops : Array Oper} {t : Array Value} {j d : Nat} {b : Bool} (hd : dstOf ops j = some d) (hv : t[d]?.getD undef ≠ .bool b) : yielded ops t j ≠ some b := by
  unfold yielded
  unfold dstOf at hd
  rw [hd]
  cases hc : t[d]? with
  | none => simp [hc]
  | some v =>
    rw [hc] at hv
    have hv' : v ≠ .bool b := hv
    simp only [Option.bind_some, hc]
    intro h
    split at h
    · rename_i b' he
      cases he
      cases h
      exact hv' rfl
    · cases h

/-- A guarded operation that is wanted. -/
theorem wpOp_want {P : Program} {ops : Array Oper} {Q : Exit → Act → World → Prop} {i : Nat} {o : Oper} {K : Act → World → Prop} {A : Act} {W : World} {j d : Nat} {b : Bool} (ho : ops[i]? = some o) (hg : o.guard = some (j, b)) (hd : dstOf ops j = some d) (hv : A.tmps[d]?.getD undef = .bool b) (h : o.wp P A W K Q) : wpOp P ops Q i K A W := by
  unfold wpOp
  rw [ho]
  simp only
  rw [if_pos (by simp [Region.wanted, hg, yielded_bool hd hv])]
  exact Or.inl h

/-- A guarded operation that is not wanted. -/
theorem wpOp_pass {P : Program} {ops : Array Oper} {Q : Exit → Act → World → Prop} {i : Nat} {o : Oper} {K : Act → World → Prop} {A : Act} {W : World} {j d : Nat} {b : Bool} (ho : ops[i]? = some o) (hg : o.guard = some (j, b)) (hd : dstOf ops j = some d) (v : Value) (hv : A.tmps[d]?.getD undef = v) (hne : v ≠ .bool b) (h : K (A.put o.dst undef) W) : wpOp P ops Q i K A W := by
  unfold wpOp
  rw [ho]
  simp only
  rw [if_neg (by simpa [Region.wanted, hg] using yielded_other hd (fun e => hne (hv ▸ e)))]
  exact h

end Go.Proofs.YtmcjfjchpclamaaDoor.RI
