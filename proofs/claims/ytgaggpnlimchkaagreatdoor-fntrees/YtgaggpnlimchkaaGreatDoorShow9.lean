/- Chapter 9: what ShowNotes answers, the reference's: texts joined, right notes, a note's text. -/
import Derived.Lib.Join
import Derived.Test.YtgaggpnlimchkaaGreatDoorBase8
import Derived.Test.YtgaggpnlimchkaaGreatDoorBase9n
import Derived.Test.YtgaggpnlimchkaaGreatDoorNote9
import Derived.Test.YtgaggpnlimchkaaGreatDoorBase6b
namespace Go.Proofs.YtgaggpnlimchkaaGreatDoor.B9
open Go.Proofs.YtgaggpnlimchkaaGreatDoor.P1 Go.Proofs.YtgaggpnlimchkaaGreatDoor.B1 Go.Proofs.YtgaggpnlimchkaaGreatDoor.B2 Go.Proofs.YtgaggpnlimchkaaGreatDoor.T1 Go.Proofs.YtgaggpnlimchkaaGreatDoor.BT Go.Proofs.YtgaggpnlimchkaaGreatDoor.P5 Go.Proofs.YtgaggpnlimchkaaGreatDoor.P6 Go.Proofs.YtgaggpnlimchkaaGreatDoor.P8 Go.Proofs.YtgaggpnlimchkaaGreatDoor.P9 Go.Proofs.YtgaggpnlimchkaaGreatDoor.B5 Go.Proofs.YtgaggpnlimchkaaGreatDoor.B6 Go.Proofs.YtgaggpnlimchkaaGreatDoor.B8 Go.Proofs.YtgaggpnlimchkaaGreatDoor.D1 Go.Proofs.YtgaggpnlimchkaaGreatDoor.W8 Go.Proofs.YtgaggpnlimchkaaGreatDoor.RC Go.Proofs.YtgaggpnlimchkaaGreatDoor.RI
open Go.ChangeShapes Go.WideShapes Go.ChangeAt Go.RowKit
set_option linter.unusedVariables false

section
variable {P : Program} {ops : Array Oper} {Q : Exit → Act → World → Prop} {a : Act} {w : World}

/-- What the operations have left in an act. -/
def valsOf (ops : Array Oper) (A : Act) : List Value := (List.range ops.size).map fun j => match dstOf ops j with
  | some d => A.tmps[d]?.getD undef
  | none => undef

theorem dst_lt {j d : Nat} (h : dstOf ops j = some d) : j < ops.size := by
  unfold dstOf at h
  cases e : ops[j]? with
  | none => rw [e] at h; cases h
  | some o => exact (Array.getElem?_eq_some_iff.1 e).1

theorem valsOf_at {A : Act} {j d : Nat} (h : dstOf ops j = some d) : (valsOf ops A)[j]?.getD undef = A.tmps[d]?.getD undef := by
  unfold valsOf
  rw [List.getElem?_map, List.getElem?_range (dst_lt h)]
  simp [h]

/-- What holds while a region's operations are done, whatever they answer. -/
structure Free (ops : Array Oper) (a : Act) (F : Nat → Value → World → Prop) (B : World → Prop) (L : Array Bool) (A : Act) (W : World) : Prop where
  sz : A.tmps.size = a.tmps.size
  rs : A = { a with tmps := A.tmps }
  st : ∀ k, apart ops k = true → A.tmps[k]?.getD undef = a.tmps[k]?.getD undef
  on : ∀ j d, dstOf ops j = some d → L[j]?.getD false = true → F j (A.tmps[d]?.getD undef) W
  bs : B W

/-- A region that draws its order, whose operations may answer otherwise in another order. -/
theorem region_free {id : Nat} (hm : P.follows .mixedOrders = true) (F : Nat → Value → World → Prop) (B : World → Prop) (ms : List (Option Nat))
    (hok : okD ops a.tmps.size = true) (hms : okM ops ms = true) (hB : B w.drew)
    (hs : ∀ i, i < ops.size → ∀ A W, B W → (∀ k, apart ops k = true → A.tmps[k]?.getD undef = a.tmps[k]?.getD undef) → (∀ j d, dstOf ops j = some d → behind ops i j = true → F j (A.tmps[d]?.getD undef) W) → wpOp P ops Q i (fun A' W' => ∃ v, A' = A.put (dstOf ops i) v ∧ B W' ∧ F i v W' ∧ ∀ j u, j < ops.size → F j u W → F j u W') A W)
    (he : ∀ W vs, B W → (∀ j d, dstOf ops j = some d → F j (vs[j]?.getD undef) W) → Q .normal { a with tmps := (mergeL vs ms a.tmps.toList).toArray } W) : (Code.region id ops true).wp P Q a w := by
  refine region_inv hm (fun L => Free ops a F B L) ⟨rfl, rfl, fun _ _ => rfl, fun j d _ hl => ?_, hB⟩ (fun L A W hL hJ i hi => ?_) (fun L A W hL hJ hr => ?_)
  · rw [Array.getElem?_replicate] at hl
    split at hl <;> cases hl
  · have hin : i < ops.size := by
      unfold Region.ready at hi
      rw [List.mem_filter] at hi
      simpa using hi.1
    obtain ⟨o, ho⟩ : ∃ o, ops[i]? = some o := ⟨_, Array.getElem?_eq_getElem hin⟩
    have hdep := (ready_of hL ho hi).2
    refine wpOp_mono (fun A' W' hh => ?_) (hs i hin A W hJ.bs hJ.st (fun j d hd hb => hJ.on j d hd ?_))
    · obtain ⟨v, rfl, hB', hF, hK⟩ := hh
      have hlen : (valsOf ops A).length = ops.size := by unfold valsOf; simp
      have hi2 : ((valsOf ops A).set i v)[i]?.getD undef = v := by
        rw [List.getElem?_set_self (by omega)]; rfl
      have hne : ∀ j, j ≠ i → ((valsOf ops A).set i v)[j]?.getD undef = (valsOf ops A)[j]?.getD undef := fun j hj => by
        rw [List.getElem?_set_ne (Ne.symm hj)]
      have hD : Det ops ((valsOf ops A).set i v) a (fun _ => True) (fun j => j ≠ i) A W := ⟨hJ.sz, hJ.rs, hJ.st, fun j d hd hj => by rw [hne j hj, valsOf_at hd], trivial⟩
      have hP := hD.put (D' := fun _ => True) (w' := W') hok hin trivial (fun j _ => by
        by_cases e : j = i
        · exact Or.inl e
        · exact Or.inr e)
      rw [hi2] at hP
      refine ⟨hP.sz, hP.rs, hP.st, fun j d hd hl => ?_, hB'⟩
      rw [hP.on j d hd trivial]
      by_cases e : j = i
      · subst e
        rw [hi2]; exact hF
      · rw [hne j e, valsOf_at hd]
        refine hK j _ (dst_lt hd) (hJ.on j d hd ?_)
        rwa [Array.getElem?_setIfInBounds_ne (Ne.symm e)] at hl
    · unfold behind at hb
      rw [ho] at hb
      simp only [Option.map_some, Option.getD_some] at hb
      obtain ⟨k, hk, hb⟩ := Array.any_eq_true.1 hb
      simp only [Bool.and_eq_true, beq_iff_eq] at hb
      obtain ⟨hbe, rfl⟩ := hb
      exact hdep _ (Array.getElem_mem hk) hbe
  · have hall := ready_all (List.all_eq_true.2 fun i hi => by
      have := List.all_eq_true.1 hok i hi
      simp only [Bool.and_eq_true] at this
      exact this.1) hL hr
    have hD : Det ops (valsOf ops A) a B (fun _ => True) A W := ⟨hJ.sz, hJ.rs, hJ.st, fun j d hd _ => (valsOf_at hd).symm, hJ.bs⟩
    rw [hD.frame hok hms (fun _ _ => trivial)]
    exact he W (valsOf ops A) hJ.bs (fun j d hd => by rw [valsOf_at hd]; exact hJ.on j d hd (hall j (dst_lt hd)))
end

theorem joinBy_snoc (b : List UInt8) : ∀ (xs : List (List UInt8)) (y : List UInt8), xs ≠ [] → joinBy b (xs ++ [y]) = joinBy b xs ++ b ++ y
  | [], _, h => absurd rfl h
  | [x], y, _ => rfl
  | x :: z :: r, y, _ => by
    have ih := joinBy_snoc b (z :: r) y (by simp)
    show x ++ b ++ joinBy b ((z :: r) ++ [y]) = (x ++ b ++ joinBy b (z :: r)) ++ b ++ y
    rw [ih]
    simp [List.append_assoc]

theorem joinBy_is (b : List UInt8) : ∀ (xs : List (List UInt8)), Lib.join xs b = joinBy b xs
  | [] => rfl
  | [x] => Lib.join_one _ _
  | x :: z :: r => by
    have ih := joinBy_is b (z :: r)
    rw [Lib.join_cons] at ih ⊢
    show x ++ ((z :: r).map (b ++ ·)).flatten = x ++ b ++ joinBy b (z :: r)
    rw [← ih]
    simp [Lib.joinTail, List.append_assoc]

theorem words_form {w : World} {v : Value} {B : Nat} {ls : List (List UInt8)} (h : Words w v B ls) : ∃ a cap, v = .slice a ls.length cap ∧ ls.length ≤ cap ∧ (ls ≠ [] → ∃ g, a = some ⟨g, 0, none⟩ ∧ g < w.heap.size ∧ ∀ k l, ls[k]? = some l → w.cell? ⟨g, k, none⟩ = some (.string ⟨l.toArray⟩)) := by
  by_cases hne : ls = []
  · subst hne
    rcases h.2 with ⟨hv, _⟩ | ⟨g, cap, cur, hv, _⟩
    · exact ⟨_, _, hv, Nat.zero_le _, fun h => absurd rfl h⟩
    · exact ⟨_, _, hv, Nat.zero_le _, fun h => absurd rfl h⟩
  · obtain ⟨g, cap, e, h1, _, h3, h4⟩ := Words.at h hne
    exact ⟨_, cap, e, h1, fun _ => ⟨g, rfl, h3, h4⟩⟩

theorem take_one {ls : List (List UInt8)} {i : Nat} {l : List UInt8} (h : ls[i]? = some l) : joinBy [59, 32] (ls.take (i + 1)) = if i = 0 then l else joinBy [59, 32] (ls.take i) ++ [59, 32] ++ l := by
  rw [List.take_add_one, h]
  show joinBy [59, 32] (ls.take i ++ [l]) = _
  by_cases h0 : i = 0
  · subst h0; rfl
  · rw [if_neg h0, joinBy_snoc]
    intro e0
    have := congrArg List.length e0
    rw [List.length_take, List.length_nil] at this
    have := (List.getElem?_eq_some_iff.1 h).1
    omega

theorem notesOk_len {ns : List No} (h : notesOk ns = true) : ns.length ≤ 12 ∧ ∀ n ∈ ns, noteOk n = true := by
  unfold notesOk at h
  rw [Bool.and_eq_true, decide_eq_true_eq, List.all_eq_true] at h
  exact ⟨h.2, h.1⟩

set_option maxRecDepth 20000 in
set_option maxHeartbeats 4000000 in
theorem Notes_spec (ns : List No) (v : Value) (w : World) (h : NoSlc w v ns) (hs : ns.length ≤ 2000000) (hx : ∀ n ∈ ns, n.v.w.length ≤ 1048576) :
    Calls Tryz.prog 90 #[v] w (Ans (.bool (notesOk ns)) w) := by
  obtain ⟨a, cap, rfl, hnc, hcap, HA⟩ := h.form
  obtain ⟨n, hn⟩ : ∃ n, ns.length = n := ⟨_, rfl⟩
  rw [hn] at hnc hs ⊢
  have HN := Lib.hid hn
  have hnc' : (n : Int) ≤ (cap : Int) := by omega
  have hs' : (n : Int) ≤ 2000000 := by omega
  have HX := Lib.hid hx
  replace HA := Lib.hid HA
  clear h hn hcap hx
  go_enter Tryz.func90, Tryz.ntmps90
  go_wp2_with fail
  go_loopg [3] n (fun kx s3 wr => ∃ i : Nat, s3 = .int .i64 (i : Int) ∧ kx + i = n ∧ Hid (∀ j x, j < i → ns[j]? = some x → noteOk x = true) ∧ Below w.heap.size w wr)
  case atStart => exact ⟨0, rfl, by omega, Lib.hid (fun j x h => absurd h (Nat.not_lt_zero _)), Below.refl _ _⟩
  case round =>
    obtain ⟨i, rfl, hk, I, hB⟩ := hrel
    by_cases hlt : i < n
    · have hlt' : (i : Int) < (n : Int) := by omega
      have i0' : (0 : Int) ≤ (i : Int) := by omega
      obtain ⟨x, hx⟩ : ∃ x, ns[i]? = some x := ⟨_, List.getElem?_eq_getElem (by rw [HN.out]; exact hlt)⟩
      obtain ⟨g, off, rfl, hat⟩ := HA.out (by intro e0; rw [e0] at hx; cases hx)
      have HLD := Lib.hid (no_load (hat.on hB) hx)
      have HO := Lib.hid (fun w' => NoteOk_spec x (HX.out x (List.mem_of_getElem? hx)) w')
      have HXX := Lib.hid hx
      clear hx hat
      cases hok : noteOk x
      · have HE := Lib.hid (show notesOk ns = false by
          cases hq : notesOk ns
          · rfl
          · have := (notesOk_len hq).2 x (List.mem_of_getElem? HXX.out)
            rw [hok] at this; cases this)
        rw [hok] at HO
        go_wp2_with (first | (go_at_call 107; refine (HO.out _).mono ?_; rintro e w1 ⟨rfl, g1⟩) | ((with_reducible refine wp_load_at HLD.out ?_ ?_); exact And.intro rfl (And.intro rfl rfl)))
        go_ret
        exact ⟨by rw [HE.out]; rfl, hB.trans (g1.mono hB.size)⟩
      · have HI := Lib.hid (show ∀ j y, j < i + 1 → ns[j]? = some y → noteOk y = true from fun j y hj hy => by
          rcases Nat.lt_or_eq_of_le (Nat.le_of_lt_succ hj) with h | h
          · exact I.out j y h hy
          · rw [h, HXX.out] at hy; cases hy; exact hok)
        rw [hok] at HO
        go_wp2_with (first | (go_at_call 107; refine (HO.out _).mono ?_; rintro e w1 ⟨rfl, g1⟩) | ((with_reducible refine wp_load_at HLD.out ?_ ?_); exact And.intro rfl (And.intro rfl rfl)))
        go_roundg (n - (i + 1))
        case measure => omega
        case rel => exact ⟨i + 1, by go_num, by omega, HI, hB.trans (g1.mono hB.size)⟩
    · have hlt' : ¬ (i : Int) < (n : Int) := by omega
      have HE := Lib.hid (show notesOk ns = decide (n ≤ 12) by
        unfold notesOk
        have : ns.all noteOk = true := by
          rw [List.all_eq_true]
          intro x hx
          obtain ⟨j, hj, e⟩ := List.getElem_of_mem hx
          exact I.out j x (by rw [HN.out] at hj; omega) (by rw [List.getElem?_eq_getElem hj, e])
        rw [this, Bool.true_and, HN.out])
      by_cases h12 : n ≤ 12
      · have h12' : (n : Int) ≤ 12 := by omega
        go_wp2_with fail
        go_ret
        exact ⟨by rw [HE.out, show decide (n ≤ 12) = true by simpa using h12]; rfl, hB⟩
      · have h12' : ¬ (n : Int) ≤ 12 := by omega
        go_wp2_with fail
        go_ret
        exact ⟨by rw [HE.out, show decide (n ≤ 12) = false by simpa using h12]; rfl, hB⟩

/-- A look's name and what stands behind it. -/
def colonN (n : No) : List UInt8 := nameOf n.l ++ [58, 32]

/-- A note's text ahead of its mark. -/
def plainN (n : No) : List UInt8 := nameOf n.l ++ 58 :: 32 :: showVal n.v

def shF (sl : Value) (g off i : Nat) (x : No) (j : Nat) (v : Value) (W : World) : Prop := match j with
  | 0 => ∃ b, v = .slice (some ⟨b, 0, none⟩) 6 6 ∧ LBlk W b (wordsV P8.names)
  | 1 => v = sl
  | 2 => v = .int .i64 (i : Int)
  | 3 => v = .pointer (some ⟨g, off + i * 9, none⟩)
  | 4 => v = .pointer (some ⟨g, off + i * 9, none⟩)
  | 5 => v = .int .i64 x.l
  | 6 => ∃ b, v = .pointer (some ⟨b, x.l.toNat, none⟩) ∧ LBlk W b (wordsV P8.names)
  | 7 => v = .string ⟨(nameOf x.l).toArray⟩
  | 8 => v = .string ⟨(colonN x).toArray⟩
  | 9 => v = sl
  | 10 => v = .int .i64 (i : Int)
  | 11 => v = .pointer (some ⟨g, off + i * 9, none⟩)
  | 12 => v = .pointer (some ⟨g, off + i * 9 + 1, none⟩)
  | 13 => v = valV x.v
  | 14 => v = .string ⟨(showVal x.v).toArray⟩
  | 15 => v = .string ⟨(plainN x).toArray⟩
  | 16 => v = .string ⟨(plainN x).toArray⟩
  | _ => True

theorem shF_keep {sl : Value} {g off i : Nat} {x : No} {w w' : World} (hb : Below w.heap.size w w') (j : Nat) (v : Value) (hj : j < 17) (h : shF sl g off i x j v w) : shF sl g off i x j v w' := by
  have : j = 0 ∨ j = 1 ∨ j = 2 ∨ j = 3 ∨ j = 4 ∨ j = 5 ∨ j = 6 ∨ j = 7 ∨ j = 8 ∨ j = 9 ∨ j = 10 ∨ j = 11 ∨ j = 12 ∨ j = 13 ∨ j = 14 ∨ j = 15 ∨ j = 16 := by omega
  rcases this with rfl | rfl | rfl | rfl | rfl | rfl | rfl | rfl | rfl | rfl | rfl | rfl | rfl | rfl | rfl | rfl | rfl
  all_goals first | exact h | (obtain ⟨b, e, hl⟩ := h; exact ⟨b, e, hl.below hb⟩)

theorem part_val {w : World} {g off i : Nat} {ns : List No} {n : No} (h : At 9 w g off (noRs ns)) (hn : ns[i]? = some n) : (loadVar 105 ⟨g, off + i * 9 + 1, none⟩).run Tryz.prog w = .ok (valV n.v) w :=
  load_cells (vs := vaL n.v) val9_wide fun j v hv => by
    have := h.cells i _ (noRs_at hn) (1 + j) v (by
      have hj : j < 7 := (List.getElem?_eq_some_iff.1 hv).1
      show (.int .i64 n.l :: (vaL n.v ++ [.bool n.s]))[1 + j]? = some v
      rw [Nat.add_comm, List.getElem?_cons_succ, List.getElem?_append_left (by simpa [vaL] using hj)]
      exact hv)
    rw [← Nat.add_assoc] at this
    exact this

end Go.Proofs.YtgaggpnlimchkaaGreatDoor.B9
