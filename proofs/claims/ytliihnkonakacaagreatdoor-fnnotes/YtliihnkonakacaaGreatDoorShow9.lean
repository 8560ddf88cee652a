/- Chapter 9: what ShowNotes answers, the reference's: texts joined, right notes, a note's text. -/
import Derived.Test.YtliihnkonakacaaGreatDoorBase8
import Derived.Test.YtliihnkonakacaaGreatDoorBase9n
import Derived.Test.YtliihnkonakacaaGreatDoorNote9
import Derived.Test.YtliihnkonakacaaGreatDoorBase6b
namespace Go.Proofs.YtliihnkonakacaaGreatDoor.B9
open Go.Proofs.YtliihnkonakacaaGreatDoor.P1 Go.Proofs.YtliihnkonakacaaGreatDoor.B1 Go.Proofs.YtliihnkonakacaaGreatDoor.B2 Go.Proofs.YtliihnkonakacaaGreatDoor.T1 Go.Proofs.YtliihnkonakacaaGreatDoor.BT Go.Proofs.YtliihnkonakacaaGreatDoor.P5 Go.Proofs.YtliihnkonakacaaGreatDoor.P6 Go.Proofs.YtliihnkonakacaaGreatDoor.P8 Go.Proofs.YtliihnkonakacaaGreatDoor.P9 Go.Proofs.YtliihnkonakacaaGreatDoor.B5 Go.Proofs.YtliihnkonakacaaGreatDoor.B6 Go.Proofs.YtliihnkonakacaaGreatDoor.B8 Go.Proofs.YtliihnkonakacaaGreatDoor.D1 Go.Proofs.YtliihnkonakacaaGreatDoor.W8 Go.Proofs.YtliihnkonakacaaGreatDoor.RC Go.Proofs.YtliihnkonakacaaGreatDoor.RI
open Go.ChangeShapes Go.WideShapes Go.ChangeAt Go.RowKit
set_option linter.unusedVariables false

section
variable {P : Program} {ops : Array Oper} {Q : Exit → Act → World → Prop} {a : Act} {w : World}

/-- What the operations have left in an act. -/
def valsOf (ops : Array Oper) (A : Act) : List Value := (List.range ops.size).map fun j => match dstOf ops j with
  | some d => A.tmps[d]?.getD undef
  | none => undef

theorem dst_lt {j d : Nat} (h : dstOf ops j = some d) : j < ops.size := by
  unfold dstOf at h
  cases e : ops[j]? with
  | none => rw [e] at h; cases h
  | some o => exact (Array.getElem?_eq_some_iff.1 e).1

theorem valsOf_at {A : Act} {j d : Nat} (h : dstOf ops j = some d) : (valsOf ops A)[j]?.getD undef = A.tmps[d]?.getD undef := by
  unfold valsOf
  rw [List.getElem?_map, List.getElem?_range (dst_lt h)]
  simp [h]

/-- What holds while a region's operations are done, whatever they answer. -/
structure Free (ops : Array Oper) (a : Act) (F : Nat → Value → World → Prop) (B : World → Prop) (L : Array Bool) (A : Act) (W : World) : Prop where
  sz : A.tmps.size = a.tmps.size
  rs : A = { a with tmps := A.tmps }
  st : ∀ k, apart ops k = true → A.tmps[k]?.getD undef = a.tmps[k]?.getD undef
  on : ∀ j d, dstOf ops j = some d → L[j]?.getD false = true → F j (A.tmps[d]?.getD undef) W
  bs : B W

/-- A region that draws its order, whose operations may answer otherwise in another order. -/
theorem region_free {id : Nat} (hm : P.follows .mixedOrders = true) (F : Nat → Value → World → Prop) (B : World → Prop) (ms : List (Option Nat))
    (hok : okD ops a.tmps.size = true) (hms : okM ops ms = true) (hB : B w.drew)
    (hs : ∀ i, i < ops.size → ∀ A W, B W → (∀ k, apart ops k = true → A.tmps[k]?.getD undef = a.tmps[k]?.getD undef) → (∀ j d, dstOf ops j = some d → behind ops i j = true → F j (A.tmps[d]?.getD undef) W) → wpOp P ops Q i (fun A' W' => ∃ v, A' = A.put (dstOf ops i) v ∧ B W' ∧ F i v W' ∧ ∀ j u, j < ops.size → F j u W → F j u W') A W)
    (he : ∀ W vs, B W → (∀ j d, dstOf ops j = some d → F j (vs[j]?.getD undef) W) → Q .normal { a with tmps := (mergeL vs ms a.tmps.toList).toArray } W) : (Code.region id ops true).wp P Q a w := by
  refine region_inv hm (fun L => Free ops a F B L) ⟨rfl, rfl, fun _ _ => rfl, fun j d _ hl => ?_, hB⟩ (fun L A W hL hJ i hi => ?_) (fun L A W hL hJ hr => ?_)
  · rw [Array.getElem?_replicate] at hl
    split at hl <;> cases hl
  · have hin : i < ops.size := by
      unfold Region.ready at hi
      rw [List.mem_filter] at hi
      simpa using hi.1
    obtain ⟨o, ho⟩ : ∃ o, ops[i]? = some o := ⟨_, Array.getElem?_eq_getElem hin⟩
    have hdep := (ready_of hL ho hi).2
    refine wpOp_mono (fun A' W' hh => ?_) (hs i hin A W hJ.bs hJ.st (fun j d hd hb => hJ.on j d hd ?_))
    · obtain ⟨v, rfl, hB', hF, hK⟩ := hh
      have hlen : (valsOf ops A).length = ops.size := by unfold valsOf; simp
      have hi2 : ((valsOf ops A).set i v)[i]?.getD undef = v := by
        rw [List.getElem?_set_self (by omega)]; rfl
      have hne : ∀ j, j ≠ i → ((valsOf ops A).set i v)[j]?.getD undef = (valsOf ops A)[j]?.getD undef := fun j hj => by
        rw [List.getElem?_set_ne (Ne.symm hj)]
      have hD : Det ops ((valsOf ops A).set i v) a (fun _ => True) (fun j => j ≠ i) A W := ⟨hJ.sz, hJ.rs, hJ.st, fun j d hd hj => by rw [hne j hj, valsOf_at hd], trivial⟩
      have hP := hD.put (D' := fun _ => True) (w' := W') hok hin trivial (fun j _ => by
        by_cases e : j = i
        · exact Or.inl e
        · exact Or.inr e)
      rw [hi2] at hP
      refine ⟨hP.sz, hP.rs, hP.st, fun j d hd hl => ?_, hB'⟩
      rw [hP.on j d hd trivial]
      by_cases e : j = i
      · subst e
        rw [hi2]; exact hF
      · rw [hne j e, valsOf_at hd]
        refine hK j _ (dst_lt hd) (hJ.on j d hd ?_)
        rwa [Array.getElem?_setIfInBounds_ne (Ne.symm e)] at hl
    · unfold behind at hb
      rw [ho] at hb
      simp only [Option.map_some, Option.getD_some] at hb
      obtain ⟨k, hk, hb⟩ := Array.any_eq_true.1 hb
      simp only [Bool.and_eq_true, beq_iff_eq] at hb
      obtain ⟨hbe, rfl⟩ := hb
      exact hdep _ (Array.getElem_mem hk) hbe
  · have hall := ready_all (List.all_eq_true.2 fun i hi => by
      have := List.all_eq_true.1 hok i hi
      simp only [Bool.and_eq_true] at this
      exact this.1) hL hr
    have hD : Det ops (valsOf ops A) a B (fun _ => True) A W := ⟨hJ.sz, hJ.rs, hJ.st, fun j d hd _ => (valsOf_at hd).symm, hJ.bs⟩
    rw [hD.frame hok hms (fun _ _ => trivial)]
    exact he W (valsOf ops A) hJ.bs (fun j d hd => by rw [valsOf_at hd]; exact hJ.on j d hd (hall j (dst_lt hd)))
end

theorem joinBy_snoc (b : List UInt8) : ∀ (xs : List (List UInt8)) (y : List UInt8), xs ≠ [] → joinBy b (xs ++ [y]) = joinBy b xs ++ b ++ y
  | [], _, h => absurd rfl h
  | [x], y, _ => rfl
  | x :: z :: r, y, _ => by
    have ih := joinBy_snoc b (z :: r) y (by simp)
    show x ++ b ++ joinBy b ((z :: r) ++ [y]) = (x ++ b ++ joinBy b (z :: r)) ++ b ++ y
    rw [ih]
    simp [List.append_assoc]

theorem joinBy_is (b : List UInt8) : ∀ (xs : List (List UInt8)), Lib.join xs b = joinBy b xs
  | [] => rfl
  | [x] => Lib.join_one _ _
  | x :: z :: r => by
    have ih := joinBy_is b (z :: r)
    rw [Lib.join_cons] at ih ⊢
    show x ++ ((z :: r).map (b ++ ·)).flatten = x ++ b ++ joinBy b (z :: r)
    rw [← ih]
    simp [Lib.joinTail, List.append_assoc]

theorem words_form {w : World} {v : Value} {B : Nat} {ls : List (List UInt8)} (h : Words w v B ls) : ∃ a cap, v = .slice a ls.length cap ∧ ls.length ≤ cap ∧ (ls ≠ [] → ∃ g, a = some ⟨g, 0, none⟩ ∧ g < w.heap.size ∧ ∀ k l, ls[k]? = some l → w.cell? ⟨g, k, none⟩ = some (.string ⟨l.toArray⟩)) := by
  by_cases hne : ls = []
  · subst hne
    rcases h.2 with ⟨hv, _⟩ | ⟨g, cap, cur, hv, _⟩
    · exact ⟨_, _, hv, Nat.zero_le _, fun h => absurd rfl h⟩
    · exact ⟨_, _, hv, Nat.zero_le _, fun h => absurd rfl h⟩
  · obtain ⟨g, cap, e, h1, _, h3, h4⟩ := Words.at h hne
    exact ⟨_, cap, e, h1, fun _ => ⟨g, rfl, h3, h4⟩⟩

theorem take_one {ls : List (List UInt8)} {i : Nat} {l : List UInt8} (h : ls[i]? = some l) : joinBy [59, 32] (ls.take (i + 1)) = if i = 0 then l else joinBy [59, 32] (ls.take i) ++ [59, 32] ++ l := by
  rw [List.take_add_one, h]
  show joinBy [59, 32] (ls.take i ++ [l]) = _
  by_cases h0 : i = 0
  · subst h0; rfl
  · rw [if_neg h0, joinBy_snoc]
    intro e0
    have := congrArg List.length e0
    rw [List.length_take, List.length_nil] at this
    have := (List.getElem?_eq_some_iff.1 h).1
    omega

set_option maxRecDepth 20000 in
set_option maxHeartbeats 4000000 in
theorem Words9_spec (ls : List (List UInt8)) (v : Value) (B : Nat) (w : World) (h : Words w v B ls) (hn : ls.length ≤ 12) (hl : ∀ l ∈ ls, l.length ≤ 50) :
    Calls Tryz.prog 133 #[v, .string ⟨#[59, 32]⟩] w fun e w' => e = .returned (.string ⟨(joinBy [59, 32] ls).toArray⟩) ∧ w = w' := by
  obtain ⟨a, cap, rfl, hnc, HA⟩ := words_form h
  obtain ⟨n, en⟩ : ∃ n, ls.length = n := ⟨_, rfl⟩
  rw [en] at hnc hn ⊢
  have HN := Lib.hid en
  have hnc' : (n : Int) ≤ (cap : Int) := by omega
  have hn12 : (n : Int) ≤ 12 := by omega
  have HL := Lib.hid hl
  replace HA := Lib.hid HA
  clear h hl en
  go_enter Tryz.func133, Tryz.ntmps133
  go_wp2_with fail
  go_loopg [5, 6] n (fun kx s5 s6 wr => ∃ (i : Nat) (s : List UInt8), s5 = .string ⟨s.toArray⟩ ∧ s6 = .int .i64 (i : Int) ∧ kx + i = n ∧ Hid (s = joinBy [59, 32] (ls.take i)) ∧ wr = w)
  case atStart => exact ⟨0, [], rfl, rfl, by omega, Lib.hid rfl, rfl⟩
  case round =>
    obtain ⟨i, s, rfl, rfl, hk, HS, ew⟩ := hrel
    rw [ew]
    clear ew
    by_cases hlt : i < n
    · have hlt' : (i : Int) < (n : Int) := by omega
      have i0' : (0 : Int) ≤ (i : Int) := by omega
      obtain ⟨l, hx⟩ : ∃ l, ls[i]? = some l := ⟨_, List.getElem?_eq_getElem (by rw [HN.out]; exact hlt)⟩
      obtain ⟨g, rfl, hg, hc⟩ := HA.out (by intro e0; rw [e0] at hx; cases hx)
      have c0 := hc i l hx
      have hsl : s.length ≤ 1000 := by
        have := join_len (m := 50) (b := [59, 32]) (xs := ls.take i) (fun x hx => HL.out x (List.mem_of_mem_take hx))
        rw [← HS.out, List.length_take, HN.out] at this
        have h2 : min i n * (50 + [59, 32].length) ≤ 12 * 52 := Nat.mul_le_mul (by omega) (by decide)
        omega
      have hll := HL.out l (List.mem_of_getElem? hx)
      have HT := Lib.hid (take_one hx)
      clear hx hc
      by_cases hi0 : i = 0
      · subst hi0
        have HT' := Lib.hid (show l = joinBy [59, 32] (ls.take (0 + 1)) by rw [HT.out, if_pos rfl])
        have hse := HS.out
        obtain rfl : s = [] := hse
        have a1 := str_addT [] l l rfl (by omega)
        clear HT
        go_wp2_with fail
        go_roundg (n - (0 + 1))
        case measure => omega
        case rel => exact ⟨0 + 1, l, rfl, by go_num, by omega, HT', rfl⟩
      · have hpos : (i : Int) > 0 := by omega
        have hpos' : (0 : Int) < (i : Int) := by omega
        have HT' := Lib.hid (show s ++ [59, 32] ++ l = joinBy [59, 32] (ls.take (i + 1)) by rw [HT.out, if_neg hi0, HS.out])
        have a1 := str_addT s [59, 32] (s ++ [59, 32]) rfl (by simp; omega)
        have a2 := str_addT (s ++ [59, 32]) l (s ++ [59, 32] ++ l) rfl (by simp; omega)
        clear HT
        go_wp2_with fail
        go_roundg (n - (i + 1))
        case measure => omega
        case rel => exact ⟨i + 1, _, rfl, by go_num, by omega, Lib.hid (by rw [← HT'.out]; simp), rfl⟩
    · have hlt' : ¬ (i : Int) < (n : Int) := by omega
      have HD := Lib.hid (show s = joinBy [59, 32] ls by have := HS.out; rw [List.take_of_length_le (by rw [HN.out]; omega)] at this; exact this)
      go_wp2_with fail
      go_ret
      exact ⟨by rw [← HD.out]; rfl, rfl⟩

theorem notesOk_len {ns : List No} (h : notesOk ns = true) : ns.length ≤ 12 ∧ ∀ n ∈ ns, noteOk n = true := by
  unfold notesOk at h
  rw [Bool.and_eq_true, decide_eq_true_eq, List.all_eq_true] at h
  exact ⟨h.2, h.1⟩

set_option maxRecDepth 20000 in
set_option maxHeartbeats 4000000 in
theorem Notes_spec (ns : List No) (v : Value) (w : World) (h : NoSlc w v ns) (hs : ns.length ≤ 2000000) (hx : ∀ n ∈ ns, n.v.w.length ≤ 1048576) :
    Calls Tryz.prog 84 #[v] w (Ans (.bool (notesOk ns)) w) := by
  obtain ⟨a, cap, rfl, hnc, hcap, HA⟩ := h.form
  obtain ⟨n, hn⟩ : ∃ n, ns.length = n := ⟨_, rfl⟩
  rw [hn] at hnc hs ⊢
  have HN := Lib.hid hn
  have hnc' : (n : Int) ≤ (cap : Int) := by omega
  have hs' : (n : Int) ≤ 2000000 := by omega
  have HX := Lib.hid hx
  replace HA := Lib.hid HA
  clear h hn hcap hx
  go_enter Tryz.func84, Tryz.ntmps84
  go_wp2_with fail
  go_loopg [3] n (fun kx s3 wr => ∃ i : Nat, s3 = .int .i64 (i : Int) ∧ kx + i = n ∧ Hid (∀ j x, j < i → ns[j]? = some x → noteOk x = true) ∧ Below w.heap.size w wr)
  case atStart => exact ⟨0, rfl, by omega, Lib.hid (fun j x h => absurd h (Nat.not_lt_zero _)), Below.refl _ _⟩
  case round =>
    obtain ⟨i, rfl, hk, I, hB⟩ := hrel
    by_cases hlt : i < n
    · have hlt' : (i : Int) < (n : Int) := by omega
      have i0' : (0 : Int) ≤ (i : Int) := by omega
      obtain ⟨x, hx⟩ : ∃ x, ns[i]? = some x := ⟨_, List.getElem?_eq_getElem (by rw [HN.out]; exact hlt)⟩
      obtain ⟨g, off, rfl, hat⟩ := HA.out (by intro e0; rw [e0] at hx; cases hx)
      have HLD := Lib.hid (no_load (hat.on hB) hx)
      have HO := Lib.hid (fun w' => NoteOk_spec x (HX.out x (List.mem_of_getElem? hx)) w')
      have HXX := Lib.hid hx
      clear hx hat
      cases hok : noteOk x
      · have HE := Lib.hid (show notesOk ns = false by
          cases hq : notesOk ns
          · rfl
          · have := (notesOk_len hq).2 x (List.mem_of_getElem? HXX.out)
            rw [hok] at this; cases this)
        rw [hok] at HO
        go_wp2_with (first | (go_at_call 43; refine (HO.out _).mono ?_; rintro e w1 ⟨rfl, g1⟩) | ((with_reducible refine wp_load_at HLD.out ?_ ?_); exact And.intro rfl (And.intro rfl rfl)))
        go_ret
        exact ⟨by rw [HE.out]; rfl, hB.trans (g1.mono hB.size)⟩
      · have HI := Lib.hid (show ∀ j y, j < i + 1 → ns[j]? = some y → noteOk y = true from fun j y hj hy => by
          rcases Nat.lt_or_eq_of_le (Nat.le_of_lt_succ hj) with h | h
          · exact I.out j y h hy
          · rw [h, HXX.out] at hy; cases hy; exact hok)
        rw [hok] at HO
        go_wp2_with (first | (go_at_call 43; refine (HO.out _).mono ?_; rintro e w1 ⟨rfl, g1⟩) | ((with_reducible refine wp_load_at HLD.out ?_ ?_); exact And.intro rfl (And.intro rfl rfl)))
        go_roundg (n - (i + 1))
        case measure => omega
        case rel => exact ⟨i + 1, by go_num, by omega, HI, hB.trans (g1.mono hB.size)⟩
    · have hlt' : ¬ (i : Int) < (n : Int) := by omega
      have HE := Lib.hid (show notesOk ns = decide (n ≤ 12) by
        unfold notesOk
        have : ns.all noteOk = true := by
          rw [List.all_eq_true]
          intro x hx
          obtain ⟨j, hj, e⟩ := List.getElem_of_mem hx
          exact I.out j x (by rw [HN.out] at hj; omega) (by rw [List.getElem?_eq_getElem hj, e])
        rw [this, Bool.true_and, HN.out])
      by_cases h12 : n ≤ 12
      · have h12' : (n : Int) ≤ 12 := by omega
        go_wp2_with fail
        go_ret
        exact ⟨by rw [HE.out, show decide (n ≤ 12) = true by simpa using h12]; rfl, hB⟩
      · have h12' : ¬ (n : Int) ≤ 12 := by omega
        go_wp2_with fail
        go_ret
        exact ⟨by rw [HE.out, show decide (n ≤ 12) = false by simpa using h12]; rfl, hB⟩

/-- A look's name and what stands behind it. -/
def colonN (n : No) : List UInt8 := nameOf n.l ++ [58, 32]

/-- A note's text ahead of its mark. -/
def plainN (n : No) : List UInt8 := nameOf n.l ++ 58 :: 32 :: showVal n.v

def shF (sl : Value) (g off i : Nat) (x : No) (j : Nat) (v : Value) (W : World) : Prop := match j with
  | 0 => ∃ b, v = .slice (some ⟨b, 0, none⟩) 6 6 ∧ LBlk W b (wordsV P8.names)
  | 1 => v = sl
  | 2 => v = .int .i64 (i : Int)
  | 3 => v = .pointer (some ⟨g, off + i * 9, none⟩)
  | 4 => v = .pointer (some ⟨g, off + i * 9, none⟩)
  | 5 => v = .int .i64 x.l
  | 6 => ∃ b, v = .pointer (some ⟨b, x.l.toNat, none⟩) ∧ LBlk W b (wordsV P8.names)
  | 7 => v = .string ⟨(nameOf x.l).toArray⟩
  | 8 => v = .string ⟨(colonN x).toArray⟩
  | 9 => v = sl
  | 10 => v = .int .i64 (i : Int)
  | 11 => v = .pointer (some ⟨g, off + i * 9, none⟩)
  | 12 => v = .pointer (some ⟨g, off + i * 9 + 1, none⟩)
  | 13 => v = valV x.v
  | 14 => v = .string ⟨(showVal x.v).toArray⟩
  | 15 => v = .string ⟨(plainN x).toArray⟩
  | 16 => v = .string ⟨(plainN x).toArray⟩
  | _ => True

theorem shF_keep {sl : Value} {g off i : Nat} {x : No} {w w' : World} (hb : Below w.heap.size w w') (j : Nat) (v : Value) (hj : j < 17) (h : shF sl g off i x j v w) : shF sl g off i x j v w' := by
  have : j = 0 ∨ j = 1 ∨ j = 2 ∨ j = 3 ∨ j = 4 ∨ j = 5 ∨ j = 6 ∨ j = 7 ∨ j = 8 ∨ j = 9 ∨ j = 10 ∨ j = 11 ∨ j = 12 ∨ j = 13 ∨ j = 14 ∨ j = 15 ∨ j = 16 := by omega
  rcases this with rfl | rfl | rfl | rfl | rfl | rfl | rfl | rfl | rfl | rfl | rfl | rfl | rfl | rfl | rfl | rfl | rfl
  all_goals first | exact h | (obtain ⟨b, e, hl⟩ := h; exact ⟨b, e, hl.below hb⟩)

theorem part_val {w : World} {g off i : Nat} {ns : List No} {n : No} (h : At 9 w g off (noRs ns)) (hn : ns[i]? = some n) : (loadVar 54 ⟨g, off + i * 9 + 1, none⟩).run Tryz.prog w = .ok (valV n.v) w :=
  load_cells (vs := vaL n.v) val9_wide fun j v hv => by
    have := h.cells i _ (noRs_at hn) (1 + j) v (by
      have hj : j < 7 := (List.getElem?_eq_some_iff.1 hv).1
      show (.int .i64 n.l :: (vaL n.v ++ [.bool n.s]))[1 + j]? = some v
      rw [Nat.add_comm, List.getElem?_cons_succ, List.getElem?_append_left (by simpa [vaL] using hj)]
      exact hv)
    rw [← Nat.add_assoc] at this
    exact this

set_option maxRecDepth 20000 in
set_option maxHeartbeats 2000000 in
theorem Show9_spec (ns : List No) (v : Value) (w : World) (h : NoSlc w v ns) (hn12 : ns.length ≤ 12) (hok : ∀ n ∈ ns, noteOk n = true) :
    Calls Tryz.prog 85 #[v] w (Ans (.string ⟨(joinBy [59, 32] (ns.map showNote)).toArray⟩) w) := by
  obtain ⟨i0, hi, hz0, hz1, hz2⟩ := info_parts infoStr
  obtain ⟨a, cap, rfl, hnc, hcap, HA⟩ := h.form
  obtain ⟨n, hn⟩ : ∃ n, ns.length = n := ⟨_, rfl⟩
  rw [hn] at hnc hn12 ⊢
  have HN := Lib.hid hn
  have hnc' : (n : Int) ≤ (cap : Int) := by omega
  have h12' : (n : Int) ≤ 12 := by omega
  have HO := Lib.hid hok
  replace HA := Lib.hid HA
  have ho1 : Words (w.alloc (.cells #[] 9)) (.slice (some ⟨w.heap.size, 0, none⟩) 0 0) w.heap.size [] := World.ownsRow_lit w #[] 0 (Nat.le_refl _) (by decide) rfl
  have hB1 : Below w.heap.size w (w.alloc (.cells #[] 9)) := (Below.refl _ _).alloc (Nat.le_refl _) _
  clear h hn hcap hok
  go_enter Tryz.func85, Tryz.ntmps85
  go_wp2_with fail
  go_loopg [3, 4] n (fun kx s3 s4 wr => ∃ i : Nat, s4 = .int .i64 (i : Int) ∧ kx + i = n ∧ Words wr s3 w.heap.size ((ns.take i).map showNote) ∧ Below w.heap.size w wr)
  case atStart => exact ⟨0, rfl, by omega, ho1, hB1⟩
  case round =>
    obtain ⟨i, rfl, hk, hown, hB⟩ := hrel
    clear ho1 hB1
    by_cases hlt : i < n
    · have hlt' : (i : Int) < (n : Int) := by omega
      have i0' : (0 : Int) ≤ (i : Int) := by omega
      obtain ⟨x, hx⟩ : ∃ x, ns[i]? = some x := ⟨_, List.getElem?_eq_getElem (by rw [HN.out]; exact hlt)⟩
      obtain ⟨g, off, rfl, hat⟩ := HA.out (by intro e0; rw [e0] at hx; cases hx)
      have hxo := HO.out x (List.mem_of_getElem? hx)
      have hnl : (plainN x).length ≤ 100 := by
        have h1 := name_len x.l
        have h2 := show_short (fits_ok hxo)
        unfold plainN
        simp only [List.length_append, List.length_cons]
        omega
      have hsn : showNote x = plainN x ++ strongT x.s := by simp [showNote, plainN]
      have HNames := Lib.hid (fun w' => Names_spec w')
      have HShow := Lib.hid (fun w' => ShowV_spec x.v (fits_ok hxo) w')
      have hlk := look_iff.1 (fits_look hxo)
      obtain ⟨K, eK⟩ : ∃ K : Nat, x.l = (K : Int) := ⟨x.l.toNat, by omega⟩
      have hK6 : K < 6 := by omega
      have hKt : x.l.toNat = K := by omega
      have hK' : (K : Int) < 6 := by omega
      have hK0 : (0 : Int) ≤ (K : Int) := by omega
      have hnm : P8.names[K]? = some (nameOf x.l) := by
        rw [eK]
        have : K = 0 ∨ K = 1 ∨ K = 2 ∨ K = 3 ∨ K = 4 ∨ K = 5 := by omega
        rcases this with rfl | rfl | rfl | rfl | rfl | rfl <;> rfl
      have ht1 : ((ns.take i).map showNote).length = i := by rw [List.length_map, List.length_take, HN.out]; omega
      have HTK := Lib.hid (show (ns.take (i + 1)).map showNote = (ns.take i).map showNote ++ [showNote x] by rw [List.take_add_one, hx, List.map_append]; rfl)
      have HX := Lib.hid hx
      obtain ⟨a3, c3, rfl, _⟩ := words_form hown
      rw [ht1]
      have hown' : wr.ownsRow w.heap.size 9 1 (.slice a3 i c3) i (wordsV ((ns.take i).map showNote)) := by
        have := hown
        unfold Words at this
        rwa [ht1] at this
      clear hx hown ht1
      go_upto_region 5 with fail
      refine region_free (by kernel_rfl) (shF (.slice (some ⟨g, off, none⟩) n cap) g off i x) (fun W => Below wr.heap.size wr W) (none :: none :: none :: none :: none :: some 16 :: none :: none :: none :: none :: none :: none :: none :: some 0 :: some 1 :: some 2 :: some 3 :: some 4 :: some 5 :: some 6 :: some 7 :: some 8 :: some 9 :: some 10 :: some 11 :: some 12 :: some 13 :: some 14 :: some 15 :: none :: none :: none :: none :: none :: none :: none :: none :: none :: none :: none :: none :: none :: []) (by kernel_rfl) (by kernel_rfl) ⟨rfl, rfl, rfl, Nat.le_refl _, fun _ _ => rfl⟩ ?_ ?_
      · intro j hj A W hBW hst hon
        have hj17 : j < 17 := hj
        have s0 : A.tmps[0]?.getD undef = .slice (some ⟨g, off, none⟩) n cap := (hst 0 (by kernel_rfl)).trans rfl
        have s4 : A.tmps[4]?.getD undef = .int .i64 (i : Int) := (hst 4 (by kernel_rfl)).trans rfl
        have hatW := hat.on (hB.trans (hBW.mono hB.size))
        clear hj hst
        have hcase : j = 0 ∨ j = 1 ∨ j = 2 ∨ j = 3 ∨ j = 4 ∨ j = 5 ∨ j = 6 ∨ j = 7 ∨ j = 8 ∨ j = 9 ∨ j = 10 ∨ j = 11 ∨ j = 12 ∨ j = 13 ∨ j = 14 ∨ j = 15 ∨ j = 16 := by omega
        rcases hcase with rfl | rfl | rfl | rfl | rfl | rfl | rfl | rfl | rfl | rfl | rfl | rfl | rfl | rfl | rfl | rfl | rfl
        · refine wpOp_of rfl rfl (wp_enter (f := 131) (args := #[]) ?_ ?_)
          · simp [execOp, Act.eval, go_sem]
          · refine (HNames.out W).mono ?_
            rintro e w4 ⟨rfl, rfl⟩
            have hb' : Below W.heap.size W (W.alloc (.cells (wordsV P8.names).toArray 9)) := (Below.refl _ _).alloc (Nat.le_refl _) _
            exact ⟨_, rfl, _, rfl, (hBW.trans (hb'.mono hBW.size)), ⟨_, rfl, LBlk.new _ _ _⟩, fun j v hj h => shF_keep hb' j v hj h⟩
        · refine wpOp_of rfl rfl (wp_value (v := .slice (some ⟨g, off, none⟩) n cap) (W' := W) ?_ (⟨_, rfl, hBW, rfl, fun _ _ _ h => h⟩))
          simp [execOp, Act.eval, s0, go_sem]
        · refine wpOp_of rfl rfl (wp_value (v := .int .i64 (i : Int)) (W' := W) ?_ (⟨_, rfl, hBW, rfl, fun _ _ _ h => h⟩))
          simp [execOp, Act.eval, s4, go_sem]
        · have h14 : A.tmps[14]?.getD undef = .slice (some ⟨g, off, none⟩) n cap := hon 1 14 (by kernel_rfl) (by kernel_rfl)
          have h15 : A.tmps[15]?.getD undef = .int .i64 (i : Int) := hon 2 15 (by kernel_rfl) (by kernel_rfl)
          refine wpOp_of rfl rfl (wp_value (v := .pointer (some ⟨g, off + i * 9, none⟩)) (W' := W) ?_ (⟨_, rfl, hBW, rfl, fun _ _ _ h => h⟩))
          simp [execOp, Act.eval, h14, h15, go_sem, hlt', i0']
        · have h16 : A.tmps[16]?.getD undef = .pointer (some ⟨g, off + i * 9, none⟩) := hon 3 16 (by kernel_rfl) (by kernel_rfl)
          refine wpOp_of rfl rfl (wp_value (v := .pointer (some ⟨g, off + i * 9, none⟩)) (W' := W) ?_ (⟨_, rfl, hBW, rfl, fun _ _ _ h => h⟩))
          simp [execOp, Act.eval, h16, go_sem]
        · have h17 : A.tmps[17]?.getD undef = .pointer (some ⟨g, off + i * 9, none⟩) := hon 4 17 (by kernel_rfl) (by kernel_rfl)
          have c0 := (nine_at hatW HX.out).1
          refine wpOp_of rfl rfl (wp_value (v := .int .i64 x.l) (W' := W) ?_ (⟨_, rfl, hBW, rfl, fun _ _ _ h => h⟩))
          simp [execOp, Act.eval, h17, go_sem, c0]
        · obtain ⟨b, h13, hbl⟩ : ∃ b, A.tmps[13]?.getD undef = .slice (some ⟨b, 0, none⟩) 6 6 ∧ LBlk W b (wordsV P8.names) := hon 0 13 (by kernel_rfl) (by kernel_rfl)
          have h18 : A.tmps[18]?.getD undef = .int .i64 x.l := hon 5 18 (by kernel_rfl) (by kernel_rfl)
          rw [eK] at h18
          refine wpOp_of rfl rfl (wp_value (v := .pointer (some ⟨b, x.l.toNat, none⟩)) (W' := W) ?_ (⟨_, rfl, hBW, ⟨b, rfl, hbl⟩, fun _ _ _ h => h⟩))
          simp [execOp, Act.eval, h13, h18, go_sem, hKt, hK', hK0]
        · obtain ⟨b, h19, hbl⟩ : ∃ b, A.tmps[19]?.getD undef = .pointer (some ⟨b, x.l.toNat, none⟩) ∧ LBlk W b (wordsV P8.names) := hon 6 19 (by kernel_rfl) (by kernel_rfl)
          have cn := (hbl.2 x.l.toNat (.string ⟨(nameOf x.l).toArray⟩) (by rw [hKt]; unfold wordsV; rw [List.getElem?_map, hnm]; rfl)).1
          refine wpOp_of rfl rfl (wp_value (v := .string ⟨(nameOf x.l).toArray⟩) (W' := W) ?_ (⟨_, rfl, hBW, rfl, fun _ _ _ h => h⟩))
          simp [execOp, Act.eval, h19, go_sem, cn]
        · have h20 : A.tmps[20]?.getD undef = .string ⟨(nameOf x.l).toArray⟩ := hon 7 20 (by kernel_rfl) (by kernel_rfl)
          have p1 := str_addT (nameOf x.l) [58, 32] (colonN x) rfl (by have := name_len x.l; simp [colonN]; omega)
          refine wpOp_of rfl rfl (wp_value (v := .string ⟨(colonN x).toArray⟩) (W' := W) ?_ (⟨_, rfl, hBW, rfl, fun _ _ _ h => h⟩))
          simp [execOp, Act.eval, h20, go_sem, p1]
        · refine wpOp_of rfl rfl (wp_value (v := .slice (some ⟨g, off, none⟩) n cap) (W' := W) ?_ (⟨_, rfl, hBW, rfl, fun _ _ _ h => h⟩))
          simp [execOp, Act.eval, s0, go_sem]
        · refine wpOp_of rfl rfl (wp_value (v := .int .i64 (i : Int)) (W' := W) ?_ (⟨_, rfl, hBW, rfl, fun _ _ _ h => h⟩))
          simp [execOp, Act.eval, s4, go_sem]
        · have h22 : A.tmps[22]?.getD undef = .slice (some ⟨g, off, none⟩) n cap := hon 9 22 (by kernel_rfl) (by kernel_rfl)
          have h23 : A.tmps[23]?.getD undef = .int .i64 (i : Int) := hon 10 23 (by kernel_rfl) (by kernel_rfl)
          refine wpOp_of rfl rfl (wp_value (v := .pointer (some ⟨g, off + i * 9, none⟩)) (W' := W) ?_ (⟨_, rfl, hBW, rfl, fun _ _ _ h => h⟩))
          simp [execOp, Act.eval, h22, h23, go_sem, hlt', i0']
        · have h24 : A.tmps[24]?.getD undef = .pointer (some ⟨g, off + i * 9, none⟩) := hon 11 24 (by kernel_rfl) (by kernel_rfl)
          refine wpOp_of rfl rfl (wp_value (v := .pointer (some ⟨g, off + i * 9 + 1, none⟩)) (W' := W) ?_ (⟨_, rfl, hBW, rfl, fun _ _ _ h => h⟩))
          simp [execOp, Act.eval, h24, go_sem]
        · have h25 : A.tmps[25]?.getD undef = .pointer (some ⟨g, off + i * 9 + 1, none⟩) := hon 12 25 (by kernel_rfl) (by kernel_rfl)
          refine wpOp_of rfl rfl (wp_value (v := valV x.v) (W' := W) ?_ (⟨_, rfl, hBW, rfl, fun _ _ _ h => h⟩))
          exact exec_load rfl (by simpa [Act.eval] using h25) (part_val hatW HX.out)
        · have h26 : A.tmps[26]?.getD undef = valV x.v := hon 13 26 (by kernel_rfl) (by kernel_rfl)
          refine wpOp_of rfl rfl (wp_enter (f := 132) (args := #[valV x.v]) ?_ ?_)
          · simp [execOp, Act.eval, h26, go_sem]
          · refine (HShow.out W).mono ?_
            rintro e w4 ⟨rfl, hb'⟩
            exact ⟨_, rfl, _, rfl, (hBW.trans (hb'.mono hBW.size)), rfl, fun j v hj h => shF_keep hb' j v hj h⟩
        · have h21 : A.tmps[21]?.getD undef = .string ⟨(colonN x).toArray⟩ := hon 8 21 (by kernel_rfl) (by kernel_rfl)
          have h27 : A.tmps[27]?.getD undef = .string ⟨(showVal x.v).toArray⟩ := hon 14 27 (by kernel_rfl) (by kernel_rfl)
          obtain ⟨t1, et1⟩ : ∃ t, colonN x = t := ⟨_, rfl⟩
          obtain ⟨t2, et2⟩ : ∃ t, showVal x.v = t := ⟨_, rfl⟩
          have het : t1 ++ t2 = plainN x := by rw [← et1, ← et2]; simp [plainN, colonN]
          have p1 := str_addT t1 t2 (plainN x) het (by omega)
          rw [et1] at h21
          rw [et2] at h27
          refine wpOp_of rfl rfl (wp_value (v := .string ⟨(plainN x).toArray⟩) (W' := W) ?_ (⟨_, rfl, hBW, rfl, fun _ _ _ h => h⟩))
          simp [execOp, Act.eval, h21, h27, go_sem, p1]
        · have h28 : A.tmps[28]?.getD undef = .string ⟨(plainN x).toArray⟩ := hon 15 28 (by kernel_rfl) (by kernel_rfl)
          refine wpOp_of rfl rfl (wp_value (v := .string ⟨(plainN x).toArray⟩) (W' := W) ?_ (⟨_, rfl, hBW, rfl, fun _ _ _ h => h⟩))
          simp [execOp, Act.eval, h28, go_sem]
      · intro W vs hBW hfs
        have h5 : vs[16]?.getD undef = .string ⟨(plainN x).toArray⟩ := hfs 16 5 (by kernel_rfl)
        have hatW := hat.on (hB.trans (hBW.mono hB.size))
        have c8 := (nine_at hatW HX.out).2
        have hownW := own_below hown' hBW
        have hBW' := hB.trans (hBW.mono hB.size)
        have HG := Lib.hid (show Below w.heap.size w (W.alloc (.cells #[.string ⟨(showNote x).toArray⟩] 9)) from hBW'.alloc hBW'.size _)
        have HML := Lib.hid (show (((ns.take i).map showNote) ++ [showNote x]) = (ns.take (i + 1)).map showNote from HTK.out.symm)
        have HT1 := Lib.hid (show ((ns.take i).map showNote).length = i by rw [List.length_map, List.length_take, HN.out]; omega)
        simp only [mergeL]
        rw [h5]
        cases hxs : x.s
        · rw [hxs] at c8 hsn
          have hsn' : plainN x = showNote x := by rw [hsn]; simp [strongT]
          rw [hsn']
          clear hfs h5 HShow HNames hat hatW hown' hB hsn hsn' hxs eK hKt hnm hlk hnl hxo
          go_wp2_with (at_builtin; refine wpList_append_own _ rfl _ _ 35 rfl w.heap.size 9 i0 _ 1 16 Tryz.underlying35 hi hz0 hz1 hz2 rfl (by decide) _ i (wordsV ((ns.take i).map showNote)) rfl (World.ownsRow.alloc hownW _) ⟨W.heap.size, 0, none⟩ 1 1 [.string ⟨(showNote x).toArray⟩] rfl rfl (cell_one_new _ _ _) (by simp [Value.oneCell']) (by simp [maxLen]; omega) (by omega) (by have := hBW'.size; simp; omega) ?_; intro v4 w4 hown4 hgrow4 _)
          go_roundg (n - (i + 1))
          case measure => omega
          case rel => exact ⟨i + 1, by go_num, by omega, by rw [← HML.out]; exact words_more (by rw [HT1.out]; exact hown4), HG.out.grown hgrow4 (by have := hBW'.size; simp; omega) (fun k hk => (World.ownsRow.lt hownW k hk).1)⟩
        · rw [hxs] at c8 hsn
          have p1 := str_addT (plainN x) [32, 33, 115, 116, 114, 111, 110, 103] (showNote x) (by rw [hsn]; rfl) (by rw [hsn]; simp [strongT, strongN]; omega)
          clear hfs h5 HShow HNames hat hatW hown' hB hsn hxs eK hKt hnm hlk hnl hxo
          go_wp2_with (at_builtin; refine wpList_append_own _ rfl _ _ 35 rfl w.heap.size 9 i0 _ 1 16 Tryz.underlying35 hi hz0 hz1 hz2 rfl (by decide) _ i (wordsV ((ns.take i).map showNote)) rfl (World.ownsRow.alloc hownW _) ⟨W.heap.size, 0, none⟩ 1 1 [.string ⟨(showNote x).toArray⟩] rfl rfl (cell_one_new _ _ _) (by simp [Value.oneCell']) (by simp [maxLen]; omega) (by omega) (by have := hBW'.size; simp; omega) ?_; intro v4 w4 hown4 hgrow4 _)
          go_roundg (n - (i + 1))
          case measure => omega
          case rel => exact ⟨i + 1, by go_num, by omega, by rw [← HML.out]; exact words_more (by rw [HT1.out]; exact hown4), HG.out.grown hgrow4 (by have := hBW'.size; simp; omega) (fun k hk => (World.ownsRow.lt hownW k hk).1)⟩
    · have hlt' : ¬ (i : Int) < (n : Int) := by omega
      obtain ⟨a3, c3, rfl, _⟩ := words_form hown
      have HD := Lib.hid (show (ns.take i).map showNote = ns.map showNote by rw [List.take_of_length_le (by rw [HN.out]; omega)])
      have ht1 : (ns.map showNote).length = n := by rw [List.length_map, HN.out]
      rw [HD.out] at hown ⊢
      rw [ht1]
      have HW := Lib.hid (Words9_spec (ns.map showNote) _ w.heap.size wr hown (by rw [List.length_map, HN.out]; omega) (fun l hl => by
        obtain ⟨y, hy, rfl⟩ := List.mem_map.1 hl
        exact note_len (HO.out y hy)))
      rw [ht1] at HW
      clear ht1 hown
      go_wp2_with (go_at_call 133; refine HW.out.mono ?_; rintro e w' ⟨rfl, rfl⟩)
      go_ret
      exact ⟨rfl, hB⟩

end Go.Proofs.YtliihnkonakacaaGreatDoor.B9
