/- Contracts of chapter 5's functions (tokens): the reference's l5Next. -/
import Derived.Test.YtniemiofffecjaaDoorBase5d
import Derived.Deep.RegionWith
namespace Go.Proofs.YtniemiofffecjaaDoor.B5
open Go.Proofs.YtniemiofffecjaaDoor.P1 Go.Proofs.YtniemiofffecjaaDoor.B1 Go.Proofs.YtniemiofffecjaaDoor.B2 Go.Proofs.YtniemiofffecjaaDoor.T1 Go.Proofs.YtniemiofffecjaaDoor.BT Go.Proofs.YtniemiofffecjaaDoor.P5
open Go.ChangeShapes Go.WideShapes Go.ChangeAt Go.RowKit
set_option linter.unusedVariables false

/-- A token's value. -/
def tokV (x : Tok) : Value := .agg #[.int .i64 x.k, .string ⟨x.t.toArray⟩, .int .i64 x.n]

/-- What l5Next answers. -/
def Nexts (a : Nat) (x : Tok) (m : Nat) (w : World) (e : Ending) (w' : World) : Prop := e = .returned (.tuple #[tokV x, .int .i64 ((a + m : Nat) : Int)]) ∧ Below w.heap.size w w'

theorem Name_specE (l : List UInt8) (a E : Nat) (w : World) (hE : a + nameLen (l.drop a) = E) (ha : a ≤ l.length) (hl : l.length ≤ 1048576) :
    Calls Tryd.prog 53 #[.string ⟨l.toArray⟩, .int .i64 (a : Int)] w fun e w' => e = .returned (.int .i64 (E : Int)) ∧ w = w' := hE ▸ Name_spec l a w ha hl

theorem Number_specE (l : List UInt8) (a E : Nat) (w : World) (hE : a + numLen (l.drop a) = E) (ha : a ≤ l.length) (hl : l.length ≤ 1048576) :
    Calls Tryd.prog 54 #[.string ⟨l.toArray⟩, .int .i64 (a : Int)] w fun e w' => e = .returned (.int .i64 (E : Int)) ∧ w = w' := hE ▸ Number_spec l a w ha hl

set_option maxHeartbeats 1000000 in
theorem Next_name (l : List UInt8) (a : Nat) (w : World) (ha : a < l.length) (hl : l.length ≤ 1048576) (h : 0 < nameLen (l.drop a)) :
    Calls Tryd.prog 36 #[.string ⟨l.toArray⟩, .int .i64 (a : Int)] w (Nexts a (nextTok (l.drop a)).1 (nextTok (l.drop a)).2 w) := by
  have Hx := Lib.hid (show nextTok (l.drop a) = (⟨1, (l.drop a).take (nameLen (l.drop a)), 0⟩, nameLen (l.drop a)) by unfold nextTok; rw [if_pos h])
  have hle := nameLen_le (l.drop a)
  rw [List.length_drop] at hle
  obtain ⟨E, hE⟩ : ∃ E, a + nameLen (l.drop a) = E := ⟨_, rfl⟩
  obtain ⟨p, hp⟩ : ∃ p, (l.drop a).take (E - a) = p := ⟨_, rfl⟩
  have hcut := str_cut l a E p hp (by omega) (by omega)
  have HP := Lib.hid (show (l.drop a).take (nameLen (l.drop a)) = p by rw [← hp, ← hE]; congr 1; omega)
  have hgt : (a : Int) < (E : Int) := by omega
  have HN := Lib.hid (fun w' => Name_specE l a E w' hE (by omega) hl)
  have HE := Lib.hid hE
  clear hp hE h hle ha hl
  go_enter Tryd.func36, Tryd.ntmps36
  go_wp2_with (go_at_call 53; refine (HN.out _).mono ?_; rintro e w' ⟨rfl, rfl⟩)
  exact bodyPost_ret (v := .tuple #[tokV ⟨1, p, 0⟩, .int .i64 (E : Int)]) (by simp [results, Tryd.results36, go_sem, tokV]) rfl ⟨by rw [Hx.out]; dsimp only; rw [HP.out, HE.out], (Below.refl _ _).alloc (Nat.le_refl _) _⟩

theorem Read_specN (l : List UInt8) (n : Int) (w : World) (hn : numVal l = n) (hl : l.length ≤ 1048576) :
    Calls Tryd.prog 55 #[.string ⟨l.toArray⟩] w fun e w' => ∃ q, e = .returned (.tuple #[.int .i64 n, .bool q]) ∧ w = w' := by
  refine (Read_spec l w hl).mono ?_
  rintro e w' ⟨rfl, rfl⟩
  exact ⟨_, by rw [hn], rfl⟩

set_option maxHeartbeats 1000000 in
theorem Next_unit (l : List UInt8) (a : Nat) (w : World) (ha : a < l.length) (hl : l.length ≤ 1048576) (h0 : nameLen (l.drop a) = 0) (h : 0 < numLen (l.drop a)) (hu : 0 < nameLen ((l.drop a).drop (numLen (l.drop a)))) :
    Calls Tryd.prog 36 #[.string ⟨l.toArray⟩, .int .i64 (a : Int)] w (Nexts a (nextTok (l.drop a)).1 (nextTok (l.drop a)).2 w) := by
  have hle := numLen_le (l.drop a)
  rw [List.length_drop] at hle
  obtain ⟨E, hE⟩ : ∃ E, a + numLen (l.drop a) = E := ⟨_, rfl⟩
  have hq : (l.drop a).drop (numLen (l.drop a)) = l.drop E := by rw [List.drop_drop, hE]
  obtain ⟨p, hp⟩ : ∃ p, (l.drop a).take (E - a) = p := ⟨_, rfl⟩
  have hpl : p.length ≤ 1048576 := by rw [← hp]; simp; omega
  have hcut := str_cut l a E p hp (by omega) (by omega)
  have hpn : (l.drop a).take (numLen (l.drop a)) = p := by rw [← hp, ← hE]; congr 1; omega
  obtain ⟨n, hn⟩ : ∃ n, numVal p = n := ⟨_, rfl⟩
  have hgt : (a : Int) < (E : Int) := by omega
  have hEL : E ≤ l.length := by omega
  have HN0 := Lib.hid (fun w' => Name_specE l a a w' (by omega) (by omega) hl)
  have HN := Lib.hid (fun w' => Number_specE l a E w' hE (by omega) hl)
  have HRd := Lib.hid (fun w' => Read_specN p n w' hn hpl)
  rw [hq] at hu
  have hule := nameLen_le (l.drop E)
  rw [List.length_drop] at hule
  obtain ⟨U, hU⟩ : ∃ U, E + nameLen (l.drop E) = U := ⟨_, rfl⟩
  obtain ⟨u, hu'⟩ : ∃ u, (l.drop E).take (U - E) = u := ⟨_, rfl⟩
  have hcutu := str_cut l E U u hu' (by omega) (by omega)
  have hun : (l.drop E).take (nameLen (l.drop E)) = u := by rw [← hu', ← hU]; congr 1; omega
  have hgu : (E : Int) < (U : Int) := by omega
  have hneq : ((U : Int) == (E : Int)) = false := by rw [beq_eq_false_iff_ne]; omega
  have HU := Lib.hid (fun w' => Name_specE l E U w' hU (by omega) hl)
  have Hx := Lib.hid (show nextTok (l.drop a) = (⟨3, u, n⟩, U - a) by
    have e1 : unitLen (l.drop E) = nameLen (l.drop E) := if_pos hu
    unfold nextTok
    rw [if_neg (by omega), if_pos h, hq, if_pos (by rw [e1]; exact hu), e1, hun, hpn, hn]
    congr 1
    omega)
  have HE := Lib.hid (show a + (U - a) = U by omega)
  clear hq hp hpl hpn hn hE hle hu hule hU hu' hun ha hl h0 h hEL
  go_enter Tryd.func36, Tryd.ntmps36
  go_wp2_with (first | (go_at_call_of 53 ((a : Int)); refine (HN0.out _).mono ?_; rintro e w' ⟨rfl, rfl⟩) | (go_at_call 54; refine (HN.out _).mono ?_; rintro e w' ⟨rfl, rfl⟩) | (go_at_call 55; refine (HRd.out _).mono ?_; rintro e w' ⟨q, rfl, rfl⟩) | (go_at_call_of 53 ((E : Int)); refine (HU.out _).mono ?_; rintro e w' ⟨rfl, rfl⟩))
  exact bodyPost_ret (v := .tuple #[tokV ⟨3, u, n⟩, .int .i64 (U : Int)]) (by simp [results, Tryd.results36, go_sem, tokV]) rfl ⟨by rw [Hx.out]; dsimp only; rw [HE.out], (Below.refl _ _).alloc (Nat.le_refl _) _⟩

set_option maxHeartbeats 1000000 in
theorem Next_percent (l : List UInt8) (a : Nat) (w : World) (ha : a < l.length) (hl : l.length ≤ 1048576) (h0 : nameLen (l.drop a) = 0) (h : 0 < numLen (l.drop a)) (hu : nameLen ((l.drop a).drop (numLen (l.drop a))) = 0) (h37 : ((l.drop a).drop (numLen (l.drop a))).head? = some 37) :
    Calls Tryd.prog 36 #[.string ⟨l.toArray⟩, .int .i64 (a : Int)] w (Nexts a (nextTok (l.drop a)).1 (nextTok (l.drop a)).2 w) := by
  have hle := numLen_le (l.drop a)
  rw [List.length_drop] at hle
  obtain ⟨E, hE⟩ : ∃ E, a + numLen (l.drop a) = E := ⟨_, rfl⟩
  have hq : (l.drop a).drop (numLen (l.drop a)) = l.drop E := by rw [List.drop_drop, hE]
  obtain ⟨p, hp⟩ : ∃ p, (l.drop a).take (E - a) = p := ⟨_, rfl⟩
  have hpl : p.length ≤ 1048576 := by rw [← hp]; simp; omega
  have hcut := str_cut l a E p hp (by omega) (by omega)
  have hpn : (l.drop a).take (numLen (l.drop a)) = p := by rw [← hp, ← hE]; congr 1; omega
  obtain ⟨n, hn⟩ : ∃ n, numVal p = n := ⟨_, rfl⟩
  have hgt : (a : Int) < (E : Int) := by omega
  have hEL : E ≤ l.length := by omega
  have HN0 := Lib.hid (fun w' => Name_specE l a a w' (by omega) (by omega) hl)
  have HN := Lib.hid (fun w' => Number_specE l a E w' hE (by omega) hl)
  have HRd := Lib.hid (fun w' => Read_specN p n w' hn hpl)
  rw [hq] at hu h37
  have hlt : E < l.length := by
    apply Classical.byContradiction
    intro hn'
    rw [List.drop_of_length_le (by omega)] at h37
    cases h37
  obtain ⟨L, eL⟩ : ∃ L, l.length = L := ⟨_, rfl⟩
  have hlen := fun (w' : World) (t : TypeId) => str_lenN l L eL w' t
  have hltI : (E : Int) < (L : Int) := by omega
  have hL1 : (L : Int) ≤ 1048576 := by omega
  have h37' : l[E]? = some 37 := by rw [List.head?_drop] at h37; exact h37
  have hat := str_atN l E 37 (by rw [h37']; rfl)
  have hcutu := str_cut l E (E + 1) [37] (by
    rw [show E + 1 - E = 1 by omega, List.drop_eq_getElem_cons hlt]
    have : l[E] = 37 := by rw [List.getElem?_eq_getElem hlt] at h37'; exact Option.some.inj h37'
    rw [this]; rfl) (by omega) (by omega)
  rw [show ((E + 1 : Nat) : Int) = (E : Int) + 1 by omega] at hcutu
  have HU := Lib.hid (fun w' => Name_specE l E E w' (by omega) (by omega) hl)
  have Hx := Lib.hid (show nextTok (l.drop a) = (⟨3, [37], n⟩, E + 1 - a) by
    have e1 : unitLen (l.drop E) = 1 := by unfold unitLen; rw [if_neg (by omega), if_pos h37]
    unfold nextTok
    rw [if_neg (by omega), if_pos h, hq, if_pos (by rw [e1]; decide), e1, hpn, hn, List.drop_eq_getElem_cons hlt]
    have : l[E] = 37 := by rw [List.getElem?_eq_getElem hlt] at h37'; exact Option.some.inj h37'
    rw [this]
    congr 1
    omega)
  have HE := Lib.hid (show ((a + (E + 1 - a) : Nat) : Int) = (E : Int) + 1 by omega)
  clear hq hp hpl hpn hn hE hle hu ha hl h0 h hEL h37 h37' hlt eL
  go_enter Tryd.func36, Tryd.ntmps36
  go_wp2_with (first | (go_at_call_of 53 ((a : Int)); refine (HN0.out _).mono ?_; rintro e w' ⟨rfl, rfl⟩) | (go_at_call 54; refine (HN.out _).mono ?_; rintro e w' ⟨rfl, rfl⟩) | (go_at_call 55; refine (HRd.out _).mono ?_; rintro e w' ⟨q, rfl, rfl⟩) | (go_at_call_of 53 ((E : Int)); refine (HU.out _).mono ?_; rintro e w' ⟨rfl, rfl⟩))
  exact bodyPost_ret (v := .tuple #[tokV ⟨3, [37], n⟩, .int .i64 ((E : Int) + 1)]) (by simp [results, Tryd.results36, go_sem, tokV]) rfl ⟨by rw [Hx.out]; dsimp only; rw [HE.out], (Below.refl _ _).alloc (Nat.le_refl _) _⟩

set_option maxHeartbeats 1000000 in
theorem Next_number (l : List UInt8) (a : Nat) (w : World) (ha : a < l.length) (hl : l.length ≤ 1048576) (h0 : nameLen (l.drop a) = 0) (h : 0 < numLen (l.drop a)) (hu : nameLen ((l.drop a).drop (numLen (l.drop a))) = 0) (h37 : ((l.drop a).drop (numLen (l.drop a))).head? ≠ some 37) :
    Calls Tryd.prog 36 #[.string ⟨l.toArray⟩, .int .i64 (a : Int)] w (Nexts a (nextTok (l.drop a)).1 (nextTok (l.drop a)).2 w) := by
  have hle := numLen_le (l.drop a)
  rw [List.length_drop] at hle
  obtain ⟨E, hE⟩ : ∃ E, a + numLen (l.drop a) = E := ⟨_, rfl⟩
  have hq : (l.drop a).drop (numLen (l.drop a)) = l.drop E := by rw [List.drop_drop, hE]
  obtain ⟨p, hp⟩ : ∃ p, (l.drop a).take (E - a) = p := ⟨_, rfl⟩
  have hpl : p.length ≤ 1048576 := by rw [← hp]; simp; omega
  have hcut := str_cut l a E p hp (by omega) (by omega)
  have hpn : (l.drop a).take (numLen (l.drop a)) = p := by rw [← hp, ← hE]; congr 1; omega
  obtain ⟨n, hn⟩ : ∃ n, numVal p = n := ⟨_, rfl⟩
  have hgt : (a : Int) < (E : Int) := by omega
  have hEL : E ≤ l.length := by omega
  have HN0 := Lib.hid (fun w' => Name_specE l a a w' (by omega) (by omega) hl)
  have HN := Lib.hid (fun w' => Number_specE l a E w' hE (by omega) hl)
  have HRd := Lib.hid (fun w' => Read_specN p n w' hn hpl)
  rw [hq] at hu h37
  obtain ⟨L, eL⟩ : ∃ L, l.length = L := ⟨_, rfl⟩
  have hlen := fun (w' : World) (t : TypeId) => str_lenN l L eL w' t
  have hL1 : (L : Int) ≤ 1048576 := by omega
  have HU := Lib.hid (fun w' => Name_specE l E E w' (by omega) (by omega) hl)
  have Hx := Lib.hid (show nextTok (l.drop a) = (⟨2, [], n⟩, E - a) by
    have e1 : unitLen (l.drop E) = 0 := by unfold unitLen; rw [if_neg (by omega), if_neg h37]
    unfold nextTok
    rw [if_neg (by omega), if_pos h, hq, if_neg (by rw [e1]; decide), hpn, hn]
    congr 1
    omega)
  have HE := Lib.hid (show a + (E - a) = E by omega)
  by_cases hlt : E < l.length
  · obtain ⟨b, hb⟩ : ∃ b, l[E]? = some b := ⟨_, List.getElem?_eq_getElem hlt⟩
    obtain ⟨c, ec⟩ : ∃ c, b.toNat = c := ⟨_, rfl⟩
    have hat := str_atN l E c (by rw [hb]; simp [ec])
    have hltI : (E : Int) < (L : Int) := by omega
    have hc37 : ((c : Int) == 37) = false := by
      rw [beq_eq_false_iff_ne]
      intro e
      have : b = 37 := eq_of_nat (n := 37) (by decide) (by omega)
      subst this
      rw [List.head?_drop] at h37
      exact h37 hb
    clear hq hp hpl hpn hn hE hle hu ha hl h0 h hEL h37 hlt eL hb ec
    go_enter Tryd.func36, Tryd.ntmps36
    go_wp2_with (first | (go_at_call_of 53 ((a : Int)); refine (HN0.out _).mono ?_; rintro e w' ⟨rfl, rfl⟩) | (go_at_call 54; refine (HN.out _).mono ?_; rintro e w' ⟨rfl, rfl⟩) | (go_at_call 55; refine (HRd.out _).mono ?_; rintro e w' ⟨q, rfl, rfl⟩) | (go_at_call_of 53 ((E : Int)); refine (HU.out _).mono ?_; rintro e w' ⟨rfl, rfl⟩))
    exact bodyPost_ret (v := .tuple #[tokV ⟨2, [], n⟩, .int .i64 (E : Int)]) (by simp [results, Tryd.results36, go_sem, tokV]) rfl ⟨by rw [Hx.out]; dsimp only; rw [HE.out], (Below.refl _ _).alloc (Nat.le_refl _) _⟩
  · have hltI : ¬ (E : Int) < (L : Int) := by omega
    clear hq hp hpl hpn hn hE hle hu ha hl h0 h hEL h37 hlt eL
    go_enter Tryd.func36, Tryd.ntmps36
    go_wp2_with (first | (go_at_call_of 53 ((a : Int)); refine (HN0.out _).mono ?_; rintro e w' ⟨rfl, rfl⟩) | (go_at_call 54; refine (HN.out _).mono ?_; rintro e w' ⟨rfl, rfl⟩) | (go_at_call 55; refine (HRd.out _).mono ?_; rintro e w' ⟨q, rfl, rfl⟩) | (go_at_call_of 53 ((E : Int)); refine (HU.out _).mono ?_; rintro e w' ⟨rfl, rfl⟩))
    exact bodyPost_ret (v := .tuple #[tokV ⟨2, [], n⟩, .int .i64 (E : Int)]) (by simp [results, Tryd.results36, go_sem, tokV]) rfl ⟨by rw [Hx.out]; dsimp only; rw [HE.out], (Below.refl _ _).alloc (Nat.le_refl _) _⟩

end Go.Proofs.YtniemiofffecjaaDoor.B5
