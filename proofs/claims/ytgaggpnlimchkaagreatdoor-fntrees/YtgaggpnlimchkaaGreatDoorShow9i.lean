/- Chapter 9: ShowNotes of the reference and of the program. -/
import Derived.Test.YtgaggpnlimchkaaGreatDoorShow9
import Derived.Test.YtgaggpnlimchkaaGreatDoorShelf
import Derived.Test.YtgaggpnlimchkaaGreatDoorImp6t
import Derived.Test.YtgaggpnlimchkaaGreatDoorImp8
namespace Go.Proofs.YtgaggpnlimchkaaGreatDoor.B9
open Go.Proofs.YtgaggpnlimchkaaGreatDoor.P1 Go.Proofs.YtgaggpnlimchkaaGreatDoor.B1 Go.Proofs.YtgaggpnlimchkaaGreatDoor.B2 Go.Proofs.YtgaggpnlimchkaaGreatDoor.T1 Go.Proofs.YtgaggpnlimchkaaGreatDoor.BT Go.Proofs.YtgaggpnlimchkaaGreatDoor.P5 Go.Proofs.YtgaggpnlimchkaaGreatDoor.P6 Go.Proofs.YtgaggpnlimchkaaGreatDoor.P8 Go.Proofs.YtgaggpnlimchkaaGreatDoor.P9 Go.Proofs.YtgaggpnlimchkaaGreatDoor.B5 Go.Proofs.YtgaggpnlimchkaaGreatDoor.B6 Go.Proofs.YtgaggpnlimchkaaGreatDoor.V6 Go.Proofs.YtgaggpnlimchkaaGreatDoor.B8 Go.Proofs.YtgaggpnlimchkaaGreatDoor.D1 Go.Proofs.YtgaggpnlimchkaaGreatDoor.W8 Go.Proofs.YtgaggpnlimchkaaGreatDoor.RC Go.Proofs.YtgaggpnlimchkaaGreatDoor.RI
open Go.ChangeShapes Go.WideShapes Go.ChangeAt Go.RowKit
set_option linter.unusedVariables false

/-- A note of the program's: its numbers fit. -/
def NoF (n : No) : Prop := (-9223372036854775808 ≤ n.l ∧ n.l ≤ 9223372036854775807) ∧ n.v.w.length ≤ 1048576

set_option maxRecDepth 20000 in
set_option maxHeartbeats 2000000 in
theorem allOk_notes (ns : List No) (v : Value) (w : World) (L : Pow w) (h : NoSlc w v ns) (hs : ns.length ≤ 2000000) (hx : ∀ n ∈ ns, NoF n) :
    Calls Tryz.prog 118 #[v, .func (.func 119) #[] #[]] w (Ans (.bool (ns.all noteOk)) w) := by
  obtain ⟨a, cap, rfl, hnc, hcap, HA⟩ := h.form
  obtain ⟨n, hn⟩ : ∃ n, ns.length = n := ⟨_, rfl⟩
  rw [hn] at hnc hs ⊢
  have HN := Lib.hid hn
  have hnc' : (n : Int) ≤ (cap : Int) := by omega
  have hs' : (n : Int) ≤ 2000000 := by omega
  have HX := Lib.hid hx
  have HP := Lib.hid L
  replace HA := Lib.hid HA
  clear h hn hcap hx L
  go_enter Tryz.func118, Tryz.ntmps118
  go_wp2_with fail
  go_loopg [9] n (fun kx s9 wr => ∃ i : Nat, s9 = .int .i64 (i : Int) ∧ kx + i = n ∧ Hid (∀ j x, j < i → ns[j]? = some x → noteOk x = true) ∧ Below w.heap.size w wr)
  case atStart => exact ⟨0, rfl, by omega, Lib.hid (fun j x h => absurd h (Nat.not_lt_zero _)), Below.refl _ _⟩
  case round =>
    obtain ⟨i, rfl, hk, I, hB⟩ := hrel
    by_cases hlt : i < n
    · have hlt' : (i : Int) < (n : Int) := by omega
      have i0' : (0 : Int) ≤ (i : Int) := by omega
      obtain ⟨x, hx⟩ : ∃ x, ns[i]? = some x := ⟨_, List.getElem?_eq_getElem (by rw [HN.out]; exact hlt)⟩
      obtain ⟨g, off, rfl, hat⟩ := HA.out (by intro e0; rw [e0] at hx; cases hx)
      have HLD := Lib.hid (no_load (hat.on hB) hx)
      obtain ⟨w2, hst, hl2, g2⟩ := no_laid wr x
      have HST := Lib.hid hst
      have hB2 := hB.trans (g2.mono hB.size)
      have HL2 := Lib.hid (show (loadVar 107 ⟨wr.heap.size, 0, none⟩).run Tryz.prog w2 = .ok (noV x) w2 from load_blk hl2 no_wide)
      have hf := HX.out x (List.mem_of_getElem? hx)
      have HO := Lib.hid (NoteOk_impl x hf.1 hf.2 w2 (HP.out.on hB2))
      have HXX := Lib.hid hx
      clear hx hat hst hl2 g2 hf
      cases hok : noteOk x
      · have HE := Lib.hid (show ns.all noteOk = false by
          rw [Bool.eq_false_iff]
          intro ha
          have := List.all_eq_true.1 ha x (List.mem_of_getElem? HXX.out)
          rw [hok] at this; cases this)
        rw [hok] at HO
        clear hok
        go_wp2_with (first | (go_at_call 119; refine HO.out.mono ?_; rintro e w3 ⟨rfl, g3⟩) | ((with_reducible refine wp_load_at HLD.out ?_ ?_); exact And.intro rfl (And.intro rfl rfl)) | ((with_reducible refine wp_load_at HL2.out ?_ ?_); exact And.intro rfl (And.intro rfl rfl)) | ((with_reducible refine wp_store_at HST.out ?_ ?_); exact And.intro rfl (And.intro rfl (And.intro rfl rfl))))
        go_ret
        exact ⟨by rw [HE.out]; rfl, hB2.trans (g3.mono hB2.size)⟩
      · have HI := Lib.hid (show ∀ j y, j < i + 1 → ns[j]? = some y → noteOk y = true from fun j y hj hy => by
          rcases Nat.lt_or_eq_of_le (Nat.le_of_lt_succ hj) with h | h
          · exact I.out j y h hy
          · rw [h, HXX.out] at hy; cases hy; exact hok)
        rw [hok] at HO
        clear hok
        go_wp2_with (first | (go_at_call 119; refine HO.out.mono ?_; rintro e w3 ⟨rfl, g3⟩) | ((with_reducible refine wp_load_at HLD.out ?_ ?_); exact And.intro rfl (And.intro rfl rfl)) | ((with_reducible refine wp_load_at HL2.out ?_ ?_); exact And.intro rfl (And.intro rfl rfl)) | ((with_reducible refine wp_store_at HST.out ?_ ?_); exact And.intro rfl (And.intro rfl (And.intro rfl rfl))))
        go_roundg (n - (i + 1))
        case measure => omega
        case rel => exact ⟨i + 1, by go_num, by omega, HI, hB2.trans (g3.mono hB2.size)⟩
    · have hlt' : ¬ (i : Int) < (n : Int) := by omega
      have HE := Lib.hid (show ns.all noteOk = true by
        rw [List.all_eq_true]
        intro x hx
        obtain ⟨j, hj, e⟩ := List.getElem_of_mem hx
        exact I.out j x (by rw [HN.out] at hj; omega) (by rw [List.getElem?_eq_getElem hj, e]))
      go_wp2_with fail
      go_ret
      exact ⟨by rw [HE.out]; rfl, hB⟩

set_option maxRecDepth 20000 in
set_option maxHeartbeats 2000000 in
theorem notesOk_impl (ns : List No) (v : Value) (w : World) (L : Pow w) (h : NoSlc w v ns) (hs : ns.length ≤ 2000000) (hx : ∀ n ∈ ns, NoF n) :
    Calls Tryz.prog 105 #[v] w (Ans (.bool (notesOk ns)) w) := by
  have HA := Lib.hid (allOk_notes ns v w L h hs hx)
  obtain ⟨a, cap, rfl, hnc, hcap, _⟩ := h.form
  obtain ⟨n, hn⟩ : ∃ n, ns.length = n := ⟨_, rfl⟩
  have hs' : (n : Int) ≤ 2000000 := by omega
  have HE := Lib.hid (show notesOk ns = (ns.all noteOk && decide (n ≤ 12)) by unfold notesOk; rw [hn])
  rw [hn] at HA ⊢
  generalize ns.all noteOk = A at HA HE
  clear h hn hcap hx L hnc hs
  by_cases h12 : n ≤ 12
  · have h12' : (n : Int) ≤ 12 := by omega
    have HD := Lib.hid (show notesOk ns = A by rw [HE.out, show decide (n ≤ 12) = true by simpa using h12, Bool.and_true])
    clear HE
    go_enter Tryz.func105, Tryz.ntmps105
    go_wp2_with (go_at_call 118; refine HA.out.mono ?_; rintro e w3 ⟨rfl, g3⟩)
    go_ret
    exact ⟨by rw [HD.out]; rfl, g3⟩
  · have h12' : ¬ (n : Int) ≤ 12 := by omega
    have HD := Lib.hid (show notesOk ns = false by rw [HE.out, show decide (n ≤ 12) = false by simpa using h12, Bool.and_false])
    clear HE
    go_enter Tryz.func105, Tryz.ntmps105
    go_wp2_with fail
    go_ret
    exact ⟨by rw [HD.out]; rfl, Below.refl _ _⟩

/-- A note of the call's own. -/
structure NtB (w : World) (b : Nat) (n : No) (W : World) : Prop where
  n : LBlk W b (noL n)
  b : Below w.heap.size w W

theorem NtB.call {w W W' : World} {b : Nat} {n : No} (h : NtB w b n W) (g : Below W.heap.size W W') : NtB w b n W' := ⟨h.n.below g, h.b.trans (g.mono h.b.size)⟩

end Go.Proofs.YtgaggpnlimchkaaGreatDoor.B9
