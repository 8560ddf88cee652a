/- Chapter 9: ShowNotes of the reference and of the program. -/
import Derived.Test.YtliihnkonakacaaGreatDoorShow9
import Derived.Test.YtliihnkonakacaaGreatDoorShelf
import Derived.Test.YtliihnkonakacaaGreatDoorImp6t
import Derived.Test.YtliihnkonakacaaGreatDoorImp8c
namespace Go.Proofs.YtliihnkonakacaaGreatDoor.B9
open Go.Proofs.YtliihnkonakacaaGreatDoor.P1 Go.Proofs.YtliihnkonakacaaGreatDoor.B1 Go.Proofs.YtliihnkonakacaaGreatDoor.B2 Go.Proofs.YtliihnkonakacaaGreatDoor.T1 Go.Proofs.YtliihnkonakacaaGreatDoor.BT Go.Proofs.YtliihnkonakacaaGreatDoor.P5 Go.Proofs.YtliihnkonakacaaGreatDoor.P6 Go.Proofs.YtliihnkonakacaaGreatDoor.P8 Go.Proofs.YtliihnkonakacaaGreatDoor.P9 Go.Proofs.YtliihnkonakacaaGreatDoor.B5 Go.Proofs.YtliihnkonakacaaGreatDoor.B6 Go.Proofs.YtliihnkonakacaaGreatDoor.V6 Go.Proofs.YtliihnkonakacaaGreatDoor.B8 Go.Proofs.YtliihnkonakacaaGreatDoor.D1 Go.Proofs.YtliihnkonakacaaGreatDoor.W8 Go.Proofs.YtliihnkonakacaaGreatDoor.RC Go.Proofs.YtliihnkonakacaaGreatDoor.RI
open Go.ChangeShapes Go.WideShapes Go.ChangeAt Go.RowKit
set_option linter.unusedVariables false

set_option maxRecDepth 20000 in
set_option maxHeartbeats 2000000 in
theorem ShowNotes_spec (ns : List No) (v : Value) (w : World) (h : NoSlc w v ns) (hs : ns.length ≤ 2000000) (hx : ∀ n ∈ ns, n.v.w.length ≤ 1048576) :
    Calls Tryz.prog 41 #[v] w (Ans (.string ⟨(showNotes ns).toArray⟩) w) := by
  have HA := Lib.hid (Notes_spec ns v w h hs hx)
  have HV := Lib.hid h
  obtain ⟨a, cap, rfl, _⟩ := h.form
  obtain ⟨n, hn⟩ : ∃ n, ns.length = n := ⟨_, rfl⟩
  rw [hn] at HA HV ⊢
  clear h hs hx hn
  cases ho : notesOk ns
  · have HE := Lib.hid (show showNotes ns = [] by unfold showNotes; rw [ho]; rfl)
    rw [ho] at HA
    clear ho
    go_enter Tryz.func41, Tryz.ntmps41
    go_wp2_with (go_at_call 84; refine HA.out.mono ?_; rintro e w1 ⟨rfl, g1⟩)
    go_ret
    exact ⟨by rw [HE.out]; rfl, g1⟩
  · have HE := Lib.hid (show showNotes ns = joinBy [59, 32] (ns.map showNote) by unfold showNotes; rw [ho]; rfl)
    have HS := Lib.hid (fun w' (hb : Below w.heap.size w w') => Show9_spec ns _ w' (HV.out.on hb) (notesOk_len ho).1 (notesOk_len ho).2)
    rw [ho] at HA
    clear ho
    go_enter Tryz.func41, Tryz.ntmps41
    go_wp2_with (first | (go_at_call 84; refine HA.out.mono ?_; rintro e w1 ⟨rfl, g1⟩) | (go_at_call 85; refine (HS.out _ g1).mono ?_; rintro e w2 ⟨rfl, g2⟩))
    go_ret
    exact ⟨by rw [HE.out]; rfl, g1.trans (g2.mono g1.size)⟩

/-- A note of the program's: its numbers fit. -/
def NoF (n : No) : Prop := (-9223372036854775808 ≤ n.l ∧ n.l ≤ 9223372036854775807) ∧ n.v.w.length ≤ 1048576

set_option maxRecDepth 20000 in
set_option maxHeartbeats 2000000 in
theorem allOk_notes (ns : List No) (v : Value) (w : World) (L : Pow w) (h : NoSlc w v ns) (hs : ns.length ≤ 2000000) (hx : ∀ n ∈ ns, NoF n) :
    Calls Tryz.prog 120 #[v, .func (.func 42) #[] #[]] w (Ans (.bool (ns.all noteOk)) w) := by
  obtain ⟨a, cap, rfl, hnc, hcap, HA⟩ := h.form
  obtain ⟨n, hn⟩ : ∃ n, ns.length = n := ⟨_, rfl⟩
  rw [hn] at hnc hs ⊢
  have HN := Lib.hid hn
  have hnc' : (n : Int) ≤ (cap : Int) := by omega
  have hs' : (n : Int) ≤ 2000000 := by omega
  have HX := Lib.hid hx
  have HP := Lib.hid L
  replace HA := Lib.hid HA
  clear h hn hcap hx L
  go_enter Tryz.func120, Tryz.ntmps120
  go_wp2_with fail
  go_loopg [9] n (fun kx s9 wr => ∃ i : Nat, s9 = .int .i64 (i : Int) ∧ kx + i = n ∧ Hid (∀ j x, j < i → ns[j]? = some x → noteOk x = true) ∧ Below w.heap.size w wr)
  case atStart => exact ⟨0, rfl, by omega, Lib.hid (fun j x h => absurd h (Nat.not_lt_zero _)), Below.refl _ _⟩
  case round =>
    obtain ⟨i, rfl, hk, I, hB⟩ := hrel
    by_cases hlt : i < n
    · have hlt' : (i : Int) < (n : Int) := by omega
      have i0' : (0 : Int) ≤ (i : Int) := by omega
      obtain ⟨x, hx⟩ : ∃ x, ns[i]? = some x := ⟨_, List.getElem?_eq_getElem (by rw [HN.out]; exact hlt)⟩
      obtain ⟨g, off, rfl, hat⟩ := HA.out (by intro e0; rw [e0] at hx; cases hx)
      have HLD := Lib.hid (no_load (hat.on hB) hx)
      obtain ⟨w2, hst, hl2, g2⟩ := no_laid wr x
      have HST := Lib.hid hst
      have hB2 := hB.trans (g2.mono hB.size)
      have HL2 := Lib.hid (show (loadVar 56 ⟨wr.heap.size, 0, none⟩).run Tryz.prog w2 = .ok (noV x) w2 from load_blk hl2 no_wide)
      have hf := HX.out x (List.mem_of_getElem? hx)
      have HO := Lib.hid (NoteOk_impl x hf.1 hf.2 w2 (HP.out.on hB2))
      have HXX := Lib.hid hx
      clear hx hat hst hl2 g2 hf
      cases hok : noteOk x
      · have HE := Lib.hid (show ns.all noteOk = false by
          rw [Bool.eq_false_iff]
          intro ha
          have := List.all_eq_true.1 ha x (List.mem_of_getElem? HXX.out)
          rw [hok] at this; cases this)
        rw [hok] at HO
        clear hok
        go_wp2_with (first | (go_at_call 42; refine HO.out.mono ?_; rintro e w3 ⟨rfl, g3⟩) | ((with_reducible refine wp_load_at HLD.out ?_ ?_); exact And.intro rfl (And.intro rfl rfl)) | ((with_reducible refine wp_load_at HL2.out ?_ ?_); exact And.intro rfl (And.intro rfl rfl)) | ((with_reducible refine wp_store_at HST.out ?_ ?_); exact And.intro rfl (And.intro rfl (And.intro rfl rfl))))
        go_ret
        exact ⟨by rw [HE.out]; rfl, hB2.trans (g3.mono hB2.size)⟩
      · have HI := Lib.hid (show ∀ j y, j < i + 1 → ns[j]? = some y → noteOk y = true from fun j y hj hy => by
          rcases Nat.lt_or_eq_of_le (Nat.le_of_lt_succ hj) with h | h
          · exact I.out j y h hy
          · rw [h, HXX.out] at hy; cases hy; exact hok)
        rw [hok] at HO
        clear hok
        go_wp2_with (first | (go_at_call 42; refine HO.out.mono ?_; rintro e w3 ⟨rfl, g3⟩) | ((with_reducible refine wp_load_at HLD.out ?_ ?_); exact And.intro rfl (And.intro rfl rfl)) | ((with_reducible refine wp_load_at HL2.out ?_ ?_); exact And.intro rfl (And.intro rfl rfl)) | ((with_reducible refine wp_store_at HST.out ?_ ?_); exact And.intro rfl (And.intro rfl (And.intro rfl rfl))))
        go_roundg (n - (i + 1))
        case measure => omega
        case rel => exact ⟨i + 1, by go_num, by omega, HI, hB2.trans (g3.mono hB2.size)⟩
    · have hlt' : ¬ (i : Int) < (n : Int) := by omega
      have HE := Lib.hid (show ns.all noteOk = true by
        rw [List.all_eq_true]
        intro x hx
        obtain ⟨j, hj, e⟩ := List.getElem_of_mem hx
        exact I.out j x (by rw [HN.out] at hj; omega) (by rw [List.getElem?_eq_getElem hj, e]))
      go_wp2_with fail
      go_ret
      exact ⟨by rw [HE.out]; rfl, hB⟩

set_option maxRecDepth 20000 in
set_option maxHeartbeats 2000000 in
theorem notesOk_impl (ns : List No) (v : Value) (w : World) (L : Pow w) (h : NoSlc w v ns) (hs : ns.length ≤ 2000000) (hx : ∀ n ∈ ns, NoF n) :
    Calls Tryz.prog 73 #[v] w (Ans (.bool (notesOk ns)) w) := by
  have HA := Lib.hid (allOk_notes ns v w L h hs hx)
  obtain ⟨a, cap, rfl, hnc, hcap, _⟩ := h.form
  obtain ⟨n, hn⟩ : ∃ n, ns.length = n := ⟨_, rfl⟩
  have hs' : (n : Int) ≤ 2000000 := by omega
  have HE := Lib.hid (show notesOk ns = (ns.all noteOk && decide (n ≤ 12)) by unfold notesOk; rw [hn])
  rw [hn] at HA ⊢
  generalize ns.all noteOk = A at HA HE
  clear h hn hcap hx L hnc hs
  by_cases h12 : n ≤ 12
  · have h12' : (n : Int) ≤ 12 := by omega
    have HD := Lib.hid (show notesOk ns = A by rw [HE.out, show decide (n ≤ 12) = true by simpa using h12, Bool.and_true])
    clear HE
    go_enter Tryz.func73, Tryz.ntmps73
    go_wp2_with (go_at_call 120; refine HA.out.mono ?_; rintro e w3 ⟨rfl, g3⟩)
    go_ret
    exact ⟨by rw [HD.out]; rfl, g3⟩
  · have h12' : ¬ (n : Int) ≤ 12 := by omega
    have HD := Lib.hid (show notesOk ns = false by rw [HE.out, show decide (n ≤ 12) = false by simpa using h12, Bool.and_false])
    clear HE
    go_enter Tryz.func73, Tryz.ntmps73
    go_wp2_with fail
    go_ret
    exact ⟨by rw [HD.out]; rfl, Below.refl _ _⟩

/-- A note of the call's own. -/
structure NtB (w : World) (b : Nat) (n : No) (W : World) : Prop where
  n : LBlk W b (noL n)
  b : Below w.heap.size w W

theorem NtB.call {w W W' : World} {b : Nat} {n : No} (h : NtB w b n W) (g : Below W.heap.size W W') : NtB w b n W' := ⟨h.n.below g, h.b.trans (g.mono h.b.size)⟩

set_option maxRecDepth 20000 in
set_option maxHeartbeats 2000000 in
theorem noteText_impl (x : No) (w : World) (L : Pow w) (hf : NoF x) (hxo : noteOk x = true) :
    Calls Tryz.prog 74 #[noV x] w (Ans (.string ⟨(showNote x).toArray⟩) w) := by
  have hnl : (plainN x).length ≤ 100 := by
    have h1 := name_len x.l
    have h2 := show_short (fits_ok hxo)
    unfold plainN
    simp only [List.length_append, List.length_cons]
    omega
  have hsn : showNote x = plainN x ++ strongT x.s := by simp [showNote, plainN]
  have HName := Lib.hid (fun w' => NameOf_impl x.l w' hf.1)
  have HShow := Lib.hid (fun w' (hb : Below w.heap.size w w') => ShowValue_impl x.v w' (L.on hb) hf.2)
  rw [show showValue x.v = showVal x.v by unfold showValue; rw [fits_ok hxo]; rfl] at HShow
  have hq0 : NtB w w.heap.size x (w.alloc (.cells #[.int .i64 x.l, .int .i64 x.v.k, .int .i64 x.v.n, .int .i64 x.v.r, .int .i64 x.v.g, .int .i64 x.v.b, .int .i64 x.v.c, .string ⟨x.v.w.toArray⟩, .bool x.s] 56)).drew := ⟨(no_new w x _).drew, ⟨rfl, rfl, rfl, by simp [World.drew], fun k hk => ((Below.refl w.heap.size w).alloc (Nat.le_refl _) _).block k hk⟩⟩
  obtain ⟨bx, ebx⟩ : ∃ q, w.heap.size = q := ⟨_, rfl⟩
  have p1 := str_addT (nameOf x.l) [58, 32] (colonN x) rfl (by have := name_len x.l; simp [colonN]; omega)
  have p2 := str_addT (colonN x) (showVal x.v) (plainN x) (by simp [colonN, plainN]) (by omega)
  have p3 := str_addT (plainN x) [32, 33, 115, 116, 114, 111, 110, 103] (plainN x ++ strongT true) rfl (by simp [strongT, strongN]; omega)
  have HSN := Lib.hid hsn
  rw [noV_is]
  clear hsn hf hxo L
  go_enter Tryz.func74, Tryz.ntmps74
  go_upto_region 1 with fail
  rw [ebx] at hq0
  refine RI.region_det (by kernel_rfl) [.pointer (some ⟨bx, 0, none⟩), .int .i64 x.l, .string ⟨(nameOf x.l).toArray⟩, .string ⟨(colonN x).toArray⟩, .pointer (some ⟨bx, 1, none⟩), valV x.v, .string ⟨(showVal x.v).toArray⟩, .string ⟨(plainN x).toArray⟩, .string ⟨(plainN x).toArray⟩] (fun W => NtB w bx x W) (none :: none :: none :: some 8 :: some 0 :: some 1 :: some 2 :: some 3 :: some 4 :: some 5 :: some 6 :: some 7 :: none :: none :: none :: none :: none :: []) (by kernel_rfl) (by kernel_rfl) (hq0) ?_ ?_
  · intro i hi A W hB hA
    have hi2 : i < 9 := hi
    have hcase : i = 0 ∨ i = 1 ∨ i = 2 ∨ i = 3 ∨ i = 4 ∨ i = 5 ∨ i = 6 ∨ i = 7 ∨ i = 8 := by omega
    clear hi hi2
    rcases hcase with rfl | rfl | rfl | rfl | rfl | rfl | rfl | rfl | rfl
    · have s1 : A.tmps[1]?.getD undef = .pointer (some ⟨bx, 0, none⟩) := (hA.st 1 (by kernel_rfl)).trans rfl
      exact wpOp_of rfl rfl (wp_value (v := .pointer (some ⟨bx, 0, none⟩)) (W' := W) (by simp [execOp, Act.eval, s1, go_sem]) ⟨rfl, hB⟩)
    · have s4 : A.tmps[4]?.getD undef = .pointer (some ⟨bx, 0, none⟩) := hA.on 0 4 (by kernel_rfl) (by kernel_rfl)
      have c0 := (no_cells hB.n).1
      exact wpOp_of rfl rfl (wp_value (v := .int .i64 x.l) (W' := W) (by simp [execOp, Act.eval, s4, go_sem, c0]) ⟨rfl, hB⟩)
    · have s5 : A.tmps[5]?.getD undef = .int .i64 x.l := hA.on 1 5 (by kernel_rfl) (by kernel_rfl)
      refine wpOp_of rfl rfl (wp_enter (f := 121) (args := #[.int .i64 x.l]) (by simp [execOp, Act.eval, s5, go_sem]) ?_)
      refine (HName.out W).mono ?_
      rintro e w' ⟨rfl, hb'⟩
      exact ⟨_, rfl, rfl, NtB.call hB hb'⟩
    · have s6 : A.tmps[6]?.getD undef = .string ⟨(nameOf x.l).toArray⟩ := hA.on 2 6 (by kernel_rfl) (by kernel_rfl)
      exact wpOp_of rfl rfl (wp_value (v := .string ⟨(colonN x).toArray⟩) (W' := W) (by simp [execOp, Act.eval, s6, go_sem, p1]) ⟨rfl, hB⟩)
    · have s1 : A.tmps[1]?.getD undef = .pointer (some ⟨bx, 0, none⟩) := (hA.st 1 (by kernel_rfl)).trans rfl
      exact wpOp_of rfl rfl (wp_value (v := .pointer (some ⟨bx, 1, none⟩)) (W' := W) (by simp [execOp, Act.eval, s1, go_sem]) ⟨rfl, hB⟩)
    · have s8 : A.tmps[8]?.getD undef = .pointer (some ⟨bx, 1, none⟩) := hA.on 4 8 (by kernel_rfl) (by kernel_rfl)
      exact wpOp_of rfl rfl (wp_value (v := valV x.v) (W' := W) (by exact exec_load rfl (by simpa [Act.eval] using s8) (no_val hB.n)) ⟨rfl, hB⟩)
    · have s9 : A.tmps[9]?.getD undef = valV x.v := hA.on 5 9 (by kernel_rfl) (by kernel_rfl)
      refine wpOp_of rfl rfl (wp_enter (f := 122) (args := #[valV x.v]) (by simp [execOp, Act.eval, s9, go_sem]) ?_)
      refine (HShow.out W hB.b).mono ?_
      rintro e w' ⟨rfl, hb'⟩
      exact ⟨_, rfl, rfl, NtB.call hB hb'⟩
    · have s7 : A.tmps[7]?.getD undef = .string ⟨(colonN x).toArray⟩ := hA.on 3 7 (by kernel_rfl) (by kernel_rfl)
      have s10 : A.tmps[10]?.getD undef = .string ⟨(showVal x.v).toArray⟩ := hA.on 6 10 (by kernel_rfl) (by kernel_rfl)
      exact wpOp_of rfl rfl (wp_value (v := .string ⟨(plainN x).toArray⟩) (W' := W) (by simp [execOp, Act.eval, s7, s10, go_sem, p2]) ⟨rfl, hB⟩)
    · have s11 : A.tmps[11]?.getD undef = .string ⟨(plainN x).toArray⟩ := hA.on 7 11 (by kernel_rfl) (by kernel_rfl)
      exact wpOp_of rfl rfl (wp_value (v := .string ⟨(plainN x).toArray⟩) (W' := W) (by simp [execOp, Act.eval, s11, go_sem]) ⟨rfl, hB⟩)
  intro wR hR
  simp only [RI.mergeL, List.getElem?_cons_zero, List.getElem?_cons_succ, Option.getD_some]
  have c8 := (no_cells hR.n).2
  clear hq0 HName HShow p1 p2
  cases hxs : x.s
  · rw [hxs] at c8
    have HF := Lib.hid (show showNote x = plainN x by rw [HSN.out, hxs]; simp [strongT])
    clear HSN hxs
    go_wp2_with fail
    go_ret
    exact ⟨by rw [HF.out]; rfl, hR.b⟩
  · rw [hxs] at c8
    have HF := Lib.hid (show showNote x = plainN x ++ strongT true by rw [HSN.out, hxs])
    clear HSN hxs
    go_wp2_with fail
    go_ret
    exact ⟨by rw [HF.out]; rfl, hR.b⟩

end Go.Proofs.YtliihnkonakacaaGreatDoor.B9
