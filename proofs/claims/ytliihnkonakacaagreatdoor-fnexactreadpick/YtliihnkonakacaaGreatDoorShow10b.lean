/- Chapter 10 of the program: partText, ShowPick. -/
import Derived.Test.YtliihnkonakacaaGreatDoorShow10
import Derived.Test.YtliihnkonakacaaGreatDoorImp10c
import Derived.Test.YtliihnkonakacaaGreatDoorFree10
namespace Go.Proofs.YtliihnkonakacaaGreatDoor.B10
open Go.Proofs.YtliihnkonakacaaGreatDoor.P1 Go.Proofs.YtliihnkonakacaaGreatDoor.B1 Go.Proofs.YtliihnkonakacaaGreatDoor.B2 Go.Proofs.YtliihnkonakacaaGreatDoor.T1 Go.Proofs.YtliihnkonakacaaGreatDoor.BT Go.Proofs.YtliihnkonakacaaGreatDoor.P5 Go.Proofs.YtliihnkonakacaaGreatDoor.B5 Go.Proofs.YtliihnkonakacaaGreatDoor.P6 Go.Proofs.YtliihnkonakacaaGreatDoor.B6 Go.Proofs.YtliihnkonakacaaGreatDoor.V6 Go.Proofs.YtliihnkonakacaaGreatDoor.D1 Go.Proofs.YtliihnkonakacaaGreatDoor.W8 Go.Proofs.YtliihnkonakacaaGreatDoor.RC Go.Proofs.YtliihnkonakacaaGreatDoor.RI Go.Proofs.YtliihnkonakacaaGreatDoor.P10
open Go.ChangeShapes Go.WideShapes Go.ChangeAt Go.RowKit
set_option linter.unusedVariables false

theorem one_text {w : World} {b : Nat} {s : List UInt8} (h : LBlk w b [.string ⟨s.toArray⟩]) : StrSlc w (.slice (some ⟨b, 0, none⟩) 1 1) [s] :=
  ⟨_, 1, rfl, Nat.le_refl _, by decide, fun _ => ⟨b, 0, rfl, at_of_blk (rs := strRs [s]) h (strRs_one [s])⟩⟩

set_option maxRecDepth 20000 in
set_option maxHeartbeats 4000000 in
theorem partText_impl (x : Pv) (w : World) (h : Held w x) (hok : partOk x.p = true) :
    Calls Tryz.prog 46 #[ptV x] w (Ans (.string ⟨(partText x.p).toArray⟩) w) := by
  obtain ⟨l1, l2, l3, l4⟩ := part_lens hok
  have hlp := partText_len hok
  obtain ⟨⟨tag, id, bs, near⟩, u⟩ := x
  dsimp only at l1 l2 l3 l4
  have HH := Lib.hid (show StrSlc w u bs from h)
  obtain ⟨ab, cb, eu, hc1, hc2⟩ := held_form h
  dsimp only at eu hc1
  subst eu
  have hl0 := pt_new w ⟨⟨tag, id, bs, near⟩, .slice ab bs.length cb⟩ 37
  have hB0 : Below w.heap.size w (w.alloc (.cells #[.string ⟨tag.toArray⟩, .string ⟨id.toArray⟩, .slice ab bs.length cb, .bool near] 37)) := (Below.refl _ _).alloc (Nat.le_refl _) _
  have hid1 : (told [id]).length ≤ 1 := List.length_filter_le _ _
  have hid2 : ∀ s ∈ told [id], s.length ≤ 8 := fun s hs => by
    have := (List.mem_filter.1 hs).1
    simp at this
    subst this; exact l2
  have hm1 := marked_len (m := 61) hid2
  have hm2 := marked_len (m := 46) l4
  obtain ⟨ki, eki⟩ : ∃ k, (told [id]).length = k := ⟨_, rfl⟩
  have HKI := Lib.hid eki
  have HE1 := Lib.hid (fun (W : World) (v : Value) (hv : StrSlc W v (told [id])) => eachBehind_impl 61 (told [id]) v W hv (by omega) (by omega))
  have HE2 := Lib.hid (fun (W : World) (hb : Below w.heap.size w W) => eachBehind_impl 46 bs _ W (HH.out.on hb) (by omega) (by omega))
  have hpt : partText ⟨tag, id, bs, near⟩ = tag ++ marked10 61 (told [id]) ++ marked10 46 bs := rfl
  obtain ⟨m1, em1⟩ : ∃ m, marked10 61 (told [id]) = m := ⟨_, rfl⟩
  obtain ⟨m2, em2⟩ : ∃ m, marked10 46 bs = m := ⟨_, rfl⟩
  rw [em1] at HE1 hpt hm1
  rw [em2] at HE2 hpt hm2
  obtain ⟨s1, es1⟩ : ∃ s, s = tag ++ m1 := ⟨_, rfl⟩
  obtain ⟨s2, es2⟩ : ∃ s, s = s1 ++ m2 := ⟨_, rfl⟩
  have HP := Lib.hid (show s2 = partText ⟨tag, id, bs, near⟩ by rw [hpt, es2, es1])
  have hs2 : s2.length ≤ 100 := by rw [HP.out]; exact Nat.le_trans hlp (by decide)
  have hs1 : s1.length ≤ 100 := by rw [es2, List.length_append] at hs2; omega
  have p1 := fun w' => str_addZ (w := w') es1 (by omega)
  have p2 := fun w' => str_addZ (w := w') es2 (by omega)
  have HLB := Lib.hid hl0
  unfold ptL at HLB
  dsimp only at HLB
  rw [ptV_is]
  dsimp only
  generalize bs.length = nb at *
  obtain ⟨w1, ew1⟩ : ∃ w1, w.alloc (.cells #[.string ⟨tag.toArray⟩, .string ⟨id.toArray⟩, .slice ab nb cb, .bool near] 37) = w1 := ⟨_, rfl⟩
  obtain ⟨bp, ebp⟩ : ∃ bp, w.heap.size = bp := ⟨_, rfl⟩
  clear h hc1 hc2 hl0 hid1 hid2 hm1 hm2 eki em1 em2 es1 es2 hs1 hs2 hpt hlp l1 l2 l3 l4
  go_enter Tryz.func46, Tryz.ntmps46
  go_upto_region 1 with fail
  try rw [ew1]
  try rw [ebp]
  rw [ew1] at HLB hB0
  have hB0' : Below bp w w1 := by rw [← ebp]; exact hB0
  rw [ebp] at HLB
  clear ew1
  have hkeep : ∀ (W w' : World), Below W.heap.size W w' → ∀ (i : Nat) (v : Value), i < 13 → (fun (j : Nat) (v : Value) (W : World) => match j with | 0 => (v = .pointer (some ⟨bp, 0, none⟩)) | 1 => (v = .string ⟨tag.toArray⟩) | 2 => (v = .pointer (some ⟨bp, 1, none⟩)) | 3 => (v = .string ⟨id.toArray⟩) | 4 => (∃ b, v = .slice (some ⟨b, 0, none⟩) 1 1 ∧ (LBlk W b [.string ⟨id.toArray⟩])) | 5 => (∃ a c, v = .slice a ki c ∧ (StrSlc W (.slice a ki c) (told [id]))) | 6 => (v = .string ⟨m1.toArray⟩) | 7 => (v = .string ⟨s1.toArray⟩) | 8 => (v = .pointer (some ⟨bp, 2, none⟩)) | 9 => (v = .slice ab nb cb) | 10 => (v = .string ⟨m2.toArray⟩) | 11 => (v = .string ⟨s2.toArray⟩) | 12 => (v = .string ⟨s2.toArray⟩) | _ => True) i v W → (fun (j : Nat) (v : Value) (W : World) => match j with | 0 => (v = .pointer (some ⟨bp, 0, none⟩)) | 1 => (v = .string ⟨tag.toArray⟩) | 2 => (v = .pointer (some ⟨bp, 1, none⟩)) | 3 => (v = .string ⟨id.toArray⟩) | 4 => (∃ b, v = .slice (some ⟨b, 0, none⟩) 1 1 ∧ (LBlk W b [.string ⟨id.toArray⟩])) | 5 => (∃ a c, v = .slice a ki c ∧ (StrSlc W (.slice a ki c) (told [id]))) | 6 => (v = .string ⟨m1.toArray⟩) | 7 => (v = .string ⟨s1.toArray⟩) | 8 => (v = .pointer (some ⟨bp, 2, none⟩)) | 9 => (v = .slice ab nb cb) | 10 => (v = .string ⟨m2.toArray⟩) | 11 => (v = .string ⟨s2.toArray⟩) | 12 => (v = .string ⟨s2.toArray⟩) | _ => True) i v w' := by
    intro W w' hb' i v hi h
    have hcase : i = 0 ∨ i = 1 ∨ i = 2 ∨ i = 3 ∨ i = 4 ∨ i = 5 ∨ i = 6 ∨ i = 7 ∨ i = 8 ∨ i = 9 ∨ i = 10 ∨ i = 11 ∨ i = 12 := by omega
    clear hi
    rcases hcase with rfl | rfl | rfl | rfl | rfl | rfl | rfl | rfl | rfl | rfl | rfl | rfl | rfl
    · exact h
    · exact h
    · exact h
    · exact h
    · obtain ⟨b, e, hx⟩ := h; exact ⟨b, e, hx.below hb'⟩
    · obtain ⟨a, c, e, hx⟩ := h; exact ⟨a, c, e, StrSlc.on hx hb'⟩
    · exact h
    · exact h
    · exact h
    · exact h
    · exact h
    · exact h
    · exact h
  refine region_free2 (by kernel_rfl) (fun (j : Nat) (v : Value) (W : World) => match j with | 0 => (v = .pointer (some ⟨bp, 0, none⟩)) | 1 => (v = .string ⟨tag.toArray⟩) | 2 => (v = .pointer (some ⟨bp, 1, none⟩)) | 3 => (v = .string ⟨id.toArray⟩) | 4 => (∃ b, v = .slice (some ⟨b, 0, none⟩) 1 1 ∧ (LBlk W b [.string ⟨id.toArray⟩])) | 5 => (∃ a c, v = .slice a ki c ∧ (StrSlc W (.slice a ki c) (told [id]))) | 6 => (v = .string ⟨m1.toArray⟩) | 7 => (v = .string ⟨s1.toArray⟩) | 8 => (v = .pointer (some ⟨bp, 2, none⟩)) | 9 => (v = .slice ab nb cb) | 10 => (v = .string ⟨m2.toArray⟩) | 11 => (v = .string ⟨s2.toArray⟩) | 12 => (v = .string ⟨s2.toArray⟩) | _ => True) (fun W => Below w1.heap.size w1 W) (none :: none :: some 12 :: some 0 :: some 1 :: some 2 :: some 3 :: some 4 :: some 5 :: some 6 :: some 7 :: some 8 :: some 9 :: some 10 :: some 11 :: []) (by kernel_rfl) (by kernel_rfl) (⟨rfl, rfl, rfl, Nat.le_refl _, fun _ _ => rfl⟩) ?_ ?_
  · intro i hi A W hB hst hun hA
    have hi2 : i < 13 := hi
    have hcase : i = 0 ∨ i = 1 ∨ i = 2 ∨ i = 3 ∨ i = 4 ∨ i = 5 ∨ i = 6 ∨ i = 7 ∨ i = 8 ∨ i = 9 ∨ i = 10 ∨ i = 11 ∨ i = 12 := by omega
    clear hi hi2
    rcases hcase with rfl | rfl | rfl | rfl | rfl | rfl | rfl | rfl | rfl | rfl | rfl | rfl | rfl
    · have s1 : A.tmps[1]?.getD undef = .pointer (some ⟨bp, 0, none⟩) := (hst 1 (by kernel_rfl)).trans rfl
      exact wpOp_of rfl rfl (wp_value (v := .pointer (some ⟨bp, 0, none⟩)) (W' := W) (by simp [execOp, Act.eval, s1, go_sem]) ⟨_, rfl, hB, rfl, fun _ _ _ h => h⟩)
    · have s3 : A.tmps[3]?.getD undef = .pointer (some ⟨bp, 0, none⟩) := hA 0 3 (by kernel_rfl) (by kernel_rfl)
      have cW := ((HLB.out.below hB).2 0 _ rfl).1
      exact wpOp_of rfl rfl (wp_value (v := .string ⟨tag.toArray⟩) (W' := W) (by simp [execOp, Act.eval, s3, go_sem, cW]) ⟨_, rfl, hB, rfl, fun _ _ _ h => h⟩)
    · have s1 : A.tmps[1]?.getD undef = .pointer (some ⟨bp, 0, none⟩) := (hst 1 (by kernel_rfl)).trans rfl
      exact wpOp_of rfl rfl (wp_value (v := .pointer (some ⟨bp, 1, none⟩)) (W' := W) (by simp [execOp, Act.eval, s1, go_sem]) ⟨_, rfl, hB, rfl, fun _ _ _ h => h⟩)
    · have s5 : A.tmps[5]?.getD undef = .pointer (some ⟨bp, 1, none⟩) := hA 2 5 (by kernel_rfl) (by kernel_rfl)
      have cW := ((HLB.out.below hB).2 1 _ rfl).1
      exact wpOp_of rfl rfl (wp_value (v := .string ⟨id.toArray⟩) (W' := W) (by simp [execOp, Act.eval, s5, go_sem, cW]) ⟨_, rfl, hB, rfl, fun _ _ _ h => h⟩)
    · have s6 : A.tmps[6]?.getD undef = .string ⟨id.toArray⟩ := hA 3 6 (by kernel_rfl) (by kernel_rfl)
      have hb' : Below W.heap.size W (W.alloc (.cells #[.string ⟨id.toArray⟩] 9)) := (Below.refl _ _).alloc (Nat.le_refl _) _
      refine wpOp_of rfl rfl (wp_value (v := .slice (some ⟨W.heap.size, 0, none⟩) 1 1) (W' := W.alloc (.cells #[.string ⟨id.toArray⟩] 9)) ?_ ⟨_, rfl, hB.trans (hb'.mono hB.size), ⟨W.heap.size, rfl, LBlk.new W [.string ⟨id.toArray⟩] _⟩, hkeep W _ hb'⟩)
      simp [execOp, Act.eval, s6, go_sem]
    · obtain ⟨b, s7, h7⟩ : ∃ b, A.tmps[7]?.getD undef = .slice (some ⟨b, 0, none⟩) 1 1 ∧ (LBlk W b [.string ⟨id.toArray⟩]) := hA 4 7 (by kernel_rfl) (by kernel_rfl)
      refine wpOp_of rfl rfl (wp_enter (f := 61) (args := #[.slice (some ⟨b, 0, none⟩) 1 1]) (by simp [execOp, Act.eval, s7, go_sem]) ?_)
      refine (told_impl [id] _ W (one_text h7) (by simp)).mono ?_
      rintro e w' ⟨r, rfl, hr, hb'⟩
      exact ⟨_, rfl, _, rfl, hB.trans (hb'.mono hB.size), (by obtain ⟨a4, c4, e4⟩ := words_shape hr; rw [HKI.out] at e4; exact ⟨a4, c4, e4, by rw [← e4]; exact Words.slc hr⟩), hkeep W _ hb'⟩
    · obtain ⟨a, c, s8, h8⟩ : ∃ a c, A.tmps[8]?.getD undef = .slice a ki c ∧ (StrSlc W (.slice a ki c) (told [id])) := hA 5 8 (by kernel_rfl) (by kernel_rfl)
      refine wpOp_of rfl rfl (wp_enter (f := 90) (args := #[.string { data := #[61] }, .slice a ki c]) (by simp [execOp, Act.eval, s8, go_sem]) ?_)
      refine (HE1.out W _ h8).mono ?_
      rintro e w' ⟨rfl, hb'⟩
      exact ⟨_, rfl, _, rfl, hB.trans (hb'.mono hB.size), rfl, hkeep W _ hb'⟩
    · have s4 : A.tmps[4]?.getD undef = .string ⟨tag.toArray⟩ := hA 1 4 (by kernel_rfl) (by kernel_rfl)
      have s9 : A.tmps[9]?.getD undef = .string ⟨m1.toArray⟩ := hA 6 9 (by kernel_rfl) (by kernel_rfl)
      exact wpOp_of rfl rfl (wp_value (v := .string ⟨s1.toArray⟩) (W' := W) (by simp [execOp, Act.eval, s4, s9, go_sem, p1]) ⟨_, rfl, hB, rfl, fun _ _ _ h => h⟩)
    · have s1 : A.tmps[1]?.getD undef = .pointer (some ⟨bp, 0, none⟩) := (hst 1 (by kernel_rfl)).trans rfl
      exact wpOp_of rfl rfl (wp_value (v := .pointer (some ⟨bp, 2, none⟩)) (W' := W) (by simp [execOp, Act.eval, s1, go_sem]) ⟨_, rfl, hB, rfl, fun _ _ _ h => h⟩)
    · have s11 : A.tmps[11]?.getD undef = .pointer (some ⟨bp, 2, none⟩) := hA 8 11 (by kernel_rfl) (by kernel_rfl)
      have cW := ((HLB.out.below hB).2 2 _ rfl).1
      exact wpOp_of rfl rfl (wp_value (v := .slice ab nb cb) (W' := W) (by simp [execOp, Act.eval, s11, go_sem, cW]) ⟨_, rfl, hB, rfl, fun _ _ _ h => h⟩)
    · have s12 : A.tmps[12]?.getD undef = .slice ab nb cb := hA 9 12 (by kernel_rfl) (by kernel_rfl)
      refine wpOp_of rfl rfl (wp_enter (f := 90) (args := #[.string { data := #[46] }, .slice ab nb cb]) (by simp [execOp, Act.eval, s12, go_sem]) ?_)
      refine (HE2.out W (hB0.trans (hB.mono hB0.size))).mono ?_
      rintro e w' ⟨rfl, hb'⟩
      exact ⟨_, rfl, _, rfl, hB.trans (hb'.mono hB.size), rfl, hkeep W _ hb'⟩
    · have s10 : A.tmps[10]?.getD undef = .string ⟨s1.toArray⟩ := hA 7 10 (by kernel_rfl) (by kernel_rfl)
      have s13 : A.tmps[13]?.getD undef = .string ⟨m2.toArray⟩ := hA 10 13 (by kernel_rfl) (by kernel_rfl)
      exact wpOp_of rfl rfl (wp_value (v := .string ⟨s2.toArray⟩) (W' := W) (by simp [execOp, Act.eval, s10, s13, go_sem, p2]) ⟨_, rfl, hB, rfl, fun _ _ _ h => h⟩)
    · have s14 : A.tmps[14]?.getD undef = .string ⟨s2.toArray⟩ := hA 11 14 (by kernel_rfl) (by kernel_rfl)
      exact wpOp_of rfl rfl (wp_value (v := .string ⟨s2.toArray⟩) (W' := W) (by simp [execOp, Act.eval, s14, go_sem]) ⟨_, rfl, hB, rfl, fun _ _ _ h => h⟩)
  intro wR vs hR hfs
  have e0 : vs[0]?.getD undef = .pointer (some ⟨bp, 0, none⟩) := hfs 0 3 (by kernel_rfl)
  have e1 : vs[1]?.getD undef = .string ⟨tag.toArray⟩ := hfs 1 4 (by kernel_rfl)
  have e2 : vs[2]?.getD undef = .pointer (some ⟨bp, 1, none⟩) := hfs 2 5 (by kernel_rfl)
  have e3 : vs[3]?.getD undef = .string ⟨id.toArray⟩ := hfs 3 6 (by kernel_rfl)
  obtain ⟨b4, e4, f4⟩ : ∃ b, vs[4]?.getD undef = .slice (some ⟨b, 0, none⟩) 1 1 ∧ (LBlk wR b [.string ⟨id.toArray⟩]) := hfs 4 7 (by kernel_rfl)
  obtain ⟨a5, c5, e5, f5⟩ : ∃ a c, vs[5]?.getD undef = .slice a ki c ∧ (StrSlc wR (.slice a ki c) (told [id])) := hfs 5 8 (by kernel_rfl)
  have e6 : vs[6]?.getD undef = .string ⟨m1.toArray⟩ := hfs 6 9 (by kernel_rfl)
  have e7 : vs[7]?.getD undef = .string ⟨s1.toArray⟩ := hfs 7 10 (by kernel_rfl)
  have e8 : vs[8]?.getD undef = .pointer (some ⟨bp, 2, none⟩) := hfs 8 11 (by kernel_rfl)
  have e9 : vs[9]?.getD undef = .slice ab nb cb := hfs 9 12 (by kernel_rfl)
  have e10 : vs[10]?.getD undef = .string ⟨m2.toArray⟩ := hfs 10 13 (by kernel_rfl)
  have e11 : vs[11]?.getD undef = .string ⟨s2.toArray⟩ := hfs 11 14 (by kernel_rfl)
  have e12 : vs[12]?.getD undef = .string ⟨s2.toArray⟩ := hfs 12 2 (by kernel_rfl)
  simp only [RI.mergeL, e0, e1, e2, e3, e4, e5, e6, e7, e8, e9, e10, e11, e12]
  clear hfs hkeep e0 e1 e2 e3 e4 e5 e6 e7 e8 e9 e10 e11 e12
  have hB3 := hB0.trans (hR.mono hB0.size)
  clear HLB HE1 HE2 p1 p2 HH
  go_wp2_with fail
  go_ret
  exact ⟨by rw [← HP.out]; rfl, hB3⟩

theorem joinBy_isJ (b : List UInt8) : ∀ (xs : List (List UInt8)), Lib.join xs b = P9.joinBy b xs
  | [] => rfl
  | [x] => Lib.join_one _ _
  | x :: z :: r => by
    have ih := joinBy_isJ b (z :: r)
    rw [Lib.join_cons] at ih ⊢
    show x ++ ((z :: r).map (b ++ ·)).flatten = x ++ b ++ P9.joinBy b (z :: r)
    rw [← ih]
    simp [Lib.joinTail, List.append_assoc]

/-- strings.Join with a blank, over a row of texts of the call's own. -/
theorem join10_own (ls : List (List UInt8)) (v : Value) (B : Nat) (w : World) (h : Words w v B ls) (hs : ls.length ≤ 100) (hne : ls ≠ []) (hlen : (P9.joinBy [32] ls).length ≤ 1000) :
    Calls Tryz.prog 47 #[v, .string ⟨#[32]⟩] w (Ans (.string ⟨(P9.joinBy [32] ls).toArray⟩) w) := by
  obtain ⟨a, cap, rfl, h1, h2, h3⟩ := (Words.slc h).form
  obtain ⟨g, off, rfl, hat⟩ := h3 hne
  have e1 : (ls.map fun l => (⟨l.toArray⟩ : ByteArray)).map (·.data.toList) = ls := by simp [Function.comp_def]
  have e2 : (ls.map fun l => (⟨l.toArray⟩ : ByteArray)).length = ls.length := by simp
  rw [← joinBy_isJ] at hlen ⊢
  have h := Tryz.strings_Join g off cap (ls.map fun l => (⟨l.toArray⟩ : ByteArray)) ⟨#[32]⟩ w (fun k x hx => by
      rw [List.getElem?_map] at hx
      cases hl : ls[k]? with
      | none => rw [hl] at hx; cases hx
      | some l =>
        rw [hl] at hx
        cases hx
        exact str_cell hat hl) hat.lt (by rw [e2]; omega) (by rw [e2]; exact h1) (by rw [e1]; exact Nat.le_trans hlen (by decide))
  rw [e1, e2] at h
  exact h

theorem LBlk.grown {w w' : World} {b : Nat} {vs : List Value} {row : Option Nat} (h : LBlk w b vs) (hg : w.grownBy w' row) (hne : some b ≠ row) : LBlk w' b vs := by
  have ho : Only ((row.getD (b + 1))) w w' := ⟨hg.os, hg.tape, hg.output, hg.size, fun k hk hl => hg.block k hl (by
    intro e
    rw [← e] at hk
    exact hk rfl)⟩
  refine h.only ho ?_
  cases row with
  | none => simp
  | some g => intro e; exact hne (by rw [e]; rfl)

theorem own_low {w : World} {B e size k : Nat} {v : Value} {xs : List Value} (h : w.ownsRow B e size v k xs) {b : Nat} (hb : w.heap.size ≤ b) : some b ≠ v.ownBlock := by
  intro e'
  have := (World.ownsRow.lt h b e'.symm).2
  omega

set_option maxRecDepth 20000 in
set_option maxHeartbeats 8000000 in
theorem ShowPick_impl (xs : List Pv) (v : Value) (w : World) (L : Pow w) (h : PtSlc w v xs) (hf : ∀ x ∈ xs, Fits x) (hs : xs.length ≤ 2000000) :
    Calls Tryz.prog 13 #[v] w (Ans (.string ⟨(showPick (pts xs)).toArray⟩) w) := by
  obtain ⟨i0, hi, hz0, hz1, hz2⟩ := info_parts infoStr
  have HP := Lib.hid (PickOk_impl xs v w L h hf hs)
  have HK := Lib.hid (show showPick (pts xs) = if pickOk (pts xs) = true then shown (pts xs) else [] from rfl)
  obtain ⟨a, cap, rfl, hnc, hcap, HA0⟩ := h.form
  have HH := Lib.hid h.2
  have hpl : (pts xs).length = xs.length := by simp [pts]
  cases hok : pickOk (pts xs)
  · have HK2 := Lib.hid (show showPick (pts xs) = [] by rw [HK.out, hok]; rfl)
    rw [hok] at HP
    clear hok h hf hs HA0 L HH hpl
    generalize xs.length = n at *
    go_enter Tryz.func13, Tryz.ntmps13
    go_wp2_with (go_at_call 19; refine HP.out.mono ?_; rintro e w2 ⟨rfl, g2⟩)
    go_ret
    exact ⟨by rw [HK2.out]; rfl, g2⟩
  · have HK2 := Lib.hid (show showPick (pts xs) = shown (pts xs) by rw [HK.out, hok]; rfl)
    obtain ⟨ho4, ho1, hop, _⟩ := ok_bs hok
    have HSL := Lib.hid (shown_len hop)
    obtain ⟨n, hn⟩ : ∃ n, xs.length = n := ⟨_, rfl⟩
    rw [hpl, hn] at ho4 ho1
    rw [hn] at hnc HP ⊢
    rw [hok] at HP
    have HO := Lib.hid hop
    have HN := Lib.hid hn
    have HA := Lib.hid HA0
    have hnc' : (n : Int) ≤ (cap : Int) := by omega
    have hs' : (n : Int) ≤ 4 := by omega
    clear h hn HA0 hcap hop hpl hok hf hs L
    go_enter Tryz.func13, Tryz.ntmps13
    go_wp2_with (go_at_call 19; refine HP.out.mono ?_; rintro e w1 ⟨rfl, g1⟩)
    have ho9 : Words (w1.alloc (.cells #[] 9)) (.slice (some ⟨w1.heap.size, 0, none⟩) 0 0) w.heap.size [] := World.ownsRow_lit w1 #[] 0 g1.size (by decide) rfl
    have hB1 := g1.alloc g1.size (.cells #[] 9)
    go_loopg [3, 12] n (fun kx s3 s12 wr => ∃ i : Nat, s12 = .int .i64 (i : Int) ∧ kx + i = n ∧ Words wr s3 w.heap.size (((pts xs).take i).flatMap partTexts) ∧ Below w.heap.size w wr)
    case atStart => exact ⟨0, rfl, by omega, ho9, hB1⟩
    case round =>
      obtain ⟨i, rfl, hk, hown, hB0⟩ := hrel
      clear g1 HP ho9 hB1
      by_cases hlt : i < n
      · have hlt' : (i : Int) < (n : Int) := by omega
        have i0' : (0 : Int) ≤ (i : Int) := by omega
        obtain ⟨x, hx⟩ : ∃ x, xs[i]? = some x := ⟨_, List.getElem?_eq_getElem (by rw [HN.out]; exact hlt)⟩
        obtain ⟨g, off, rfl, hat⟩ := HA.out (by intro e0; rw [e0] at hx; cases hx)
        have hm := List.mem_of_getElem? hx
        have hpx : (pts xs)[i]? = some x.p := by unfold pts; rw [List.getElem?_map, hx]; rfl
        have hxok := HO.out x.p (List.mem_of_getElem? hpx)
        have HLD := Lib.hid (pt_load (hat.on hB0) hx)
        have hheld := (HH.out x hm).on hB0
        obtain ⟨w2, hst2, hx2, hb2⟩ := pt_laid hheld
        have HST2 := Lib.hid hst2
        have hB2 := hB0.trans (hb2.mono hB0.size)
        have c3 := (pt_blk hx2).2.2.2
        have HT := Lib.hid (fun (W : World) (hW : Below w.heap.size w W) => partText_impl x W ((HH.out x hm).on hW) hxok)
        have hown2 : Words w2 _ w.heap.size (((pts xs).take i).flatMap partTexts) := own_below hown hb2
        obtain ⟨a3, k3, rfl⟩ := words_shape hown
        obtain ⟨ls, els⟩ : ∃ ls, ((pts xs).take i).flatMap partTexts = ls := ⟨_, rfl⟩
        have HTK := Lib.hid (show ((pts xs).take (i + 1)).flatMap partTexts = ls ++ partTexts x.p by rw [List.take_add_one, hpx, List.flatMap_append, els]; simp)
        have hd8 : ls.length ≤ 2 * i := by
          rw [← els]
          have : ∀ (l : List Pt), (l.flatMap partTexts).length ≤ 2 * l.length := fun l => by
            induction l with
            | nil => simp
            | cons q r ih =>
              rw [List.flatMap_cons, List.length_append, List.length_cons]
              have : (partTexts q).length ≤ 2 := by unfold partTexts; split <;> simp
              omega
          have h1 := this ((pts xs).take i)
          rw [List.length_take] at h1
          omega
        rw [els] at hown2 ⊢
        obtain ⟨d, hd⟩ : ∃ d, ls.length = d := ⟨_, rfl⟩
        have HD := Lib.hid hd
        rw [hd] at hown2 hd8 ⊢
        have hown2' : w2.ownsRow w.heap.size 9 1 (.slice a3 d k3) d (wordsV ls) := by
          have := hown2
          unfold Words at this
          rwa [hd] at this
        have hne2 := own_low hown2' (b := w2.heap.size) (Nat.le_refl _)
        have hbpl : some wr.heap.size ≠ (Value.slice a3 d k3).ownBlock := by
          have h1 := hown
          rw [els] at h1
          unfold Words at h1
          rw [hd] at h1
          exact own_low h1 (Nat.le_refl _)
        have hl3 : LBlk w2 wr.heap.size (ptL x) := hx2
        obtain ⟨bp, ebp⟩ : ∃ bp, wr.heap.size = bp := ⟨_, rfl⟩
        rw [ebp] at HST2 hl3 c3 hbpl
        have HPT := Lib.hid (show partTexts x.p = (if x.p.near = true then [[62]] else []) ++ [partText x.p] from rfl)
        obtain ⟨pt, ept⟩ : ∃ pt, partText x.p = pt := ⟨_, rfl⟩
        rw [ept] at HPT HT
        rw [ptV_is] at HLD HST2 HT
        unfold ptL at hl3
        generalize x.p.near = nr at *
        clear hat hx hm hpx hheld hst2 hx2 hown hown2 els hd hb2 hxok ept
        cases nr
        · have HTK2 := Lib.hid (show ((pts xs).take (i + 1)).flatMap partTexts = ls ++ [pt] by rw [HTK.out, HPT.out]; rfl)
          have HL3 := Lib.hid (load_blk (P := Tryz.prog) (ty := 37) hl3 pt_wide)
          go_wp2_with (first | (go_at_call 46; refine (HT.out _ hB2).mono ?_; rintro e w4 ⟨rfl, g4⟩; have hown4 := World.ownsRow.alloc (own_below hown2' g4) (.cells #[.string ⟨pt.toArray⟩] 9); have hB4 := hB2.trans (g4.mono hB2.size)) | ((with_reducible refine wp_load_at HLD.out ?_ ?_); exact And.intro rfl (And.intro rfl rfl)) | ((with_reducible refine wp_store_at HST2.out ?_ ?_); exact And.intro rfl (And.intro rfl (And.intro rfl rfl))) | ((with_reducible refine wp_load_at HL3.out ?_ ?_); exact And.intro rfl (And.intro rfl rfl)) | (at_builtin; refine wpList_append_own _ rfl _ _ 35 rfl w.heap.size 9 i0 _ 1 16 Tryz.underlying35 hi hz0 hz1 hz2 rfl (by decide) _ d (wordsV ls) rfl hown4 ⟨w4.heap.size, 0, none⟩ 1 1 [.string ⟨pt.toArray⟩] rfl rfl (cell_one_new _ _ _) (by simp [Value.oneCell']) (by simp [maxLen] <;> omega) (by omega) (by have := hB4.size; simp; omega) ?_; intro v5 w5 hown5 hgrow5 _))
          go_roundg (n - (i + 1))
          case measure => omega
          case rel => exact ⟨i + 1, by go_num, by omega, by rw [HTK2.out]; exact words_snoc HD.out hown5, (hB4.alloc hB4.size _).grown hgrow5 (by have := hB4.size; simp; omega) (fun k hk => (World.ownsRow.lt hown4 k hk).1)⟩
        · have HTK2 := Lib.hid (show ((pts xs).take (i + 1)).flatMap partTexts = (ls ++ [[62]]) ++ [pt] by rw [HTK.out, HPT.out]; simp)
          have hownA := World.ownsRow.alloc hown2' (.cells #[.string ⟨#[62]⟩] 9)
          go_wp2_with (first | ((with_reducible refine wp_load_at HLD.out ?_ ?_); exact And.intro rfl (And.intro rfl rfl)) | ((with_reducible refine wp_store_at HST2.out ?_ ?_); exact And.intro rfl (And.intro rfl (And.intro rfl rfl))) | (at_builtin; refine wpList_append_own _ rfl _ _ 35 rfl w.heap.size 9 i0 _ 1 16 Tryz.underlying35 hi hz0 hz1 hz2 rfl (by decide) _ d (wordsV ls) rfl hownA ⟨w2.heap.size, 0, none⟩ 1 1 [.string ⟨#[62]⟩] rfl rfl (cell_one_new _ _ _) (by simp [Value.oneCell']) (by simp [maxLen] <;> omega) (by omega) (by have := hB2.size; simp; omega) ?_; intro v3 w3 hown3 hgrow3 _; have hl4 := LBlk.grown (hl3.alloc _) hgrow3 hbpl; have HL3 := Lib.hid (load_blk (P := Tryz.prog) (ty := 37) hl4 pt_wide); have hB3 := (hB2.alloc hB2.size _).grown hgrow3 (by have := hB2.size; simp; omega) (fun k hk => (World.ownsRow.lt hownA k hk).1); obtain ⟨g9, cap9, rfl⟩ := ownsRow_succ hown3; clear hownA; go_frame) | (go_at_call 46; refine (HT.out _ hB3).mono ?_; rintro e w4 ⟨rfl, g4⟩; have hown4 := World.ownsRow.alloc (own_below hown3 g4) (.cells #[.string ⟨pt.toArray⟩] 9); have hB4 := hB3.trans (g4.mono hB3.size)) | ((with_reducible refine wp_load_at HL3.out ?_ ?_); exact And.intro rfl (And.intro rfl rfl)) | (at_builtin; refine wpList_append_own _ rfl _ _ 35 rfl w.heap.size 9 i0 _ 1 16 Tryz.underlying35 hi hz0 hz1 hz2 rfl (by decide) _ (d + 1) _ rfl hown4 ⟨w4.heap.size, 0, none⟩ 1 1 [.string ⟨pt.toArray⟩] rfl rfl (cell_one_new _ _ _) (by simp [Value.oneCell']) (by simp [maxLen] <;> omega) (by omega) (by have := hB4.size; simp; omega) ?_; intro v5 w5 hown5 hgrow5 _))
          go_roundg (n - (i + 1))
          case measure => omega
          case rel => exact ⟨i + 1, by go_num, by omega, by rw [HTK2.out]; exact words_snoc (n := d + 1) (by rw [List.length_append, HD.out]; rfl) (by simpa [wordsV] using hown5), (hB4.alloc hB4.size _).grown hgrow5 (by have := hB4.size; simp; omega) (fun k hk => (World.ownsRow.lt hown4 k hk).1)⟩
      · have hlt' : ¬ (i : Int) < (n : Int) := by omega
        have htk : (pts xs).take i = pts xs := List.take_of_length_le (by simp [pts]; rw [HN.out]; omega)
        rw [htk] at hown
        have hne : (pts xs).flatMap partTexts ≠ [] := by
          cases hps : pts xs with
          | nil => have := congrArg List.length hps; simp [pts] at this; rw [this] at HN; have := HN.out; simp at this; omega
          | cons p r =>
            rw [List.flatMap_cons]
            intro e0
            exact texts_ne (List.append_eq_nil_iff.1 e0).1
        have hlen8 : ((pts xs).flatMap partTexts).length ≤ 100 := by
          have : ∀ (l : List Pt), (l.flatMap partTexts).length ≤ 2 * l.length := fun l => by
            induction l with
            | nil => simp
            | cons q r ih =>
              rw [List.flatMap_cons, List.length_append, List.length_cons]
              have : (partTexts q).length ≤ 2 := by unfold partTexts; split <;> simp
              omega
          have h1 := this (pts xs)
          have h2 : (pts xs).length = n := by simp [pts]; exact HN.out
          omega
        have hsl : (shown (pts xs)).length ≤ 1000 := by
          have := HSL.out
          have h2 : (pts xs).length = n := by simp [pts]; exact HN.out
          omega
        have HJ := Lib.hid (join10_own _ _ _ wr hown hlen8 hne hsl)
        obtain ⟨a3, k3, rfl⟩ := words_shape hown
        generalize ((pts xs).flatMap partTexts).length = d at HJ ⊢
        clear hown hne hlen8 htk
        go_wp2_with (go_at_call 47; refine HJ.out.mono ?_; rintro e w4 ⟨rfl, g4⟩)
        go_ret
        exact ⟨by rw [HK2.out]; rfl, hB0.trans (g4.mono hB0.size)⟩

end Go.Proofs.YtliihnkonakacaaGreatDoor.B10
