/- Chapter 10 of the program: WeightOf. -/
import Derived.Test.YtliihnkonakacaaGreatDoorImp10c
import Derived.Test.YtliihnkonakacaaGreatDoorFree10
namespace Go.Proofs.YtliihnkonakacaaGreatDoor.B10
open Go.Proofs.YtliihnkonakacaaGreatDoor.P1 Go.Proofs.YtliihnkonakacaaGreatDoor.B1 Go.Proofs.YtliihnkonakacaaGreatDoor.B2 Go.Proofs.YtliihnkonakacaaGreatDoor.T1 Go.Proofs.YtliihnkonakacaaGreatDoor.BT Go.Proofs.YtliihnkonakacaaGreatDoor.P5 Go.Proofs.YtliihnkonakacaaGreatDoor.B5 Go.Proofs.YtliihnkonakacaaGreatDoor.P6 Go.Proofs.YtliihnkonakacaaGreatDoor.B6 Go.Proofs.YtliihnkonakacaaGreatDoor.V6 Go.Proofs.YtliihnkonakacaaGreatDoor.D1 Go.Proofs.YtliihnkonakacaaGreatDoor.W8 Go.Proofs.YtliihnkonakacaaGreatDoor.RC Go.Proofs.YtliihnkonakacaaGreatDoor.RI Go.Proofs.YtliihnkonakacaaGreatDoor.P10
open Go.ChangeShapes Go.WideShapes Go.ChangeAt Go.RowKit
set_option linter.unusedVariables false

/-- One text in a block of its own. -/
theorem one_strs {w : World} {b : Nat} {s : List UInt8} (h : LBlk w b [.string ⟨s.toArray⟩]) : StrSlc w (.slice (some ⟨b, 0, none⟩) 1 1) [s] :=
  ⟨_, 1, rfl, Nat.le_refl _, by decide, fun _ => ⟨b, 0, rfl, at_of_blk (rs := strRs [s]) h (strRs_one [s])⟩⟩

set_option maxRecDepth 20000 in
set_option maxHeartbeats 4000000 in
theorem WeightOf_impl (xs : List Pv) (v : Value) (w : World) (L : Pow w) (h : PtSlc w v xs) (hf : ∀ x ∈ xs, Fits x) (hs : xs.length ≤ 2000000) :
    Calls Tryz.prog 23 #[v] w (Ans (.int .i64 (weightOf (pts xs))) w) := by
  have HP := Lib.hid (PickOk_impl xs v w L h hf hs)
  have HK := Lib.hid (show weightOf (pts xs) = if pickOk (pts xs) = true then ((pts xs).map partWeight).sum else -1 from rfl)
  obtain ⟨a, cap, rfl, hnc, hcap, HA0⟩ := h.form
  have HH := Lib.hid h.2
  have hpl : (pts xs).length = xs.length := by simp [pts]
  cases hok : pickOk (pts xs)
  · have HK2 := Lib.hid (show weightOf (pts xs) = -1 by rw [HK.out, hok]; rfl)
    rw [hok] at HP
    clear hok h hf hs HA0 L HH hpl
    generalize xs.length = n at *
    go_enter Tryz.func23, Tryz.ntmps23
    go_wp2_with (go_at_call 19; refine HP.out.mono ?_; rintro e w2 ⟨rfl, g2⟩)
    go_ret
    exact ⟨by rw [HK2.out]; rfl, g2⟩
  · have HK2 := Lib.hid (show weightOf (pts xs) = ((pts xs).map partWeight).sum by rw [HK.out, hok]; rfl)
    obtain ⟨ho4, _, _, hob⟩ := ok_bs hok
    obtain ⟨n, hn⟩ : ∃ n, xs.length = n := ⟨_, rfl⟩
    rw [hpl, hn] at ho4
    rw [hn] at hnc HP ⊢
    rw [hok] at HP
    have HO := Lib.hid hob
    have HN := Lib.hid hn
    have HA := Lib.hid HA0
    have hnc' : (n : Int) ≤ (cap : Int) := by omega
    have hs' : (n : Int) ≤ 4 := by omega
    clear h hn HA0 hcap hob hpl hok hf hs L
    go_enter Tryz.func23, Tryz.ntmps23
    go_wp2_with (go_at_call 19; refine HP.out.mono ?_; rintro e w1 ⟨rfl, g1⟩)
    go_loopg [3, 11] n (fun kx s3 s11 wr => ∃ (i : Nat) (acc : Int), s11 = .int .i64 (i : Int) ∧ kx + i = n ∧ s3 = .int .i64 acc ∧ Hid (acc = (((pts xs).take i).map partWeight).sum) ∧ Below w.heap.size w wr)
    case atStart => exact ⟨0, 0, rfl, by omega, rfl, Lib.hid rfl, g1⟩
    case round =>
      obtain ⟨i, acc, rfl, hk, rfl, HI, hB0⟩ := hrel
      clear g1 HP
      by_cases hlt : i < n
      · have hlt' : (i : Int) < (n : Int) := by omega
        have i0' : (0 : Int) ≤ (i : Int) := by omega
        obtain ⟨x, hx⟩ : ∃ x, xs[i]? = some x := ⟨_, List.getElem?_eq_getElem (by rw [HN.out]; exact hlt)⟩
        obtain ⟨g, off, rfl, hat⟩ := HA.out (by intro e0; rw [e0] at hx; cases hx)
        have hm := List.mem_of_getElem? hx
        have hpx : (pts xs)[i]? = some x.p := by unfold pts; rw [List.getElem?_map, hx]; rfl
        have hbd := weights_le (ps := (pts xs).take i) (n := 4) (by rw [List.length_take]; omega) (fun p hp => HO.out p (List.mem_of_mem_take hp))
        rw [← HI.out] at hbd
        obtain ⟨b0, b1⟩ := hbd
        have hb3 := HO.out x.p (List.mem_of_getElem? hpx)
        have HT := Lib.hid (show (((pts xs).take (i + 1)).map partWeight).sum = acc + partWeight x.p by rw [HI.out]; exact weight_take hpx)
        have HLD := Lib.hid (pt_load (hat.on hB0) hx)
        have hheld := (HH.out x hm).on hB0
        obtain ⟨w2, hst2, hx2, hb2⟩ := pt_laid hheld
        have HST2 := Lib.hid hst2
        have hB2 := hB0.trans (hb2.mono hB0.size)
        obtain ⟨ab, cb, eu, hcb, hcb2⟩ := held_form (HH.out x hm)
        obtain ⟨⟨tag, id, bs, near⟩, u⟩ := x
        dsimp only at eu hb3 HT hcb
        subst eu
        have HLB := Lib.hid hx2
        unfold ptL at HLB
        dsimp only at HLB
        rw [ptV_is] at HLD HST2
        dsimp only at HLD HST2
        have h1 : (told [id]).length ≤ 1 := List.length_filter_le _ _
        have h2 : (told [tag]).length ≤ 1 := List.length_filter_le _ _
        obtain ⟨ki, eki⟩ : ∃ k, (told [id]).length = k := ⟨_, rfl⟩
        obtain ⟨kt, ekt⟩ : ∃ k, (told [tag]).length = k := ⟨_, rfl⟩
        have HKI := Lib.hid eki
        have HKT := Lib.hid ekt
        have HW := Lib.hid (show partWeight ⟨tag, id, bs, near⟩ = 10000 * (ki : Int) + 100 * (bs.length : Int) + (kt : Int) by unfold partWeight; dsimp only; rw [eki, ekt])
        rw [eki] at h1
        rw [ekt] at h2
        rw [HW.out] at HT
        generalize bs.length = nb at *
        have m1 : IntKind.i64.wrap (10000 * (ki : Int)) = 10000 * (ki : Int) := by rw [IntKind.wrap_i64]; omega
        have m2 : IntKind.i64.wrap (100 * (nb : Int)) = 100 * (nb : Int) := by rw [IntKind.wrap_i64]; omega
        have m3 : IntKind.i64.wrap (10000 * (ki : Int) + 100 * (nb : Int)) = 10000 * (ki : Int) + 100 * (nb : Int) := by rw [IntKind.wrap_i64]; omega
        have m4 : IntKind.i64.wrap (10000 * (ki : Int) + 100 * (nb : Int) + (kt : Int)) = 10000 * (ki : Int) + 100 * (nb : Int) + (kt : Int) := by rw [IntKind.wrap_i64]; omega
        have m5 : IntKind.i64.wrap (acc + (10000 * (ki : Int) + 100 * (nb : Int) + (kt : Int))) = acc + (10000 * (ki : Int) + 100 * (nb : Int) + (kt : Int)) := by rw [IntKind.wrap_i64]; omega
        obtain ⟨bp, ebp⟩ : ∃ bp, wr.heap.size = bp := ⟨_, rfl⟩
        rw [ebp] at HST2 HLB
        clear hat hx hm hpx HI hcb hcb2 HW eki ekt hheld hst2 hx2
        go_upto_region 7 with (first | ((with_reducible refine wp_load_at HLD.out ?_ ?_); exact And.intro rfl (And.intro rfl rfl)) | ((with_reducible refine wp_store_at HST2.out ?_ ?_); exact And.intro rfl (And.intro rfl (And.intro rfl rfl))))
        go_frame
        have hkeep : ∀ (W w' : World), Below W.heap.size W w' → ∀ (i : Nat) (v : Value), i < 20 → (fun (j : Nat) (v : Value) (W : World) => match j with | 0 => (v = .int .i64 acc) | 1 => (v = .pointer (some ⟨bp, 1, none⟩)) | 2 => (v = .string ⟨id.toArray⟩) | 3 => (∃ b, v = .slice (some ⟨b, 0, none⟩) 1 1 ∧ (LBlk W b [.string ⟨id.toArray⟩])) | 4 => (∃ a c, v = .slice a ki c ∧ (True)) | 5 => (v = .int .i64 (ki : Int)) | 6 => (v = .int .i64 (10000 * (ki : Int))) | 7 => (v = .pointer (some ⟨bp, 2, none⟩)) | 8 => (v = .slice ab nb cb) | 9 => (v = .int .i64 (nb : Int)) | 10 => (v = .int .i64 (100 * (nb : Int))) | 11 => (v = .int .i64 (10000 * (ki : Int) + 100 * (nb : Int))) | 12 => (v = .pointer (some ⟨bp, 0, none⟩)) | 13 => (v = .string ⟨tag.toArray⟩) | 14 => (∃ b, v = .slice (some ⟨b, 0, none⟩) 1 1 ∧ (LBlk W b [.string ⟨tag.toArray⟩])) | 15 => (∃ a c, v = .slice a kt c ∧ (True)) | 16 => (v = .int .i64 (kt : Int)) | 17 => (v = .int .i64 (10000 * (ki : Int) + 100 * (nb : Int) + (kt : Int))) | 18 => (v = .int .i64 (acc + (10000 * (ki : Int) + 100 * (nb : Int) + (kt : Int)))) | 19 => (v = .int .i64 (acc + (10000 * (ki : Int) + 100 * (nb : Int) + (kt : Int)))) | _ => True) i v W → (fun (j : Nat) (v : Value) (W : World) => match j with | 0 => (v = .int .i64 acc) | 1 => (v = .pointer (some ⟨bp, 1, none⟩)) | 2 => (v = .string ⟨id.toArray⟩) | 3 => (∃ b, v = .slice (some ⟨b, 0, none⟩) 1 1 ∧ (LBlk W b [.string ⟨id.toArray⟩])) | 4 => (∃ a c, v = .slice a ki c ∧ (True)) | 5 => (v = .int .i64 (ki : Int)) | 6 => (v = .int .i64 (10000 * (ki : Int))) | 7 => (v = .pointer (some ⟨bp, 2, none⟩)) | 8 => (v = .slice ab nb cb) | 9 => (v = .int .i64 (nb : Int)) | 10 => (v = .int .i64 (100 * (nb : Int))) | 11 => (v = .int .i64 (10000 * (ki : Int) + 100 * (nb : Int))) | 12 => (v = .pointer (some ⟨bp, 0, none⟩)) | 13 => (v = .string ⟨tag.toArray⟩) | 14 => (∃ b, v = .slice (some ⟨b, 0, none⟩) 1 1 ∧ (LBlk W b [.string ⟨tag.toArray⟩])) | 15 => (∃ a c, v = .slice a kt c ∧ (True)) | 16 => (v = .int .i64 (kt : Int)) | 17 => (v = .int .i64 (10000 * (ki : Int) + 100 * (nb : Int) + (kt : Int))) | 18 => (v = .int .i64 (acc + (10000 * (ki : Int) + 100 * (nb : Int) + (kt : Int)))) | 19 => (v = .int .i64 (acc + (10000 * (ki : Int) + 100 * (nb : Int) + (kt : Int)))) | _ => True) i v w' := by
          intro W w' hb' i v hi h
          have hcase : i = 0 ∨ i = 1 ∨ i = 2 ∨ i = 3 ∨ i = 4 ∨ i = 5 ∨ i = 6 ∨ i = 7 ∨ i = 8 ∨ i = 9 ∨ i = 10 ∨ i = 11 ∨ i = 12 ∨ i = 13 ∨ i = 14 ∨ i = 15 ∨ i = 16 ∨ i = 17 ∨ i = 18 ∨ i = 19 := by omega
          clear hi
          rcases hcase with rfl | rfl | rfl | rfl | rfl | rfl | rfl | rfl | rfl | rfl | rfl | rfl | rfl | rfl | rfl | rfl | rfl | rfl | rfl | rfl
          · exact h
          · exact h
          · exact h
          · obtain ⟨b, e, hx⟩ := h; exact ⟨b, e, hx.below hb'⟩
          · obtain ⟨a, c, e, hx⟩ := h; exact ⟨a, c, e, trivial⟩
          · exact h
          · exact h
          · exact h
          · exact h
          · exact h
          · exact h
          · exact h
          · exact h
          · exact h
          · obtain ⟨b, e, hx⟩ := h; exact ⟨b, e, hx.below hb'⟩
          · obtain ⟨a, c, e, hx⟩ := h; exact ⟨a, c, e, trivial⟩
          · exact h
          · exact h
          · exact h
          · exact h
        refine region_free2 (by kernel_rfl) (fun (j : Nat) (v : Value) (W : World) => match j with | 0 => (v = .int .i64 acc) | 1 => (v = .pointer (some ⟨bp, 1, none⟩)) | 2 => (v = .string ⟨id.toArray⟩) | 3 => (∃ b, v = .slice (some ⟨b, 0, none⟩) 1 1 ∧ (LBlk W b [.string ⟨id.toArray⟩])) | 4 => (∃ a c, v = .slice a ki c ∧ (True)) | 5 => (v = .int .i64 (ki : Int)) | 6 => (v = .int .i64 (10000 * (ki : Int))) | 7 => (v = .pointer (some ⟨bp, 2, none⟩)) | 8 => (v = .slice ab nb cb) | 9 => (v = .int .i64 (nb : Int)) | 10 => (v = .int .i64 (100 * (nb : Int))) | 11 => (v = .int .i64 (10000 * (ki : Int) + 100 * (nb : Int))) | 12 => (v = .pointer (some ⟨bp, 0, none⟩)) | 13 => (v = .string ⟨tag.toArray⟩) | 14 => (∃ b, v = .slice (some ⟨b, 0, none⟩) 1 1 ∧ (LBlk W b [.string ⟨tag.toArray⟩])) | 15 => (∃ a c, v = .slice a kt c ∧ (True)) | 16 => (v = .int .i64 (kt : Int)) | 17 => (v = .int .i64 (10000 * (ki : Int) + 100 * (nb : Int) + (kt : Int))) | 18 => (v = .int .i64 (acc + (10000 * (ki : Int) + 100 * (nb : Int) + (kt : Int)))) | 19 => (v = .int .i64 (acc + (10000 * (ki : Int) + 100 * (nb : Int) + (kt : Int)))) | _ => True) (fun W => Below w2.heap.size w2 W) (none :: none :: none :: some 19 :: none :: none :: none :: none :: none :: none :: none :: none :: none :: none :: none :: some 0 :: some 1 :: some 2 :: some 3 :: some 4 :: some 5 :: some 6 :: some 7 :: some 8 :: some 9 :: some 10 :: some 11 :: some 12 :: some 13 :: some 14 :: some 15 :: some 16 :: some 17 :: some 18 :: none :: none :: []) (by kernel_rfl) (by kernel_rfl) (⟨rfl, rfl, rfl, Nat.le_refl _, fun _ _ => rfl⟩) ?_ ?_
        · intro i hi A W hB hst hun hA
          have hi2 : i < 20 := hi
          have hcase : i = 0 ∨ i = 1 ∨ i = 2 ∨ i = 3 ∨ i = 4 ∨ i = 5 ∨ i = 6 ∨ i = 7 ∨ i = 8 ∨ i = 9 ∨ i = 10 ∨ i = 11 ∨ i = 12 ∨ i = 13 ∨ i = 14 ∨ i = 15 ∨ i = 16 ∨ i = 17 ∨ i = 18 ∨ i = 19 := by omega
          clear hi hi2
          rcases hcase with rfl | rfl | rfl | rfl | rfl | rfl | rfl | rfl | rfl | rfl | rfl | rfl | rfl | rfl | rfl | rfl | rfl | rfl | rfl | rfl
          · have s3 : A.tmps[3]?.getD undef = .int .i64 acc := (hun 19 3 (by kernel_rfl) (by kernel_rfl)).trans rfl
            exact wpOp_of rfl rfl (wp_value (v := .int .i64 acc) (W' := W) (by simp [execOp, Act.eval, s3, go_sem]) ⟨_, rfl, hB, rfl, fun _ _ _ h => h⟩)
          · have s5 : A.tmps[5]?.getD undef = .pointer (some ⟨bp, 0, none⟩) := (hst 5 (by kernel_rfl)).trans rfl
            exact wpOp_of rfl rfl (wp_value (v := .pointer (some ⟨bp, 1, none⟩)) (W' := W) (by simp [execOp, Act.eval, s5, go_sem]) ⟨_, rfl, hB, rfl, fun _ _ _ h => h⟩)
          · have s16 : A.tmps[16]?.getD undef = .pointer (some ⟨bp, 1, none⟩) := hA 1 16 (by kernel_rfl) (by kernel_rfl)
            have cW := ((HLB.out.below hB).2 1 _ rfl).1
            exact wpOp_of rfl rfl (wp_value (v := .string ⟨id.toArray⟩) (W' := W) (by simp [execOp, Act.eval, s16, go_sem, cW]) ⟨_, rfl, hB, rfl, fun _ _ _ h => h⟩)
          · have s17 : A.tmps[17]?.getD undef = .string ⟨id.toArray⟩ := hA 2 17 (by kernel_rfl) (by kernel_rfl)
            have hb' : Below W.heap.size W (W.alloc (.cells #[.string ⟨id.toArray⟩] 9)) := (Below.refl _ _).alloc (Nat.le_refl _) _
            refine wpOp_of rfl rfl (wp_value (v := .slice (some ⟨W.heap.size, 0, none⟩) 1 1) (W' := W.alloc (.cells #[.string ⟨id.toArray⟩] 9)) ?_ ⟨_, rfl, hB.trans (hb'.mono hB.size), ⟨W.heap.size, rfl, LBlk.new W [.string ⟨id.toArray⟩] _⟩, hkeep W _ hb'⟩)
            simp [execOp, Act.eval, s17, go_sem]
          · obtain ⟨b, s18, h18⟩ : ∃ b, A.tmps[18]?.getD undef = .slice (some ⟨b, 0, none⟩) 1 1 ∧ (LBlk W b [.string ⟨id.toArray⟩]) := hA 3 18 (by kernel_rfl) (by kernel_rfl)
            refine wpOp_of rfl rfl (wp_enter (f := 61) (args := #[.slice (some ⟨b, 0, none⟩) 1 1]) (by simp [execOp, Act.eval, s18, go_sem]) ?_)
            refine (told_impl [id] _ W (one_strs h18) (by simp)).mono ?_
            rintro e w' ⟨r, rfl, hr, hb'⟩
            exact ⟨_, rfl, _, rfl, hB.trans (hb'.mono hB.size), (by obtain ⟨a4, c4, e4⟩ := words_shape hr; rw [HKI.out] at e4; exact ⟨a4, c4, e4, trivial⟩), hkeep W _ hb'⟩
          · obtain ⟨a, c, s19, h19⟩ : ∃ a c, A.tmps[19]?.getD undef = .slice a ki c ∧ (True) := hA 4 19 (by kernel_rfl) (by kernel_rfl)
            exact wpOp_of rfl rfl (wp_value (v := .int .i64 (ki : Int)) (W' := W) (by simp [execOp, Act.eval, s19, go_sem]) ⟨_, rfl, hB, rfl, fun _ _ _ h => h⟩)
          · have s20 : A.tmps[20]?.getD undef = .int .i64 (ki : Int) := hA 5 20 (by kernel_rfl) (by kernel_rfl)
            exact wpOp_of rfl rfl (wp_value (v := .int .i64 (10000 * (ki : Int))) (W' := W) (by simp [execOp, Act.eval, s20, go_sem, m1]) ⟨_, rfl, hB, rfl, fun _ _ _ h => h⟩)
          · have s5 : A.tmps[5]?.getD undef = .pointer (some ⟨bp, 0, none⟩) := (hst 5 (by kernel_rfl)).trans rfl
            exact wpOp_of rfl rfl (wp_value (v := .pointer (some ⟨bp, 2, none⟩)) (W' := W) (by simp [execOp, Act.eval, s5, go_sem]) ⟨_, rfl, hB, rfl, fun _ _ _ h => h⟩)
          · have s22 : A.tmps[22]?.getD undef = .pointer (some ⟨bp, 2, none⟩) := hA 7 22 (by kernel_rfl) (by kernel_rfl)
            have cW := ((HLB.out.below hB).2 2 _ rfl).1
            exact wpOp_of rfl rfl (wp_value (v := .slice ab nb cb) (W' := W) (by simp [execOp, Act.eval, s22, go_sem, cW]) ⟨_, rfl, hB, rfl, fun _ _ _ h => h⟩)
          · have s23 : A.tmps[23]?.getD undef = .slice ab nb cb := hA 8 23 (by kernel_rfl) (by kernel_rfl)
            exact wpOp_of rfl rfl (wp_value (v := .int .i64 (nb : Int)) (W' := W) (by simp [execOp, Act.eval, s23, go_sem]) ⟨_, rfl, hB, rfl, fun _ _ _ h => h⟩)
          · have s24 : A.tmps[24]?.getD undef = .int .i64 (nb : Int) := hA 9 24 (by kernel_rfl) (by kernel_rfl)
            exact wpOp_of rfl rfl (wp_value (v := .int .i64 (100 * (nb : Int))) (W' := W) (by simp [execOp, Act.eval, s24, go_sem, m2]) ⟨_, rfl, hB, rfl, fun _ _ _ h => h⟩)
          · have s21 : A.tmps[21]?.getD undef = .int .i64 (10000 * (ki : Int)) := hA 6 21 (by kernel_rfl) (by kernel_rfl)
            have s25 : A.tmps[25]?.getD undef = .int .i64 (100 * (nb : Int)) := hA 10 25 (by kernel_rfl) (by kernel_rfl)
            exact wpOp_of rfl rfl (wp_value (v := .int .i64 (10000 * (ki : Int) + 100 * (nb : Int))) (W' := W) (by simp [execOp, Act.eval, s21, s25, go_sem, m3]) ⟨_, rfl, hB, rfl, fun _ _ _ h => h⟩)
          · have s5 : A.tmps[5]?.getD undef = .pointer (some ⟨bp, 0, none⟩) := (hst 5 (by kernel_rfl)).trans rfl
            exact wpOp_of rfl rfl (wp_value (v := .pointer (some ⟨bp, 0, none⟩)) (W' := W) (by simp [execOp, Act.eval, s5, go_sem]) ⟨_, rfl, hB, rfl, fun _ _ _ h => h⟩)
          · have s27 : A.tmps[27]?.getD undef = .pointer (some ⟨bp, 0, none⟩) := hA 12 27 (by kernel_rfl) (by kernel_rfl)
            have cW := ((HLB.out.below hB).2 0 _ rfl).1
            exact wpOp_of rfl rfl (wp_value (v := .string ⟨tag.toArray⟩) (W' := W) (by simp [execOp, Act.eval, s27, go_sem, cW]) ⟨_, rfl, hB, rfl, fun _ _ _ h => h⟩)
          · have s28 : A.tmps[28]?.getD undef = .string ⟨tag.toArray⟩ := hA 13 28 (by kernel_rfl) (by kernel_rfl)
            have hb' : Below W.heap.size W (W.alloc (.cells #[.string ⟨tag.toArray⟩] 9)) := (Below.refl _ _).alloc (Nat.le_refl _) _
            refine wpOp_of rfl rfl (wp_value (v := .slice (some ⟨W.heap.size, 0, none⟩) 1 1) (W' := W.alloc (.cells #[.string ⟨tag.toArray⟩] 9)) ?_ ⟨_, rfl, hB.trans (hb'.mono hB.size), ⟨W.heap.size, rfl, LBlk.new W [.string ⟨tag.toArray⟩] _⟩, hkeep W _ hb'⟩)
            simp [execOp, Act.eval, s28, go_sem]
          · obtain ⟨b, s29, h29⟩ : ∃ b, A.tmps[29]?.getD undef = .slice (some ⟨b, 0, none⟩) 1 1 ∧ (LBlk W b [.string ⟨tag.toArray⟩]) := hA 14 29 (by kernel_rfl) (by kernel_rfl)
            refine wpOp_of rfl rfl (wp_enter (f := 61) (args := #[.slice (some ⟨b, 0, none⟩) 1 1]) (by simp [execOp, Act.eval, s29, go_sem]) ?_)
            refine (told_impl [tag] _ W (one_strs h29) (by simp)).mono ?_
            rintro e w' ⟨r, rfl, hr, hb'⟩
            exact ⟨_, rfl, _, rfl, hB.trans (hb'.mono hB.size), (by obtain ⟨a4, c4, e4⟩ := words_shape hr; rw [HKT.out] at e4; exact ⟨a4, c4, e4, trivial⟩), hkeep W _ hb'⟩
          · obtain ⟨a, c, s30, h30⟩ : ∃ a c, A.tmps[30]?.getD undef = .slice a kt c ∧ (True) := hA 15 30 (by kernel_rfl) (by kernel_rfl)
            exact wpOp_of rfl rfl (wp_value (v := .int .i64 (kt : Int)) (W' := W) (by simp [execOp, Act.eval, s30, go_sem]) ⟨_, rfl, hB, rfl, fun _ _ _ h => h⟩)
          · have s26 : A.tmps[26]?.getD undef = .int .i64 (10000 * (ki : Int) + 100 * (nb : Int)) := hA 11 26 (by kernel_rfl) (by kernel_rfl)
            have s31 : A.tmps[31]?.getD undef = .int .i64 (kt : Int) := hA 16 31 (by kernel_rfl) (by kernel_rfl)
            exact wpOp_of rfl rfl (wp_value (v := .int .i64 (10000 * (ki : Int) + 100 * (nb : Int) + (kt : Int))) (W' := W) (by simp [execOp, Act.eval, s26, s31, go_sem, m4]) ⟨_, rfl, hB, rfl, fun _ _ _ h => h⟩)
          · have s15 : A.tmps[15]?.getD undef = .int .i64 acc := hA 0 15 (by kernel_rfl) (by kernel_rfl)
            have s32 : A.tmps[32]?.getD undef = .int .i64 (10000 * (ki : Int) + 100 * (nb : Int) + (kt : Int)) := hA 17 32 (by kernel_rfl) (by kernel_rfl)
            exact wpOp_of rfl rfl (wp_value (v := .int .i64 (acc + (10000 * (ki : Int) + 100 * (nb : Int) + (kt : Int)))) (W' := W) (by simp [execOp, Act.eval, s15, s32, go_sem, m5]) ⟨_, rfl, hB, rfl, fun _ _ _ h => h⟩)
          · have s33 : A.tmps[33]?.getD undef = .int .i64 (acc + (10000 * (ki : Int) + 100 * (nb : Int) + (kt : Int))) := hA 18 33 (by kernel_rfl) (by kernel_rfl)
            exact wpOp_of rfl rfl (wp_value (v := .int .i64 (acc + (10000 * (ki : Int) + 100 * (nb : Int) + (kt : Int)))) (W' := W) (by simp [execOp, Act.eval, s33, go_sem]) ⟨_, rfl, hB, rfl, fun _ _ _ h => h⟩)
        intro wR vs hR hfs
        have e0 : vs[0]?.getD undef = .int .i64 acc := hfs 0 15 (by kernel_rfl)
        have e1 : vs[1]?.getD undef = .pointer (some ⟨bp, 1, none⟩) := hfs 1 16 (by kernel_rfl)
        have e2 : vs[2]?.getD undef = .string ⟨id.toArray⟩ := hfs 2 17 (by kernel_rfl)
        obtain ⟨b3, e3, f3⟩ : ∃ b, vs[3]?.getD undef = .slice (some ⟨b, 0, none⟩) 1 1 ∧ (LBlk wR b [.string ⟨id.toArray⟩]) := hfs 3 18 (by kernel_rfl)
        obtain ⟨a4, c4, e4, f4⟩ : ∃ a c, vs[4]?.getD undef = .slice a ki c ∧ (True) := hfs 4 19 (by kernel_rfl)
        have e5 : vs[5]?.getD undef = .int .i64 (ki : Int) := hfs 5 20 (by kernel_rfl)
        have e6 : vs[6]?.getD undef = .int .i64 (10000 * (ki : Int)) := hfs 6 21 (by kernel_rfl)
        have e7 : vs[7]?.getD undef = .pointer (some ⟨bp, 2, none⟩) := hfs 7 22 (by kernel_rfl)
        have e8 : vs[8]?.getD undef = .slice ab nb cb := hfs 8 23 (by kernel_rfl)
        have e9 : vs[9]?.getD undef = .int .i64 (nb : Int) := hfs 9 24 (by kernel_rfl)
        have e10 : vs[10]?.getD undef = .int .i64 (100 * (nb : Int)) := hfs 10 25 (by kernel_rfl)
        have e11 : vs[11]?.getD undef = .int .i64 (10000 * (ki : Int) + 100 * (nb : Int)) := hfs 11 26 (by kernel_rfl)
        have e12 : vs[12]?.getD undef = .pointer (some ⟨bp, 0, none⟩) := hfs 12 27 (by kernel_rfl)
        have e13 : vs[13]?.getD undef = .string ⟨tag.toArray⟩ := hfs 13 28 (by kernel_rfl)
        obtain ⟨b14, e14, f14⟩ : ∃ b, vs[14]?.getD undef = .slice (some ⟨b, 0, none⟩) 1 1 ∧ (LBlk wR b [.string ⟨tag.toArray⟩]) := hfs 14 29 (by kernel_rfl)
        obtain ⟨a15, c15, e15, f15⟩ : ∃ a c, vs[15]?.getD undef = .slice a kt c ∧ (True) := hfs 15 30 (by kernel_rfl)
        have e16 : vs[16]?.getD undef = .int .i64 (kt : Int) := hfs 16 31 (by kernel_rfl)
        have e17 : vs[17]?.getD undef = .int .i64 (10000 * (ki : Int) + 100 * (nb : Int) + (kt : Int)) := hfs 17 32 (by kernel_rfl)
        have e18 : vs[18]?.getD undef = .int .i64 (acc + (10000 * (ki : Int) + 100 * (nb : Int) + (kt : Int))) := hfs 18 33 (by kernel_rfl)
        have e19 : vs[19]?.getD undef = .int .i64 (acc + (10000 * (ki : Int) + 100 * (nb : Int) + (kt : Int))) := hfs 19 3 (by kernel_rfl)
        simp only [RI.mergeL, e0, e1, e2, e3, e4, e5, e6, e7, e8, e9, e10, e11, e12, e13, e14, e15, e16, e17, e18, e19]
        clear hfs hkeep e0 e1 e2 e3 e4 e5 e6 e7 e8 e9 e10 e11 e12 e13 e14 e15 e16 e17 e18 e19
        have hB3 := hB2.trans (hR.mono hB2.size)
        clear HLB HST2 HLD m1 m2 m3 m4 m5
        go_wp2_with fail
        go_roundg (n - (i + 1))
        case measure => omega
        case rel => exact ⟨i + 1, acc + (10000 * (ki : Int) + 100 * (nb : Int) + (kt : Int)), by go_num, by omega, rfl, Lib.hid HT.out.symm, hB3⟩
      · have hlt' : ¬ (i : Int) < (n : Int) := by omega
        have HD := Lib.hid (show acc = ((pts xs).map partWeight).sum by rw [HI.out, List.take_of_length_le (by simp [pts]; rw [HN.out]; omega)])
        go_wp2_with fail
        go_ret
        exact ⟨by rw [HK2.out, HD.out]; rfl, hB0⟩

end Go.Proofs.YtliihnkonakacaaGreatDoor.B10
