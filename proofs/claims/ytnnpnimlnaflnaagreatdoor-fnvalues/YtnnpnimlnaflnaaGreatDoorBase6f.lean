/- Contracts of chapter 6's functions of the reference: l6Read whole, ReadValue. -/
import Derived.Test.YtnnpnimlnaflnaaGreatDoorBase6e
namespace Go.Proofs.YtnnpnimlnaflnaaGreatDoor.V6
open Go.Proofs.YtnnpnimlnaflnaaGreatDoor.P1 Go.Proofs.YtnnpnimlnaflnaaGreatDoor.B1 Go.Proofs.YtnnpnimlnaflnaaGreatDoor.B2 Go.Proofs.YtnnpnimlnaflnaaGreatDoor.T1 Go.Proofs.YtnnpnimlnaflnaaGreatDoor.BT Go.Proofs.YtnnpnimlnaflnaaGreatDoor.P5 Go.Proofs.YtnnpnimlnaflnaaGreatDoor.P6 Go.Proofs.YtnnpnimlnaflnaaGreatDoor.B5 Go.Proofs.YtnnpnimlnaflnaaGreatDoor.B6 Go.Proofs.YtnnpnimlnaflnaaGreatDoor.S7 Go.Proofs.YtnnpnimlnaflnaaGreatDoor.D1 Go.Proofs.YtnnpnimlnaflnaaGreatDoor.DB
open Go.ChangeShapes Go.WideShapes Go.ChangeAt Go.RowKit
set_option linter.unusedVariables false

set_option maxRecDepth 20000 in
set_option maxHeartbeats 4000000 in
theorem l6Read_many (ts : List Tok) (v : Value) (w : World) (h : TokVal w v ts) (hs : ts.length ≤ 1500000) (hx : (squeeze ts).length ≠ 1) (hR : readToks ts = none) :
    Calls Tryz.prog 30 #[v] w (Reads ts w) := by
  have HR2 := Lib.hid (reads_none hR)
  clear hR
  have HQ := Lib.hid (fun w' (hb : Below w.heap.size w w') => SqzS_val ts v w' (h.on hb) hs)
  have hr := res_block w
  have hB : Below w.heap.size w (w.alloc (.cells #[.int .i64 0, .int .i64 0, .int .i64 0, .int .i64 0, .int .i64 0, .int .i64 0, .string ⟨#[]⟩] 25)) := (Below.refl _ _).alloc (Nat.le_refl _) _
  obtain ⟨a, cap, rfl, _⟩ := h.form
  generalize ts.length = nn at HQ
  obtain ⟨xs, ex⟩ : ∃ xs, squeeze ts = xs := ⟨_, rfl⟩
  rw [ex] at HQ hx
  clear h hs ex
  go_enter Tryz.func30, Tryz.ntmps30
  go_wp2_with fail
  generalize w.alloc (.cells #[.int .i64 0, .int .i64 0, .int .i64 0, .int .i64 0, .int .i64 0, .int .i64 0, .string ⟨#[]⟩] 25) = W at *
  refine (HQ.out _ hB).mono ?_
  rintro e w1 ⟨v1, rfl, hx1, g1⟩
  have hr1 := hr.below g1
  have hB1 := hB.trans (g1.mono hB.size)
  generalize hwb : w.heap.size = rb at hr hr1 ⊢
  have HW := Lib.hid hwb
  clear hwb
  obtain ⟨a1, cp, rfl⟩ := toks_form hx1
  have hne1 : ((xs.length : Int) == 1) = false := by simp; omega
  obtain ⟨_, _, _, _, _, _, _, f0, f1, f2, f3, f4, f5, f6⟩ := seven_cells hr1
  go_wp2_with fail
  obtain ⟨p0, p1, p2, p3, p4, p5, p6, _⟩ := seven_cells (put7_blk hr1 (.int .i64 0) (.int .i64 0) (.int .i64 0) (.int .i64 0) (.int .i64 0) (.int .i64 0) (.string ⟨#[]⟩))
  unfold put7 at p0 p1 p2 p3 p4 p5 p6
  exact bodyPost_ret (v := .tuple #[valV (P6.valOf ts), .bool (isVal ts)]) (by rw [HR2.out.1, HR2.out.2]; simp only [results, Tryz.results30]; simp [go_sem, p0, p1, p2, p3, p4, p5, p6, valV, Va.zero]) rfl ⟨rfl, put7_below hB1 (Nat.le_of_eq HW.out) (.int .i64 0) (.int .i64 0) (.int .i64 0) (.int .i64 0) (.int .i64 0) (.int .i64 0) (.string ⟨#[]⟩)⟩

theorem read_all {ts : List Tok} (ha : ts.all tokOk = true) : readToks ts = readOne (squeeze ts) := by
  unfold readToks readOne
  rw [if_pos ha]
  cases squeeze ts with
  | nil => rfl
  | cons x r => cases r <;> rfl

theorem l6Read_val (ts : List Tok) (v : Value) (w : World) (h : TokVal w v ts) (hf : ∀ x ∈ ts, TokFit x) (hs : ts.length ≤ 1500000) (ha : ts.all tokOk = true) :
    Calls Tryz.prog 30 #[v] w (Reads ts w) := by
  have hra := read_all ha
  by_cases hone : (squeeze ts).length = 1
  · obtain ⟨x, hx⟩ : ∃ x, squeeze ts = [x] := List.length_eq_one_iff.1 hone
    have hxm : x ∈ ts := mem_squeeze (by rw [hx]; simp)
    have hxp := ok_P (List.all_eq_true.1 ha x hxm)
    have hxf := (hf x hxm).2.2
    have hR : readToks ts = if valueOk (tokVal x) = true then some (tokVal x) else none := by rw [hra, hx]; rfl
    obtain ⟨k, t, n⟩ := x
    rcases tokP_cases hxp with hk | ⟨hk, ht⟩ | ⟨hk, ht⟩ | ⟨hk, ht, hg⟩ | ⟨hk, ht⟩ | ⟨hk, ht⟩
    · dsimp only at hk hxf
      subst hk
      exact l6Read_word ts n t v w h hs hx hR hxf
    · dsimp only at hk ht
      subst hk
      exact l6Read_num ts n t v w h hs hx hR
    · dsimp only at hk ht
      subst hk
      by_cases h1 : t = [112, 120]
      · have hv : tokVal ⟨3, t, n⟩ = ⟨2, n, 0, 0, 0, 0, []⟩ := by unfold tokVal; dsimp only; rw [if_neg (by decide), if_pos rfl, if_pos h1]
        rw [hv] at hR
        exact l6Read_px ts n t v w h hs hx hR h1
      · by_cases h2 : t = [37]
        · have hv : tokVal ⟨3, t, n⟩ = ⟨3, n, 0, 0, 0, 0, []⟩ := by unfold tokVal; dsimp only; rw [if_neg (by decide), if_pos rfl, if_neg h1, if_pos h2]
          rw [hv] at hR
          exact l6Read_pc ts n t v w h hs hx hR h2
        · have hv : tokVal ⟨3, t, n⟩ = ⟨0, n, 0, 0, 0, 0, []⟩ := by unfold tokVal; dsimp only; rw [if_neg (by decide), if_pos rfl, if_neg h1, if_neg h2]
          rw [hv] at hR
          exact l6Read_unit ts n t v w h hs hx hR h1 h2
    · dsimp only at hk ht hg
      subst hk
      rcases ht with h6 | h8
      · have hv : tokVal ⟨4, t, n⟩ = ⟨4, 0, P6.byteOf t 0, P6.byteOf t 2, P6.byteOf t 4, 255, []⟩ := by unfold tokVal; dsimp only; rw [if_neg (by decide), if_neg (by decide), if_pos rfl, if_neg (by omega)]
        rw [hv] at hR
        exact l6Read_c6 ts n t v w h hs hx hR h6 hg
      · have hv : tokVal ⟨4, t, n⟩ = ⟨4, 0, P6.byteOf t 0, P6.byteOf t 2, P6.byteOf t 4, P6.byteOf t 6, []⟩ := by unfold tokVal; dsimp only; rw [if_neg (by decide), if_neg (by decide), if_pos rfl, if_pos h8]
        rw [hv] at hR
        exact l6Read_c8 ts n t v w h hs hx hR h8 hg
    · dsimp only at hk
      have hv : tokVal ⟨k, t, n⟩ = ⟨0, 0, 0, 0, 0, 0, []⟩ := by
        unfold tokVal
        dsimp only
        rw [if_neg (by omega), if_neg (by omega), if_neg (by omega), if_neg (by omega)]; rfl
      rw [hv] at hR
      exact l6Read_none ts k n t v w h hs hx hR (by omega)
    · dsimp only at hk
      have hv : tokVal ⟨k, t, n⟩ = ⟨0, 0, 0, 0, 0, 0, []⟩ := by
        unfold tokVal
        dsimp only
        rw [if_neg (by omega), if_neg (by omega), if_neg (by omega), if_neg (by omega)]; rfl
      rw [hv] at hR
      exact l6Read_none ts k n t v w h hs hx hR (by omega)
  · refine l6Read_many ts v w h hs hone ?_
    rw [hra]
    unfold readOne
    split
    · next x e => rw [e] at hone; exact absurd rfl hone
    · rfl

set_option maxRecDepth 20000 in
set_option maxHeartbeats 4000000 in
theorem ReadS_val (ts : List Tok) (v : Value) (w : World) (h : TokVal w v ts) (hf : ∀ x ∈ ts, TokFit x) (hs : ts.length ≤ 1500000) :
    Calls Tryz.prog 10 #[v] w (Reads ts w) := by
  have HA := Lib.hid (fun w' (hb : Below w.heap.size w w') => AllS_val ts v w' (h.on hb) hf hs)
  have hr := res_block w
  have hB : Below w.heap.size w (w.alloc (.cells #[.int .i64 0, .int .i64 0, .int .i64 0, .int .i64 0, .int .i64 0, .int .i64 0, .string ⟨#[]⟩] 25)) := (Below.refl _ _).alloc (Nat.le_refl _) _
  cases ha : ts.all tokOk
  · rw [ha] at HA
    have HR2 := Lib.hid (reads_none (show readToks ts = none by unfold readToks; rw [if_neg (by rw [ha]; decide)]))
    obtain ⟨a, cap, rfl, _⟩ := h.form
    generalize ts.length = nn at HA
    clear h hf hs ha
    go_enter Tryz.func10, Tryz.ntmps10
    go_wp2_with fail
    generalize w.alloc (.cells #[.int .i64 0, .int .i64 0, .int .i64 0, .int .i64 0, .int .i64 0, .int .i64 0, .string ⟨#[]⟩] 25) = W at *
    refine (HA.out _ hB).mono ?_
    rintro e w1 ⟨rfl, g1⟩
    have hr1 := hr.below g1
    have hB1 := hB.trans (g1.mono hB.size)
    generalize hwb : w.heap.size = rb at hr hr1 ⊢
    have HW := Lib.hid hwb
    clear hwb
    obtain ⟨_, _, _, _, _, _, _, f0, f1, f2, f3, f4, f5, f6⟩ := seven_cells hr1
    go_wp2_with fail
    obtain ⟨p0, p1, p2, p3, p4, p5, p6, _⟩ := seven_cells (put7_blk hr1 (.int .i64 0) (.int .i64 0) (.int .i64 0) (.int .i64 0) (.int .i64 0) (.int .i64 0) (.string ⟨#[]⟩))
    unfold put7 at p0 p1 p2 p3 p4 p5 p6
    exact bodyPost_ret (v := .tuple #[valV (P6.valOf ts), .bool (isVal ts)]) (by rw [HR2.out.1, HR2.out.2]; simp only [results, Tryz.results10]; simp [go_sem, p0, p1, p2, p3, p4, p5, p6, valV, Va.zero]) rfl ⟨rfl, put7_below hB1 (Nat.le_of_eq HW.out) (.int .i64 0) (.int .i64 0) (.int .i64 0) (.int .i64 0) (.int .i64 0) (.int .i64 0) (.string ⟨#[]⟩)⟩
  · have HL := Lib.hid (fun w' (hb : Below w.heap.size w w') => l6Read_val ts v w' (h.on hb) hf hs ha)
    rw [ha] at HA
    unfold Reads at HL
    obtain ⟨y, ey⟩ : ∃ y, P6.valOf ts = y := ⟨_, rfl⟩
    obtain ⟨I, eI⟩ : ∃ I, isVal ts = I := ⟨_, rfl⟩
    have HR2 := Lib.hid (And.intro ey eI)
    rw [ey, eI] at HL
    obtain ⟨yk, yn, yr, yg, yb, yc, yt⟩ := y
    unfold valV at HL
    dsimp only at HL
    obtain ⟨a, cap, rfl, _⟩ := h.form
    generalize ts.length = nn at HA HL
    clear h hf hs ha ey eI
    go_enter Tryz.func10, Tryz.ntmps10
    go_wp2_with fail
    generalize w.alloc (.cells #[.int .i64 0, .int .i64 0, .int .i64 0, .int .i64 0, .int .i64 0, .int .i64 0, .string ⟨#[]⟩] 25) = W at *
    refine (HA.out _ hB).mono ?_
    rintro e w1 ⟨rfl, g1⟩
    have hr1 := hr.below g1
    have hB1 := hB.trans (g1.mono hB.size)
    generalize hwb : w.heap.size = rb at hr hr1 ⊢
    have HW := Lib.hid hwb
    clear hwb
    go_wp2_with fail
    refine (HL.out _ hB1).mono ?_
    rintro e w2 ⟨rfl, g2⟩
    have hr2 := hr1.below g2
    have hB2 := hB1.trans (g2.mono hB1.size)
    obtain ⟨_, _, _, _, _, _, _, f0, f1, f2, f3, f4, f5, f6⟩ := seven_cells hr2
    go_wp2_with fail
    obtain ⟨p0, p1, p2, p3, p4, p5, p6, _⟩ := seven_cells (put7_blk hr2 (.int .i64 yk) (.int .i64 yn) (.int .i64 yr) (.int .i64 yg) (.int .i64 yb) (.int .i64 yc) (.string ⟨yt.toArray⟩))
    unfold put7 at p0 p1 p2 p3 p4 p5 p6
    exact bodyPost_ret (v := .tuple #[valV (P6.valOf ts), .bool (isVal ts)]) (by rw [HR2.out.1, HR2.out.2]; simp only [results, Tryz.results10]; simp [go_sem, p0, p1, p2, p3, p4, p5, p6, valV]) rfl ⟨rfl, put7_below hB2 (Nat.le_of_eq HW.out) (.int .i64 yk) (.int .i64 yn) (.int .i64 yr) (.int .i64 yg) (.int .i64 yb) (.int .i64 yc) (.string ⟨yt.toArray⟩)⟩

end Go.Proofs.YtnnpnimlnaflnaaGreatDoor.V6
