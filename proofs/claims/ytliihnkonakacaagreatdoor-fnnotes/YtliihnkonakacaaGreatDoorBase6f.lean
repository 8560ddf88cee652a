/- Contracts of chapter 6's functions of the reference: l6Read whole, ReadValue. -/
import Derived.Test.YtliihnkonakacaaGreatDoorBase6e
namespace Go.Proofs.YtliihnkonakacaaGreatDoor.V6
open Go.Proofs.YtliihnkonakacaaGreatDoor.P1 Go.Proofs.YtliihnkonakacaaGreatDoor.B1 Go.Proofs.YtliihnkonakacaaGreatDoor.B2 Go.Proofs.YtliihnkonakacaaGreatDoor.T1 Go.Proofs.YtliihnkonakacaaGreatDoor.BT Go.Proofs.YtliihnkonakacaaGreatDoor.P5 Go.Proofs.YtliihnkonakacaaGreatDoor.P6 Go.Proofs.YtliihnkonakacaaGreatDoor.B5 Go.Proofs.YtliihnkonakacaaGreatDoor.B6 Go.Proofs.YtliihnkonakacaaGreatDoor.S7 Go.Proofs.YtliihnkonakacaaGreatDoor.D1 Go.Proofs.YtliihnkonakacaaGreatDoor.DB
open Go.ChangeShapes Go.WideShapes Go.ChangeAt Go.RowKit
set_option linter.unusedVariables false

set_option maxRecDepth 20000 in
set_option maxHeartbeats 4000000 in
theorem l6Read_many (ts : List Tok) (v : Value) (w : World) (h : TokSlc w v ts) (hs : ts.length ≤ 1500000) (hx : (squeeze ts).length ≠ 1) (hR : readToks ts = none) :
    Calls Tryz.prog 168 #[v] w (Reads ts w) := by
  have HR2 := Lib.hid (reads_none hR)
  clear hR
  have HQ := Lib.hid (fun w' (hb : Below w.heap.size w w') => SqzS_slc ts v w' (h.on hb) hs)
  have hr := res_block w
  have hB : Below w.heap.size w (w.alloc (.cells #[.int .i64 0, .int .i64 0, .int .i64 0, .int .i64 0, .int .i64 0, .int .i64 0, .string ⟨#[]⟩] 54)) := (Below.refl _ _).alloc (Nat.le_refl _) _
  obtain ⟨a, cap, rfl, _⟩ := h.form
  generalize ts.length = nn at HQ
  obtain ⟨xs, ex⟩ : ∃ xs, squeeze ts = xs := ⟨_, rfl⟩
  rw [ex] at HQ hx
  clear h hs ex
  go_enter Tryz.func168, Tryz.ntmps168
  go_wp2_with fail
  generalize w.alloc (.cells #[.int .i64 0, .int .i64 0, .int .i64 0, .int .i64 0, .int .i64 0, .int .i64 0, .string ⟨#[]⟩] 54) = W at *
  refine (HQ.out _ hB).mono ?_
  rintro e w1 ⟨v1, rfl, hx1, g1⟩
  have hr1 := hr.below g1
  have hB1 := hB.trans (g1.mono hB.size)
  generalize hwb : w.heap.size = rb at hr hr1 ⊢
  have HW := Lib.hid hwb
  clear hwb
  obtain ⟨a1, cp, rfl⟩ := toks_form hx1
  have hne1 : ((xs.length : Int) == 1) = false := by simp; omega
  obtain ⟨_, _, _, _, _, _, _, f0, f1, f2, f3, f4, f5, f6⟩ := seven_cells hr1
  go_wp2_with fail
  obtain ⟨p0, p1, p2, p3, p4, p5, p6, _⟩ := seven_cells (put7_blk hr1 (.int .i64 0) (.int .i64 0) (.int .i64 0) (.int .i64 0) (.int .i64 0) (.int .i64 0) (.string ⟨#[]⟩))
  unfold put7 at p0 p1 p2 p3 p4 p5 p6
  exact bodyPost_ret (v := .tuple #[valV (P6.valOf ts), .bool (isVal ts)]) (by rw [HR2.out.1, HR2.out.2]; simp only [results, Tryz.results168]; simp [go_sem, p0, p1, p2, p3, p4, p5, p6, valV, Va.zero]) rfl ⟨rfl, put7_below hB1 (Nat.le_of_eq HW.out) (.int .i64 0) (.int .i64 0) (.int .i64 0) (.int .i64 0) (.int .i64 0) (.int .i64 0) (.string ⟨#[]⟩)⟩

theorem read_all {ts : List Tok} (ha : ts.all tokOk = true) : readToks ts = readOne (squeeze ts) := by
  unfold readToks readOne
  rw [if_pos ha]
  cases squeeze ts with
  | nil => rfl
  | cons x r => cases r <;> rfl

theorem l6Read_val (ts : List Tok) (v : Value) (w : World) (h : TokSlc w v ts) (hf : ∀ x ∈ ts, TokFit x) (hs : ts.length ≤ 1500000) (ha : ts.all tokOk = true) :
    Calls Tryz.prog 168 #[v] w (Reads ts w) := by
  have hra := read_all ha
  by_cases hone : (squeeze ts).length = 1
  · obtain ⟨x, hx⟩ : ∃ x, squeeze ts = [x] := List.length_eq_one_iff.1 hone
    have hxm : x ∈ ts := mem_squeeze (by rw [hx]; simp)
    have hxp := ok_P (List.all_eq_true.1 ha x hxm)
    have hxf := (hf x hxm).2.2
    have hR : readToks ts = if valueOk (tokVal x) = true then some (tokVal x) else none := by rw [hra, hx]; rfl
    obtain ⟨k, t, n⟩ := x
    rcases tokP_cases hxp with hk | ⟨hk, ht⟩ | ⟨hk, ht⟩ | ⟨hk, ht, hg⟩ | ⟨hk, ht⟩ | ⟨hk, ht⟩
    · dsimp only at hk hxf
      subst hk
      exact l6Read_word ts n t v w h hs hx hR hxf
    · dsimp only at hk ht
      subst hk
      exact l6Read_num ts n t v w h hs hx hR
    · dsimp only at hk ht
      subst hk
      by_cases h1 : t = [112, 120]
      · have hv : tokVal ⟨3, t, n⟩ = ⟨2, n, 0, 0, 0, 0, []⟩ := by unfold tokVal; dsimp only; rw [if_neg (by decide), if_pos rfl, if_pos h1]
        rw [hv] at hR
        exact l6Read_px ts n t v w h hs hx hR h1
      · by_cases h2 : t = [37]
        · have hv : tokVal ⟨3, t, n⟩ = ⟨3, n, 0, 0, 0, 0, []⟩ := by unfold tokVal; dsimp only; rw [if_neg (by decide), if_pos rfl, if_neg h1, if_pos h2]
          rw [hv] at hR
          exact l6Read_pc ts n t v w h hs hx hR h2
        · have hv : tokVal ⟨3, t, n⟩ = ⟨0, n, 0, 0, 0, 0, []⟩ := by unfold tokVal; dsimp only; rw [if_neg (by decide), if_pos rfl, if_neg h1, if_neg h2]
          rw [hv] at hR
          exact l6Read_unit ts n t v w h hs hx hR h1 h2
    · dsimp only at hk ht hg
      subst hk
      rcases ht with h6 | h8
      · have hv : tokVal ⟨4, t, n⟩ = ⟨4, 0, P6.byteOf t 0, P6.byteOf t 2, P6.byteOf t 4, 255, []⟩ := by unfold tokVal; dsimp only; rw [if_neg (by decide), if_neg (by decide), if_pos rfl, if_neg (by omega)]
        rw [hv] at hR
        exact l6Read_c6 ts n t v w h hs hx hR h6 hg
      · have hv : tokVal ⟨4, t, n⟩ = ⟨4, 0, P6.byteOf t 0, P6.byteOf t 2, P6.byteOf t 4, P6.byteOf t 6, []⟩ := by unfold tokVal; dsimp only; rw [if_neg (by decide), if_neg (by decide), if_pos rfl, if_pos h8]
        rw [hv] at hR
        exact l6Read_c8 ts n t v w h hs hx hR h8 hg
    · dsimp only at hk
      have hv : tokVal ⟨k, t, n⟩ = ⟨0, 0, 0, 0, 0, 0, []⟩ := by
        unfold tokVal
        dsimp only
        rw [if_neg (by omega), if_neg (by omega), if_neg (by omega), if_neg (by omega)]; rfl
      rw [hv] at hR
      exact l6Read_none ts k n t v w h hs hx hR (by omega)
    · dsimp only at hk
      have hv : tokVal ⟨k, t, n⟩ = ⟨0, 0, 0, 0, 0, 0, []⟩ := by
        unfold tokVal
        dsimp only
        rw [if_neg (by omega), if_neg (by omega), if_neg (by omega), if_neg (by omega)]; rfl
      rw [hv] at hR
      exact l6Read_none ts k n t v w h hs hx hR (by omega)
  · refine l6Read_many ts v w h hs hone ?_
    rw [hra]
    unfold readOne
    split
    · next x e => rw [e] at hone; exact absurd rfl hone
    · rfl

end Go.Proofs.YtliihnkonakacaaGreatDoor.V6
