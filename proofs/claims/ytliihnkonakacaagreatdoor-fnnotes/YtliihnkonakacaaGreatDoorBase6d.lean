/- Contracts of chapter 6's functions of the reference: l6Read, ReadValue. -/
import Derived.Test.YtliihnkonakacaaGreatDoorBase6c
import Derived.Test.YtliihnkonakacaaGreatDoorBase5n
import Derived.Test.YtliihnkonakacaaGreatDoorImp6w
import Derived.Test.YtliihnkonakacaaGreatDoorSqz9
import Derived.Deep.RegionHeld3
namespace Go.Proofs.YtliihnkonakacaaGreatDoor.V6
open Go.Proofs.YtliihnkonakacaaGreatDoor.P1 Go.Proofs.YtliihnkonakacaaGreatDoor.B1 Go.Proofs.YtliihnkonakacaaGreatDoor.B2 Go.Proofs.YtliihnkonakacaaGreatDoor.T1 Go.Proofs.YtliihnkonakacaaGreatDoor.BT Go.Proofs.YtliihnkonakacaaGreatDoor.P5 Go.Proofs.YtliihnkonakacaaGreatDoor.P6 Go.Proofs.YtliihnkonakacaaGreatDoor.B5 Go.Proofs.YtliihnkonakacaaGreatDoor.B6 Go.Proofs.YtliihnkonakacaaGreatDoor.S7 Go.Proofs.YtliihnkonakacaaGreatDoor.D1 Go.Proofs.YtliihnkonakacaaGreatDoor.DB
open Go.ChangeShapes Go.WideShapes Go.ChangeAt Go.RowKit
set_option linter.unusedVariables false

theorem SqzS_val (ts : List Tok) (v : Value) (w : World) (h : TokVal w v ts) (hs : ts.length ≤ 1500000) :
    Calls Tryz.prog 100 #[v] w (Squeezes (squeeze ts) w) := by
  rcases h with ⟨rfl, rfl⟩ | ⟨g, cap, rfl, h⟩
  · exact Squeeze_nil w
  · exact Squeeze_row ts _ g cap w rfl h (by omega)

theorem AllS_val (ts : List Tok) (v : Value) (w : World) (h : TokVal w v ts) (hf : ∀ x ∈ ts, TokFit x) (hs : ts.length ≤ 1500000) :
    Calls Tryz.prog 51 #[v] w (Ans (.bool (ts.all tokOk)) w) := by
  rcases h with ⟨rfl, rfl⟩ | ⟨g, cap, rfl, h⟩
  · exact All_nil w
  · exact All_row ts _ g cap w rfl h hf (by omega)

set_option maxRecDepth 20000 in
set_option maxHeartbeats 4000000 in
theorem l6Read_num (ts : List Tok) (n : Int) (t : List UInt8) (v : Value) (w : World) (h : TokSlc w v ts) (hs : ts.length ≤ 1500000) (hx : squeeze ts = [⟨2, t, n⟩]) (hR : readToks ts = if valueOk ⟨1, n, 0, 0, 0, 0, []⟩ = true then some ⟨1, n, 0, 0, 0, 0, []⟩ else none) :
    Calls Tryz.prog 168 #[v] w (Reads ts w) := by
  have HV := Lib.hid (fun w' => ValueOk_spec ⟨1, n, 0, 0, 0, 0, []⟩ w' (by simp))
  have HR := Lib.hid hR
  obtain ⟨A, eA⟩ : ∃ A, valueOk ⟨1, n, 0, 0, 0, 0, []⟩ = A := ⟨_, rfl⟩
  rw [eA] at HV HR
  unfold valV at HV
  dsimp only at HV
  clear eA hR
  have HQ := Lib.hid (fun w' (hb : Below w.heap.size w w') => SqzS_slc ts v w' (h.on hb) hs)
  have hr := res_block w
  have hB : Below w.heap.size w (w.alloc (.cells #[.int .i64 0, .int .i64 0, .int .i64 0, .int .i64 0, .int .i64 0, .int .i64 0, .string ⟨#[]⟩] 54)) := (Below.refl _ _).alloc (Nat.le_refl _) _
  obtain ⟨a, cap, rfl, _⟩ := h.form
  generalize ts.length = nn at HQ
  rw [hx] at HQ
  clear h hs
  go_enter Tryz.func168, Tryz.ntmps168
  go_wp2_with fail
  generalize w.alloc (.cells #[.int .i64 0, .int .i64 0, .int .i64 0, .int .i64 0, .int .i64 0, .int .i64 0, .string ⟨#[]⟩] 54) = W at *
  refine (HQ.out _ hB).mono ?_
  rintro e w1 ⟨v1, rfl, hx1, g1⟩
  have hr1 := hr.below g1
  have hB1 := hB.trans (g1.mono hB.size)
  generalize hwb : w.heap.size = rb at hr hr1 ⊢
  have HW := Lib.hid hwb
  clear hwb
  rcases Toks.row hx1 with ⟨_, e⟩ | ⟨gq, cp, rfl, _, hrow⟩
  · cases e
  obtain ⟨c0, c1, c2⟩ := hrow.cells 0 _ rfl
  have hcp : (1 : Int) ≤ (cp : Int) := by have := hrow.room; simp at this; omega
  have hcm : (cp : Int) ≤ 9223372036854775807 := by have := hrow.top; omega
  dsimp only at c0 c1 c2
  simp only [List.length_singleton, Nat.zero_mul, Nat.zero_add] at c0 c1 c2 ⊢
  clear hx1 hrow
  have hr2 := (hr1.alloc (.cells #[.int .i64 2, .string ⟨t.toArray⟩, .int .i64 n] 73)).alloc (.cells #[.int .i64 1, .int .i64 n, .int .i64 0, .int .i64 0, .int .i64 0, .int .i64 0, .string ⟨#[]⟩] 54)
  have hB2 := hB1.alloc hB1.size (.cells #[.int .i64 2, .string ⟨t.toArray⟩, .int .i64 n] 73)
  have hB2a := hB2.alloc hB2.size (.cells #[.int .i64 1, .int .i64 n, .int .i64 0, .int .i64 0, .int .i64 0, .int .i64 0, .string ⟨#[]⟩] 54)
  have hv2 : LBlk ((w1.alloc (.cells #[.int .i64 2, .string ⟨t.toArray⟩, .int .i64 n] 73)).alloc (.cells #[.int .i64 1, .int .i64 n, .int .i64 0, .int .i64 0, .int .i64 0, .int .i64 0, .string ⟨#[]⟩] 54)) (w1.heap.size + 1) [.int .i64 1, .int .i64 n, .int .i64 0, .int .i64 0, .int .i64 0, .int .i64 0, .string ⟨#[]⟩] := by
    have := LBlk.new (w1.alloc (.cells #[.int .i64 2, .string ⟨t.toArray⟩, .int .i64 n] 73)) [.int .i64 1, .int .i64 n, .int .i64 0, .int .i64 0, .int .i64 0, .int .i64 0, .string ⟨#[]⟩] 54
    rwa [World.size_alloc] at this
  have hne : rb ≠ w1.heap.size + 1 := by have := hr1.1; omega
  go_wp2_with fail
  generalize (w1.alloc (.cells #[.int .i64 2, .string ⟨t.toArray⟩, .int .i64 n] 73)).alloc (.cells #[.int .i64 1, .int .i64 n, .int .i64 0, .int .i64 0, .int .i64 0, .int .i64 0, .string ⟨#[]⟩] 54) = W2 at *
  generalize w1.heap.size + 1 = bv at *
  refine (HV.out _).mono ?_
  rintro e w3 ⟨rfl, g3⟩
  have hr3 := hr2.below g3
  have hv3 := hv2.below g3
  have hB3 := hB2a.trans (g3.mono hB2a.size)
  obtain ⟨_, _, _, _, _, _, _, f0, f1, f2, f3, f4, f5, f6⟩ := seven_cells hr3
  obtain ⟨d0, d1, d2, d3, d4, d5, d6, _⟩ := seven_cells hv3
  cases A
  · have HR2 := Lib.hid (reads_none (HR.out.trans (if_neg (by decide))))
    go_wp2_with fail
    obtain ⟨p0, p1, p2, p3, p4, p5, p6, _⟩ := seven_cells (put7_blk hr3 (.int .i64 0) (.int .i64 0) (.int .i64 0) (.int .i64 0) (.int .i64 0) (.int .i64 0) (.string ⟨#[]⟩))
    unfold put7 at p0 p1 p2 p3 p4 p5 p6
    exact bodyPost_ret (v := .tuple #[valV (P6.valOf ts), .bool (isVal ts)]) (by rw [HR2.out.1, HR2.out.2]; simp only [results, Tryz.results168]; simp [go_sem, p0, p1, p2, p3, p4, p5, p6, valV, Va.zero]) rfl ⟨rfl, put7_below hB3 (Nat.le_of_eq HW.out) (.int .i64 0) (.int .i64 0) (.int .i64 0) (.int .i64 0) (.int .i64 0) (.int .i64 0) (.string ⟨#[]⟩)⟩
  · have HR2 := Lib.hid (reads_some (HR.out.trans (if_pos rfl)))
    go_wp2_with fail
    obtain ⟨p0, p1, p2, p3, p4, p5, p6, _⟩ := seven_cells (put7_blk hr3 (.int .i64 1) (.int .i64 n) (.int .i64 0) (.int .i64 0) (.int .i64 0) (.int .i64 0) (.string ⟨#[]⟩))
    unfold put7 at p0 p1 p2 p3 p4 p5 p6
    exact bodyPost_ret (v := .tuple #[valV (P6.valOf ts), .bool (isVal ts)]) (by rw [HR2.out.1, HR2.out.2]; simp only [results, Tryz.results168]; simp [go_sem, p0, p1, p2, p3, p4, p5, p6, valV]) rfl ⟨rfl, put7_below hB3 (Nat.le_of_eq HW.out) (.int .i64 1) (.int .i64 n) (.int .i64 0) (.int .i64 0) (.int .i64 0) (.int .i64 0) (.string ⟨#[]⟩)⟩

set_option maxRecDepth 20000 in
set_option maxHeartbeats 4000000 in
theorem l6Read_px (ts : List Tok) (n : Int) (t : List UInt8) (v : Value) (w : World) (h : TokSlc w v ts) (hs : ts.length ≤ 1500000) (hx : squeeze ts = [⟨3, t, n⟩]) (hR : readToks ts = if valueOk ⟨2, n, 0, 0, 0, 0, []⟩ = true then some ⟨2, n, 0, 0, 0, 0, []⟩ else none) (ht : t = [112, 120]) :
    Calls Tryz.prog 168 #[v] w (Reads ts w) := by
  have e1 : (t == [112, 120]) = true := str_same ht
  clear ht
  have HV := Lib.hid (fun w' => ValueOk_spec ⟨2, n, 0, 0, 0, 0, []⟩ w' (by simp))
  have HR := Lib.hid hR
  obtain ⟨A, eA⟩ : ∃ A, valueOk ⟨2, n, 0, 0, 0, 0, []⟩ = A := ⟨_, rfl⟩
  rw [eA] at HV HR
  unfold valV at HV
  dsimp only at HV
  clear eA hR
  have HQ := Lib.hid (fun w' (hb : Below w.heap.size w w') => SqzS_slc ts v w' (h.on hb) hs)
  have hr := res_block w
  have hB : Below w.heap.size w (w.alloc (.cells #[.int .i64 0, .int .i64 0, .int .i64 0, .int .i64 0, .int .i64 0, .int .i64 0, .string ⟨#[]⟩] 54)) := (Below.refl _ _).alloc (Nat.le_refl _) _
  obtain ⟨a, cap, rfl, _⟩ := h.form
  generalize ts.length = nn at HQ
  rw [hx] at HQ
  clear h hs
  go_enter Tryz.func168, Tryz.ntmps168
  go_wp2_with fail
  generalize w.alloc (.cells #[.int .i64 0, .int .i64 0, .int .i64 0, .int .i64 0, .int .i64 0, .int .i64 0, .string ⟨#[]⟩] 54) = W at *
  refine (HQ.out _ hB).mono ?_
  rintro e w1 ⟨v1, rfl, hx1, g1⟩
  have hr1 := hr.below g1
  have hB1 := hB.trans (g1.mono hB.size)
  generalize hwb : w.heap.size = rb at hr hr1 ⊢
  have HW := Lib.hid hwb
  clear hwb
  rcases Toks.row hx1 with ⟨_, e⟩ | ⟨gq, cp, rfl, _, hrow⟩
  · cases e
  obtain ⟨c0, c1, c2⟩ := hrow.cells 0 _ rfl
  have hcp : (1 : Int) ≤ (cp : Int) := by have := hrow.room; simp at this; omega
  have hcm : (cp : Int) ≤ 9223372036854775807 := by have := hrow.top; omega
  dsimp only at c0 c1 c2
  simp only [List.length_singleton, Nat.zero_mul, Nat.zero_add] at c0 c1 c2 ⊢
  clear hx1 hrow
  have hr2 := (hr1.alloc (.cells #[.int .i64 3, .string ⟨t.toArray⟩, .int .i64 n] 73)).alloc (.cells #[.int .i64 2, .int .i64 n, .int .i64 0, .int .i64 0, .int .i64 0, .int .i64 0, .string ⟨#[]⟩] 54)
  have hB2 := hB1.alloc hB1.size (.cells #[.int .i64 3, .string ⟨t.toArray⟩, .int .i64 n] 73)
  have hB2a := hB2.alloc hB2.size (.cells #[.int .i64 2, .int .i64 n, .int .i64 0, .int .i64 0, .int .i64 0, .int .i64 0, .string ⟨#[]⟩] 54)
  have hv2 : LBlk ((w1.alloc (.cells #[.int .i64 3, .string ⟨t.toArray⟩, .int .i64 n] 73)).alloc (.cells #[.int .i64 2, .int .i64 n, .int .i64 0, .int .i64 0, .int .i64 0, .int .i64 0, .string ⟨#[]⟩] 54)) (w1.heap.size + 1) [.int .i64 2, .int .i64 n, .int .i64 0, .int .i64 0, .int .i64 0, .int .i64 0, .string ⟨#[]⟩] := by
    have := LBlk.new (w1.alloc (.cells #[.int .i64 3, .string ⟨t.toArray⟩, .int .i64 n] 73)) [.int .i64 2, .int .i64 n, .int .i64 0, .int .i64 0, .int .i64 0, .int .i64 0, .string ⟨#[]⟩] 54
    rwa [World.size_alloc] at this
  have hne : rb ≠ w1.heap.size + 1 := by have := hr1.1; omega
  go_wp2_with fail
  generalize (w1.alloc (.cells #[.int .i64 3, .string ⟨t.toArray⟩, .int .i64 n] 73)).alloc (.cells #[.int .i64 2, .int .i64 n, .int .i64 0, .int .i64 0, .int .i64 0, .int .i64 0, .string ⟨#[]⟩] 54) = W2 at *
  generalize w1.heap.size + 1 = bv at *
  refine (HV.out _).mono ?_
  rintro e w3 ⟨rfl, g3⟩
  have hr3 := hr2.below g3
  have hv3 := hv2.below g3
  have hB3 := hB2a.trans (g3.mono hB2a.size)
  obtain ⟨_, _, _, _, _, _, _, f0, f1, f2, f3, f4, f5, f6⟩ := seven_cells hr3
  obtain ⟨d0, d1, d2, d3, d4, d5, d6, _⟩ := seven_cells hv3
  cases A
  · have HR2 := Lib.hid (reads_none (HR.out.trans (if_neg (by decide))))
    go_wp2_with fail
    obtain ⟨p0, p1, p2, p3, p4, p5, p6, _⟩ := seven_cells (put7_blk hr3 (.int .i64 0) (.int .i64 0) (.int .i64 0) (.int .i64 0) (.int .i64 0) (.int .i64 0) (.string ⟨#[]⟩))
    unfold put7 at p0 p1 p2 p3 p4 p5 p6
    exact bodyPost_ret (v := .tuple #[valV (P6.valOf ts), .bool (isVal ts)]) (by rw [HR2.out.1, HR2.out.2]; simp only [results, Tryz.results168]; simp [go_sem, p0, p1, p2, p3, p4, p5, p6, valV, Va.zero]) rfl ⟨rfl, put7_below hB3 (Nat.le_of_eq HW.out) (.int .i64 0) (.int .i64 0) (.int .i64 0) (.int .i64 0) (.int .i64 0) (.int .i64 0) (.string ⟨#[]⟩)⟩
  · have HR2 := Lib.hid (reads_some (HR.out.trans (if_pos rfl)))
    go_wp2_with fail
    obtain ⟨p0, p1, p2, p3, p4, p5, p6, _⟩ := seven_cells (put7_blk hr3 (.int .i64 2) (.int .i64 n) (.int .i64 0) (.int .i64 0) (.int .i64 0) (.int .i64 0) (.string ⟨#[]⟩))
    unfold put7 at p0 p1 p2 p3 p4 p5 p6
    exact bodyPost_ret (v := .tuple #[valV (P6.valOf ts), .bool (isVal ts)]) (by rw [HR2.out.1, HR2.out.2]; simp only [results, Tryz.results168]; simp [go_sem, p0, p1, p2, p3, p4, p5, p6, valV]) rfl ⟨rfl, put7_below hB3 (Nat.le_of_eq HW.out) (.int .i64 2) (.int .i64 n) (.int .i64 0) (.int .i64 0) (.int .i64 0) (.int .i64 0) (.string ⟨#[]⟩)⟩

set_option maxRecDepth 20000 in
set_option maxHeartbeats 4000000 in
theorem l6Read_pc (ts : List Tok) (n : Int) (t : List UInt8) (v : Value) (w : World) (h : TokSlc w v ts) (hs : ts.length ≤ 1500000) (hx : squeeze ts = [⟨3, t, n⟩]) (hR : readToks ts = if valueOk ⟨3, n, 0, 0, 0, 0, []⟩ = true then some ⟨3, n, 0, 0, 0, 0, []⟩ else none) (ht : t = [37]) :
    Calls Tryz.prog 168 #[v] w (Reads ts w) := by
  have e1 : (t == [112, 120]) = false := str_other (by rw [ht]; decide)
  have e2 : (t == [37]) = true := str_same ht
  clear ht
  have HV := Lib.hid (fun w' => ValueOk_spec ⟨3, n, 0, 0, 0, 0, []⟩ w' (by simp))
  have HR := Lib.hid hR
  obtain ⟨A, eA⟩ : ∃ A, valueOk ⟨3, n, 0, 0, 0, 0, []⟩ = A := ⟨_, rfl⟩
  rw [eA] at HV HR
  unfold valV at HV
  dsimp only at HV
  clear eA hR
  have HQ := Lib.hid (fun w' (hb : Below w.heap.size w w') => SqzS_slc ts v w' (h.on hb) hs)
  have hr := res_block w
  have hB : Below w.heap.size w (w.alloc (.cells #[.int .i64 0, .int .i64 0, .int .i64 0, .int .i64 0, .int .i64 0, .int .i64 0, .string ⟨#[]⟩] 54)) := (Below.refl _ _).alloc (Nat.le_refl _) _
  obtain ⟨a, cap, rfl, _⟩ := h.form
  generalize ts.length = nn at HQ
  rw [hx] at HQ
  clear h hs
  go_enter Tryz.func168, Tryz.ntmps168
  go_wp2_with fail
  generalize w.alloc (.cells #[.int .i64 0, .int .i64 0, .int .i64 0, .int .i64 0, .int .i64 0, .int .i64 0, .string ⟨#[]⟩] 54) = W at *
  refine (HQ.out _ hB).mono ?_
  rintro e w1 ⟨v1, rfl, hx1, g1⟩
  have hr1 := hr.below g1
  have hB1 := hB.trans (g1.mono hB.size)
  generalize hwb : w.heap.size = rb at hr hr1 ⊢
  have HW := Lib.hid hwb
  clear hwb
  rcases Toks.row hx1 with ⟨_, e⟩ | ⟨gq, cp, rfl, _, hrow⟩
  · cases e
  obtain ⟨c0, c1, c2⟩ := hrow.cells 0 _ rfl
  have hcp : (1 : Int) ≤ (cp : Int) := by have := hrow.room; simp at this; omega
  have hcm : (cp : Int) ≤ 9223372036854775807 := by have := hrow.top; omega
  dsimp only at c0 c1 c2
  simp only [List.length_singleton, Nat.zero_mul, Nat.zero_add] at c0 c1 c2 ⊢
  clear hx1 hrow
  have hr2 := (hr1.alloc (.cells #[.int .i64 3, .string ⟨t.toArray⟩, .int .i64 n] 73)).alloc (.cells #[.int .i64 3, .int .i64 n, .int .i64 0, .int .i64 0, .int .i64 0, .int .i64 0, .string ⟨#[]⟩] 54)
  have hB2 := hB1.alloc hB1.size (.cells #[.int .i64 3, .string ⟨t.toArray⟩, .int .i64 n] 73)
  have hB2a := hB2.alloc hB2.size (.cells #[.int .i64 3, .int .i64 n, .int .i64 0, .int .i64 0, .int .i64 0, .int .i64 0, .string ⟨#[]⟩] 54)
  have hv2 : LBlk ((w1.alloc (.cells #[.int .i64 3, .string ⟨t.toArray⟩, .int .i64 n] 73)).alloc (.cells #[.int .i64 3, .int .i64 n, .int .i64 0, .int .i64 0, .int .i64 0, .int .i64 0, .string ⟨#[]⟩] 54)) (w1.heap.size + 1) [.int .i64 3, .int .i64 n, .int .i64 0, .int .i64 0, .int .i64 0, .int .i64 0, .string ⟨#[]⟩] := by
    have := LBlk.new (w1.alloc (.cells #[.int .i64 3, .string ⟨t.toArray⟩, .int .i64 n] 73)) [.int .i64 3, .int .i64 n, .int .i64 0, .int .i64 0, .int .i64 0, .int .i64 0, .string ⟨#[]⟩] 54
    rwa [World.size_alloc] at this
  have hne : rb ≠ w1.heap.size + 1 := by have := hr1.1; omega
  go_wp2_with fail
  generalize (w1.alloc (.cells #[.int .i64 3, .string ⟨t.toArray⟩, .int .i64 n] 73)).alloc (.cells #[.int .i64 3, .int .i64 n, .int .i64 0, .int .i64 0, .int .i64 0, .int .i64 0, .string ⟨#[]⟩] 54) = W2 at *
  generalize w1.heap.size + 1 = bv at *
  refine (HV.out _).mono ?_
  rintro e w3 ⟨rfl, g3⟩
  have hr3 := hr2.below g3
  have hv3 := hv2.below g3
  have hB3 := hB2a.trans (g3.mono hB2a.size)
  obtain ⟨_, _, _, _, _, _, _, f0, f1, f2, f3, f4, f5, f6⟩ := seven_cells hr3
  obtain ⟨d0, d1, d2, d3, d4, d5, d6, _⟩ := seven_cells hv3
  cases A
  · have HR2 := Lib.hid (reads_none (HR.out.trans (if_neg (by decide))))
    go_wp2_with fail
    obtain ⟨p0, p1, p2, p3, p4, p5, p6, _⟩ := seven_cells (put7_blk hr3 (.int .i64 0) (.int .i64 0) (.int .i64 0) (.int .i64 0) (.int .i64 0) (.int .i64 0) (.string ⟨#[]⟩))
    unfold put7 at p0 p1 p2 p3 p4 p5 p6
    exact bodyPost_ret (v := .tuple #[valV (P6.valOf ts), .bool (isVal ts)]) (by rw [HR2.out.1, HR2.out.2]; simp only [results, Tryz.results168]; simp [go_sem, p0, p1, p2, p3, p4, p5, p6, valV, Va.zero]) rfl ⟨rfl, put7_below hB3 (Nat.le_of_eq HW.out) (.int .i64 0) (.int .i64 0) (.int .i64 0) (.int .i64 0) (.int .i64 0) (.int .i64 0) (.string ⟨#[]⟩)⟩
  · have HR2 := Lib.hid (reads_some (HR.out.trans (if_pos rfl)))
    go_wp2_with fail
    obtain ⟨p0, p1, p2, p3, p4, p5, p6, _⟩ := seven_cells (put7_blk hr3 (.int .i64 3) (.int .i64 n) (.int .i64 0) (.int .i64 0) (.int .i64 0) (.int .i64 0) (.string ⟨#[]⟩))
    unfold put7 at p0 p1 p2 p3 p4 p5 p6
    exact bodyPost_ret (v := .tuple #[valV (P6.valOf ts), .bool (isVal ts)]) (by rw [HR2.out.1, HR2.out.2]; simp only [results, Tryz.results168]; simp [go_sem, p0, p1, p2, p3, p4, p5, p6, valV]) rfl ⟨rfl, put7_below hB3 (Nat.le_of_eq HW.out) (.int .i64 3) (.int .i64 n) (.int .i64 0) (.int .i64 0) (.int .i64 0) (.int .i64 0) (.string ⟨#[]⟩)⟩

set_option maxRecDepth 20000 in
set_option maxHeartbeats 4000000 in
theorem l6Read_unit (ts : List Tok) (n : Int) (t : List UInt8) (v : Value) (w : World) (h : TokSlc w v ts) (hs : ts.length ≤ 1500000) (hx : squeeze ts = [⟨3, t, n⟩]) (hR : readToks ts = if valueOk ⟨0, n, 0, 0, 0, 0, []⟩ = true then some ⟨0, n, 0, 0, 0, 0, []⟩ else none) (h1 : t ≠ [112, 120]) (h2 : t ≠ [37]) :
    Calls Tryz.prog 168 #[v] w (Reads ts w) := by
  have e1 : (t == [112, 120]) = false := str_other h1
  have e2 : (t == [37]) = false := str_other h2
  clear h1 h2
  have HV := Lib.hid (fun w' => ValueOk_spec ⟨0, n, 0, 0, 0, 0, []⟩ w' (by simp))
  have HR := Lib.hid hR
  obtain ⟨A, eA⟩ : ∃ A, valueOk ⟨0, n, 0, 0, 0, 0, []⟩ = A := ⟨_, rfl⟩
  rw [eA] at HV HR
  unfold valV at HV
  dsimp only at HV
  clear eA hR
  have HQ := Lib.hid (fun w' (hb : Below w.heap.size w w') => SqzS_slc ts v w' (h.on hb) hs)
  have hr := res_block w
  have hB : Below w.heap.size w (w.alloc (.cells #[.int .i64 0, .int .i64 0, .int .i64 0, .int .i64 0, .int .i64 0, .int .i64 0, .string ⟨#[]⟩] 54)) := (Below.refl _ _).alloc (Nat.le_refl _) _
  obtain ⟨a, cap, rfl, _⟩ := h.form
  generalize ts.length = nn at HQ
  rw [hx] at HQ
  clear h hs
  go_enter Tryz.func168, Tryz.ntmps168
  go_wp2_with fail
  generalize w.alloc (.cells #[.int .i64 0, .int .i64 0, .int .i64 0, .int .i64 0, .int .i64 0, .int .i64 0, .string ⟨#[]⟩] 54) = W at *
  refine (HQ.out _ hB).mono ?_
  rintro e w1 ⟨v1, rfl, hx1, g1⟩
  have hr1 := hr.below g1
  have hB1 := hB.trans (g1.mono hB.size)
  generalize hwb : w.heap.size = rb at hr hr1 ⊢
  have HW := Lib.hid hwb
  clear hwb
  rcases Toks.row hx1 with ⟨_, e⟩ | ⟨gq, cp, rfl, _, hrow⟩
  · cases e
  obtain ⟨c0, c1, c2⟩ := hrow.cells 0 _ rfl
  have hcp : (1 : Int) ≤ (cp : Int) := by have := hrow.room; simp at this; omega
  have hcm : (cp : Int) ≤ 9223372036854775807 := by have := hrow.top; omega
  dsimp only at c0 c1 c2
  simp only [List.length_singleton, Nat.zero_mul, Nat.zero_add] at c0 c1 c2 ⊢
  clear hx1 hrow
  have hr2 := (hr1.alloc (.cells #[.int .i64 3, .string ⟨t.toArray⟩, .int .i64 n] 73)).alloc (.cells #[.int .i64 0, .int .i64 n, .int .i64 0, .int .i64 0, .int .i64 0, .int .i64 0, .string ⟨#[]⟩] 54)
  have hB2 := hB1.alloc hB1.size (.cells #[.int .i64 3, .string ⟨t.toArray⟩, .int .i64 n] 73)
  have hB2a := hB2.alloc hB2.size (.cells #[.int .i64 0, .int .i64 n, .int .i64 0, .int .i64 0, .int .i64 0, .int .i64 0, .string ⟨#[]⟩] 54)
  have hv2 : LBlk ((w1.alloc (.cells #[.int .i64 3, .string ⟨t.toArray⟩, .int .i64 n] 73)).alloc (.cells #[.int .i64 0, .int .i64 n, .int .i64 0, .int .i64 0, .int .i64 0, .int .i64 0, .string ⟨#[]⟩] 54)) (w1.heap.size + 1) [.int .i64 0, .int .i64 n, .int .i64 0, .int .i64 0, .int .i64 0, .int .i64 0, .string ⟨#[]⟩] := by
    have := LBlk.new (w1.alloc (.cells #[.int .i64 3, .string ⟨t.toArray⟩, .int .i64 n] 73)) [.int .i64 0, .int .i64 n, .int .i64 0, .int .i64 0, .int .i64 0, .int .i64 0, .string ⟨#[]⟩] 54
    rwa [World.size_alloc] at this
  have hne : rb ≠ w1.heap.size + 1 := by have := hr1.1; omega
  go_wp2_with fail
  generalize (w1.alloc (.cells #[.int .i64 3, .string ⟨t.toArray⟩, .int .i64 n] 73)).alloc (.cells #[.int .i64 0, .int .i64 n, .int .i64 0, .int .i64 0, .int .i64 0, .int .i64 0, .string ⟨#[]⟩] 54) = W2 at *
  generalize w1.heap.size + 1 = bv at *
  refine (HV.out _).mono ?_
  rintro e w3 ⟨rfl, g3⟩
  have hr3 := hr2.below g3
  have hv3 := hv2.below g3
  have hB3 := hB2a.trans (g3.mono hB2a.size)
  obtain ⟨_, _, _, _, _, _, _, f0, f1, f2, f3, f4, f5, f6⟩ := seven_cells hr3
  obtain ⟨d0, d1, d2, d3, d4, d5, d6, _⟩ := seven_cells hv3
  cases A
  · have HR2 := Lib.hid (reads_none (HR.out.trans (if_neg (by decide))))
    go_wp2_with fail
    obtain ⟨p0, p1, p2, p3, p4, p5, p6, _⟩ := seven_cells (put7_blk hr3 (.int .i64 0) (.int .i64 0) (.int .i64 0) (.int .i64 0) (.int .i64 0) (.int .i64 0) (.string ⟨#[]⟩))
    unfold put7 at p0 p1 p2 p3 p4 p5 p6
    exact bodyPost_ret (v := .tuple #[valV (P6.valOf ts), .bool (isVal ts)]) (by rw [HR2.out.1, HR2.out.2]; simp only [results, Tryz.results168]; simp [go_sem, p0, p1, p2, p3, p4, p5, p6, valV, Va.zero]) rfl ⟨rfl, put7_below hB3 (Nat.le_of_eq HW.out) (.int .i64 0) (.int .i64 0) (.int .i64 0) (.int .i64 0) (.int .i64 0) (.int .i64 0) (.string ⟨#[]⟩)⟩
  · have HR2 := Lib.hid (reads_some (HR.out.trans (if_pos rfl)))
    go_wp2_with fail
    obtain ⟨p0, p1, p2, p3, p4, p5, p6, _⟩ := seven_cells (put7_blk hr3 (.int .i64 0) (.int .i64 n) (.int .i64 0) (.int .i64 0) (.int .i64 0) (.int .i64 0) (.string ⟨#[]⟩))
    unfold put7 at p0 p1 p2 p3 p4 p5 p6
    exact bodyPost_ret (v := .tuple #[valV (P6.valOf ts), .bool (isVal ts)]) (by rw [HR2.out.1, HR2.out.2]; simp only [results, Tryz.results168]; simp [go_sem, p0, p1, p2, p3, p4, p5, p6, valV]) rfl ⟨rfl, put7_below hB3 (Nat.le_of_eq HW.out) (.int .i64 0) (.int .i64 n) (.int .i64 0) (.int .i64 0) (.int .i64 0) (.int .i64 0) (.string ⟨#[]⟩)⟩

set_option maxRecDepth 20000 in
set_option maxHeartbeats 4000000 in
theorem l6Read_word (ts : List Tok) (n : Int) (t : List UInt8) (v : Value) (w : World) (h : TokSlc w v ts) (hs : ts.length ≤ 1500000) (hx : squeeze ts = [⟨1, t, n⟩]) (hR : readToks ts = if valueOk ⟨5, 0, 0, 0, 0, 0, t⟩ = true then some ⟨5, 0, 0, 0, 0, 0, t⟩ else none) (hl : t.length ≤ 1048576) :
    Calls Tryz.prog 168 #[v] w (Reads ts w) := by
  have HV := Lib.hid (fun w' => ValueOk_spec ⟨5, 0, 0, 0, 0, 0, t⟩ w' hl)
  have HR := Lib.hid hR
  obtain ⟨A, eA⟩ : ∃ A, valueOk ⟨5, 0, 0, 0, 0, 0, t⟩ = A := ⟨_, rfl⟩
  rw [eA] at HV HR
  unfold valV at HV
  dsimp only at HV
  clear eA hR
  have HQ := Lib.hid (fun w' (hb : Below w.heap.size w w') => SqzS_slc ts v w' (h.on hb) hs)
  have hr := res_block w
  have hB : Below w.heap.size w (w.alloc (.cells #[.int .i64 0, .int .i64 0, .int .i64 0, .int .i64 0, .int .i64 0, .int .i64 0, .string ⟨#[]⟩] 54)) := (Below.refl _ _).alloc (Nat.le_refl _) _
  obtain ⟨a, cap, rfl, _⟩ := h.form
  generalize ts.length = nn at HQ
  rw [hx] at HQ
  clear h hs
  go_enter Tryz.func168, Tryz.ntmps168
  go_wp2_with fail
  generalize w.alloc (.cells #[.int .i64 0, .int .i64 0, .int .i64 0, .int .i64 0, .int .i64 0, .int .i64 0, .string ⟨#[]⟩] 54) = W at *
  refine (HQ.out _ hB).mono ?_
  rintro e w1 ⟨v1, rfl, hx1, g1⟩
  have hr1 := hr.below g1
  have hB1 := hB.trans (g1.mono hB.size)
  generalize hwb : w.heap.size = rb at hr hr1 ⊢
  have HW := Lib.hid hwb
  clear hwb
  rcases Toks.row hx1 with ⟨_, e⟩ | ⟨gq, cp, rfl, _, hrow⟩
  · cases e
  obtain ⟨c0, c1, c2⟩ := hrow.cells 0 _ rfl
  have hcp : (1 : Int) ≤ (cp : Int) := by have := hrow.room; simp at this; omega
  have hcm : (cp : Int) ≤ 9223372036854775807 := by have := hrow.top; omega
  dsimp only at c0 c1 c2
  simp only [List.length_singleton, Nat.zero_mul, Nat.zero_add] at c0 c1 c2 ⊢
  clear hx1 hrow
  have hr2 := (hr1.alloc (.cells #[.int .i64 1, .string ⟨t.toArray⟩, .int .i64 n] 73)).alloc (.cells #[.int .i64 5, .int .i64 0, .int .i64 0, .int .i64 0, .int .i64 0, .int .i64 0, .string ⟨t.toArray⟩] 54)
  have hB2 := hB1.alloc hB1.size (.cells #[.int .i64 1, .string ⟨t.toArray⟩, .int .i64 n] 73)
  have hB2a := hB2.alloc hB2.size (.cells #[.int .i64 5, .int .i64 0, .int .i64 0, .int .i64 0, .int .i64 0, .int .i64 0, .string ⟨t.toArray⟩] 54)
  have hv2 : LBlk ((w1.alloc (.cells #[.int .i64 1, .string ⟨t.toArray⟩, .int .i64 n] 73)).alloc (.cells #[.int .i64 5, .int .i64 0, .int .i64 0, .int .i64 0, .int .i64 0, .int .i64 0, .string ⟨t.toArray⟩] 54)) (w1.heap.size + 1) [.int .i64 5, .int .i64 0, .int .i64 0, .int .i64 0, .int .i64 0, .int .i64 0, .string ⟨t.toArray⟩] := by
    have := LBlk.new (w1.alloc (.cells #[.int .i64 1, .string ⟨t.toArray⟩, .int .i64 n] 73)) [.int .i64 5, .int .i64 0, .int .i64 0, .int .i64 0, .int .i64 0, .int .i64 0, .string ⟨t.toArray⟩] 54
    rwa [World.size_alloc] at this
  have hne : rb ≠ w1.heap.size + 1 := by have := hr1.1; omega
  go_wp2_with fail
  generalize (w1.alloc (.cells #[.int .i64 1, .string ⟨t.toArray⟩, .int .i64 n] 73)).alloc (.cells #[.int .i64 5, .int .i64 0, .int .i64 0, .int .i64 0, .int .i64 0, .int .i64 0, .string ⟨t.toArray⟩] 54) = W2 at *
  generalize w1.heap.size + 1 = bv at *
  refine (HV.out _).mono ?_
  rintro e w3 ⟨rfl, g3⟩
  have hr3 := hr2.below g3
  have hv3 := hv2.below g3
  have hB3 := hB2a.trans (g3.mono hB2a.size)
  obtain ⟨_, _, _, _, _, _, _, f0, f1, f2, f3, f4, f5, f6⟩ := seven_cells hr3
  obtain ⟨d0, d1, d2, d3, d4, d5, d6, _⟩ := seven_cells hv3
  cases A
  · have HR2 := Lib.hid (reads_none (HR.out.trans (if_neg (by decide))))
    go_wp2_with fail
    obtain ⟨p0, p1, p2, p3, p4, p5, p6, _⟩ := seven_cells (put7_blk hr3 (.int .i64 0) (.int .i64 0) (.int .i64 0) (.int .i64 0) (.int .i64 0) (.int .i64 0) (.string ⟨#[]⟩))
    unfold put7 at p0 p1 p2 p3 p4 p5 p6
    exact bodyPost_ret (v := .tuple #[valV (P6.valOf ts), .bool (isVal ts)]) (by rw [HR2.out.1, HR2.out.2]; simp only [results, Tryz.results168]; simp [go_sem, p0, p1, p2, p3, p4, p5, p6, valV, Va.zero]) rfl ⟨rfl, put7_below hB3 (Nat.le_of_eq HW.out) (.int .i64 0) (.int .i64 0) (.int .i64 0) (.int .i64 0) (.int .i64 0) (.int .i64 0) (.string ⟨#[]⟩)⟩
  · have HR2 := Lib.hid (reads_some (HR.out.trans (if_pos rfl)))
    go_wp2_with fail
    obtain ⟨p0, p1, p2, p3, p4, p5, p6, _⟩ := seven_cells (put7_blk hr3 (.int .i64 5) (.int .i64 0) (.int .i64 0) (.int .i64 0) (.int .i64 0) (.int .i64 0) (.string ⟨t.toArray⟩))
    unfold put7 at p0 p1 p2 p3 p4 p5 p6
    exact bodyPost_ret (v := .tuple #[valV (P6.valOf ts), .bool (isVal ts)]) (by rw [HR2.out.1, HR2.out.2]; simp only [results, Tryz.results168]; simp [go_sem, p0, p1, p2, p3, p4, p5, p6, valV]) rfl ⟨rfl, put7_below hB3 (Nat.le_of_eq HW.out) (.int .i64 5) (.int .i64 0) (.int .i64 0) (.int .i64 0) (.int .i64 0) (.int .i64 0) (.string ⟨t.toArray⟩)⟩

set_option maxRecDepth 20000 in
set_option maxHeartbeats 4000000 in
theorem l6Read_none (ts : List Tok) (k n : Int) (t : List UInt8) (v : Value) (w : World) (h : TokSlc w v ts) (hs : ts.length ≤ 1500000) (hx : squeeze ts = [⟨k, t, n⟩]) (hR : readToks ts = if valueOk ⟨0, 0, 0, 0, 0, 0, []⟩ = true then some ⟨0, 0, 0, 0, 0, 0, []⟩ else none) (hk : k ≠ 1 ∧ k ≠ 2 ∧ k ≠ 3 ∧ k ≠ 4) :
    Calls Tryz.prog 168 #[v] w (Reads ts w) := by
  have k1 : (k == 1) = false := by simpa using hk.1
  have k2 : (k == 2) = false := by simpa using hk.2.1
  have k3 : (k == 3) = false := by simpa using hk.2.2.1
  have k4 : (k == 4) = false := by simpa using hk.2.2.2
  clear hk
  have HV := Lib.hid (fun w' => ValueOk_spec ⟨0, 0, 0, 0, 0, 0, []⟩ w' (by simp))
  have HR := Lib.hid hR
  obtain ⟨A, eA⟩ : ∃ A, valueOk ⟨0, 0, 0, 0, 0, 0, []⟩ = A := ⟨_, rfl⟩
  rw [eA] at HV HR
  unfold valV at HV
  dsimp only at HV
  clear eA hR
  have HQ := Lib.hid (fun w' (hb : Below w.heap.size w w') => SqzS_slc ts v w' (h.on hb) hs)
  have hr := res_block w
  have hB : Below w.heap.size w (w.alloc (.cells #[.int .i64 0, .int .i64 0, .int .i64 0, .int .i64 0, .int .i64 0, .int .i64 0, .string ⟨#[]⟩] 54)) := (Below.refl _ _).alloc (Nat.le_refl _) _
  obtain ⟨a, cap, rfl, _⟩ := h.form
  generalize ts.length = nn at HQ
  rw [hx] at HQ
  clear h hs
  go_enter Tryz.func168, Tryz.ntmps168
  go_wp2_with fail
  generalize w.alloc (.cells #[.int .i64 0, .int .i64 0, .int .i64 0, .int .i64 0, .int .i64 0, .int .i64 0, .string ⟨#[]⟩] 54) = W at *
  refine (HQ.out _ hB).mono ?_
  rintro e w1 ⟨v1, rfl, hx1, g1⟩
  have hr1 := hr.below g1
  have hB1 := hB.trans (g1.mono hB.size)
  generalize hwb : w.heap.size = rb at hr hr1 ⊢
  have HW := Lib.hid hwb
  clear hwb
  rcases Toks.row hx1 with ⟨_, e⟩ | ⟨gq, cp, rfl, _, hrow⟩
  · cases e
  obtain ⟨c0, c1, c2⟩ := hrow.cells 0 _ rfl
  have hcp : (1 : Int) ≤ (cp : Int) := by have := hrow.room; simp at this; omega
  have hcm : (cp : Int) ≤ 9223372036854775807 := by have := hrow.top; omega
  dsimp only at c0 c1 c2
  simp only [List.length_singleton, Nat.zero_mul, Nat.zero_add] at c0 c1 c2 ⊢
  clear hx1 hrow
  have hr2 := (hr1.alloc (.cells #[.int .i64 k, .string ⟨t.toArray⟩, .int .i64 n] 73)).alloc (.cells #[.int .i64 0, .int .i64 0, .int .i64 0, .int .i64 0, .int .i64 0, .int .i64 0, .string ⟨#[]⟩] 54)
  have hB2 := hB1.alloc hB1.size (.cells #[.int .i64 k, .string ⟨t.toArray⟩, .int .i64 n] 73)
  have hB2a := hB2.alloc hB2.size (.cells #[.int .i64 0, .int .i64 0, .int .i64 0, .int .i64 0, .int .i64 0, .int .i64 0, .string ⟨#[]⟩] 54)
  have hv2 : LBlk ((w1.alloc (.cells #[.int .i64 k, .string ⟨t.toArray⟩, .int .i64 n] 73)).alloc (.cells #[.int .i64 0, .int .i64 0, .int .i64 0, .int .i64 0, .int .i64 0, .int .i64 0, .string ⟨#[]⟩] 54)) (w1.heap.size + 1) [.int .i64 0, .int .i64 0, .int .i64 0, .int .i64 0, .int .i64 0, .int .i64 0, .string ⟨#[]⟩] := by
    have := LBlk.new (w1.alloc (.cells #[.int .i64 k, .string ⟨t.toArray⟩, .int .i64 n] 73)) [.int .i64 0, .int .i64 0, .int .i64 0, .int .i64 0, .int .i64 0, .int .i64 0, .string ⟨#[]⟩] 54
    rwa [World.size_alloc] at this
  have hne : rb ≠ w1.heap.size + 1 := by have := hr1.1; omega
  go_wp2_with fail
  generalize (w1.alloc (.cells #[.int .i64 k, .string ⟨t.toArray⟩, .int .i64 n] 73)).alloc (.cells #[.int .i64 0, .int .i64 0, .int .i64 0, .int .i64 0, .int .i64 0, .int .i64 0, .string ⟨#[]⟩] 54) = W2 at *
  generalize w1.heap.size + 1 = bv at *
  refine (HV.out _).mono ?_
  rintro e w3 ⟨rfl, g3⟩
  have hr3 := hr2.below g3
  have hv3 := hv2.below g3
  have hB3 := hB2a.trans (g3.mono hB2a.size)
  obtain ⟨_, _, _, _, _, _, _, f0, f1, f2, f3, f4, f5, f6⟩ := seven_cells hr3
  obtain ⟨d0, d1, d2, d3, d4, d5, d6, _⟩ := seven_cells hv3
  cases A
  · have HR2 := Lib.hid (reads_none (HR.out.trans (if_neg (by decide))))
    go_wp2_with fail
    obtain ⟨p0, p1, p2, p3, p4, p5, p6, _⟩ := seven_cells (put7_blk hr3 (.int .i64 0) (.int .i64 0) (.int .i64 0) (.int .i64 0) (.int .i64 0) (.int .i64 0) (.string ⟨#[]⟩))
    unfold put7 at p0 p1 p2 p3 p4 p5 p6
    exact bodyPost_ret (v := .tuple #[valV (P6.valOf ts), .bool (isVal ts)]) (by rw [HR2.out.1, HR2.out.2]; simp only [results, Tryz.results168]; simp [go_sem, p0, p1, p2, p3, p4, p5, p6, valV, Va.zero]) rfl ⟨rfl, put7_below hB3 (Nat.le_of_eq HW.out) (.int .i64 0) (.int .i64 0) (.int .i64 0) (.int .i64 0) (.int .i64 0) (.int .i64 0) (.string ⟨#[]⟩)⟩
  · have HR2 := Lib.hid (reads_some (HR.out.trans (if_pos rfl)))
    go_wp2_with fail
    obtain ⟨p0, p1, p2, p3, p4, p5, p6, _⟩ := seven_cells (put7_blk hr3 (.int .i64 0) (.int .i64 0) (.int .i64 0) (.int .i64 0) (.int .i64 0) (.int .i64 0) (.string ⟨#[]⟩))
    unfold put7 at p0 p1 p2 p3 p4 p5 p6
    exact bodyPost_ret (v := .tuple #[valV (P6.valOf ts), .bool (isVal ts)]) (by rw [HR2.out.1, HR2.out.2]; simp only [results, Tryz.results168]; simp [go_sem, p0, p1, p2, p3, p4, p5, p6, valV]) rfl ⟨rfl, put7_below hB3 (Nat.le_of_eq HW.out) (.int .i64 0) (.int .i64 0) (.int .i64 0) (.int .i64 0) (.int .i64 0) (.int .i64 0) (.string ⟨#[]⟩)⟩

end Go.Proofs.YtliihnkonakacaaGreatDoor.V6
