/- Contracts of chapter 6's functions of the reference: l6Read of a color, ReadValue. -/
import Derived.Test.YtliihnkonakacaaGreatDoorBase6d
namespace Go.Proofs.YtliihnkonakacaaGreatDoor.V6
open Go.Proofs.YtliihnkonakacaaGreatDoor.P1 Go.Proofs.YtliihnkonakacaaGreatDoor.B1 Go.Proofs.YtliihnkonakacaaGreatDoor.B2 Go.Proofs.YtliihnkonakacaaGreatDoor.T1 Go.Proofs.YtliihnkonakacaaGreatDoor.BT Go.Proofs.YtliihnkonakacaaGreatDoor.P5 Go.Proofs.YtliihnkonakacaaGreatDoor.P6 Go.Proofs.YtliihnkonakacaaGreatDoor.B5 Go.Proofs.YtliihnkonakacaaGreatDoor.B6 Go.Proofs.YtliihnkonakacaaGreatDoor.S7 Go.Proofs.YtliihnkonakacaaGreatDoor.D1 Go.Proofs.YtliihnkonakacaaGreatDoor.DB
open Go.ChangeShapes Go.WideShapes Go.ChangeAt Go.RowKit
set_option linter.unusedVariables false

theorem ByteB_spec (l : List UInt8) (i : Nat) (w : World) (hi : i + 1 < l.length) (hi2 : i ≤ 100) (g : ∀ b ∈ l, isHex b = true) :
    Calls Tryz.prog 200 #[.string ⟨l.toArray⟩, .int .i64 (i : Int)] w (Ans (.int .i64 (P6.byteOf l i)) w) := by
  have h0 : l[i]? = some l[i] := List.getElem?_eq_getElem (by omega)
  have h1 : l[i + 1]? = some l[i + 1] := List.getElem?_eq_getElem hi
  refine (Byte_spec l i _ _ w hi2 h0 h1 (g _ (List.getElem_mem _)) (g _ (List.getElem_mem _))).mono ?_
  rintro e w' ⟨he, q, rfl⟩
  exact ⟨he, Below.drewN (Below.refl _ _) q⟩

theorem cell1_put {w : World} {b c : Nat} {u1 : Value} (hc : c ≠ b) (t1 : w.cell? ⟨c, 1, none⟩ = some u1) (hl : c < w.heap.size) (v0 v1 v2 v3 v4 v5 v6 : Value) :
    (put7 w b v0 v1 v2 v3 v4 v5 v6).cell? ⟨c, 1, none⟩ = some u1 ∧ c < (put7 w b v0 v1 v2 v3 v4 v5 v6).heap.size :=
  ⟨(put7_cell (p := ⟨c, 1, none⟩) hc _ _ _ _ _ _ _).trans t1, by rw [put7_size]; exact hl⟩

theorem cell1_call {w w2 : World} {c : Nat} {u1 : Value} (g : Below w.heap.size w w2) (t1 : w.cell? ⟨c, 1, none⟩ = some u1) (hl : c < w.heap.size) : w2.cell? ⟨c, 1, none⟩ = some u1 ∧ c < w2.heap.size :=
  ⟨(g.cell (p := ⟨c, 1, none⟩) hl).trans t1, Nat.lt_of_lt_of_le hl g.size⟩

set_option maxRecDepth 20000 in
set_option maxHeartbeats 4000000 in
theorem l6Read_c8 (ts : List Tok) (n : Int) (t : List UInt8) (v : Value) (w : World) (h : TokSlc w v ts) (hs : ts.length ≤ 1500000) (hx : squeeze ts = [⟨4, t, n⟩]) (hR : readToks ts = if valueOk ⟨4, 0, P6.byteOf t 0, P6.byteOf t 2, P6.byteOf t 4, P6.byteOf t 6, []⟩ = true then some ⟨4, 0, P6.byteOf t 0, P6.byteOf t 2, P6.byteOf t 4, P6.byteOf t 6, []⟩ else none) (hl : t.length = 8) (g : ∀ b ∈ t, isHex b = true) :
    Calls Tryz.prog 168 #[v] w (Reads ts w) := by
  have hlen := fun (w' : World) (ty : TypeId) => str_lenN t 8 hl w' ty
  have H0 := Lib.hid (fun w' => ByteB_spec t 0 w' (by omega) (by omega) g)
  have H2 := Lib.hid (fun w' => ByteB_spec t 2 w' (by omega) (by omega) g)
  have H4 := Lib.hid (fun w' => ByteB_spec t 4 w' (by omega) (by omega) g)
  have H6 := Lib.hid (fun w' => ByteB_spec t 6 w' (by omega) (by omega) g)
  have HV := Lib.hid (fun w' => ValueOk_spec ⟨4, 0, P6.byteOf t 0, P6.byteOf t 2, P6.byteOf t 4, P6.byteOf t 6, []⟩ w' (by simp))
  have HR := Lib.hid hR
  obtain ⟨A, eA⟩ : ∃ A, valueOk ⟨4, 0, P6.byteOf t 0, P6.byteOf t 2, P6.byteOf t 4, P6.byteOf t 6, []⟩ = A := ⟨_, rfl⟩
  rw [eA] at HV HR
  clear eA hR hl g
  generalize P6.byteOf t 0 = R at H0 HV HR
  generalize P6.byteOf t 2 = G at H2 HV HR
  generalize P6.byteOf t 4 = B at H4 HV HR
  generalize P6.byteOf t 6 = C at H6 HV HR
  unfold valV at HV
  dsimp only at HV
  have HQ := Lib.hid (fun w' (hb : Below w.heap.size w w') => SqzS_slc ts v w' (h.on hb) hs)
  have hr := res_block w
  have hB : Below w.heap.size w (w.alloc (.cells #[.int .i64 0, .int .i64 0, .int .i64 0, .int .i64 0, .int .i64 0, .int .i64 0, .string ⟨#[]⟩] 54)) := (Below.refl _ _).alloc (Nat.le_refl _) _
  obtain ⟨a, cap, rfl, _⟩ := h.form
  generalize ts.length = nn at HQ
  rw [hx] at HQ
  clear h hs
  go_enter Tryz.func168, Tryz.ntmps168
  go_wp2_with fail
  generalize w.alloc (.cells #[.int .i64 0, .int .i64 0, .int .i64 0, .int .i64 0, .int .i64 0, .int .i64 0, .string ⟨#[]⟩] 54) = W at *
  refine (HQ.out _ hB).mono ?_
  rintro e w1 ⟨v1, rfl, hx1, g1⟩
  have hr1 := hr.below g1
  have hB1 := hB.trans (g1.mono hB.size)
  generalize hwb : w.heap.size = rb at hr hr1 ⊢
  have HW := Lib.hid hwb
  clear hwb
  rcases Toks.row hx1 with ⟨_, e⟩ | ⟨gq, cp, rfl, _, hrow⟩
  · cases e
  obtain ⟨c0, c1, c2⟩ := hrow.cells 0 _ rfl
  have hcp : (1 : Int) ≤ (cp : Int) := by have := hrow.room; simp at this; omega
  have hcm : (cp : Int) ≤ 9223372036854775807 := by have := hrow.top; omega
  dsimp only at c0 c1 c2
  simp only [List.length_singleton, Nat.zero_mul, Nat.zero_add] at c0 c1 c2 ⊢
  clear hx1 hrow
  have hr2 := (hr1.alloc (.cells #[.int .i64 4, .string ⟨t.toArray⟩, .int .i64 n] 73)).alloc (.cells #[.int .i64 0, .int .i64 0, .int .i64 0, .int .i64 0, .int .i64 0, .int .i64 0, .string ⟨#[]⟩] 54)
  have hB2 := hB1.alloc hB1.size (.cells #[.int .i64 4, .string ⟨t.toArray⟩, .int .i64 n] 73)
  have hB2a := hB2.alloc hB2.size (.cells #[.int .i64 0, .int .i64 0, .int .i64 0, .int .i64 0, .int .i64 0, .int .i64 0, .string ⟨#[]⟩] 54)
  have ht2 := (show LBlk (w1.alloc (.cells #[.int .i64 4, .string ⟨t.toArray⟩, .int .i64 n] 73)) w1.heap.size [.int .i64 4, .string ⟨t.toArray⟩, .int .i64 n] from LBlk.new w1 _ _).alloc (.cells #[.int .i64 0, .int .i64 0, .int .i64 0, .int .i64 0, .int .i64 0, .int .i64 0, .string ⟨#[]⟩] 54)
  have hv2 : LBlk ((w1.alloc (.cells #[.int .i64 4, .string ⟨t.toArray⟩, .int .i64 n] 73)).alloc (.cells #[.int .i64 0, .int .i64 0, .int .i64 0, .int .i64 0, .int .i64 0, .int .i64 0, .string ⟨#[]⟩] 54)) (w1.heap.size + 1) [.int .i64 0, .int .i64 0, .int .i64 0, .int .i64 0, .int .i64 0, .int .i64 0, .string ⟨#[]⟩] := by
    have := LBlk.new (w1.alloc (.cells #[.int .i64 4, .string ⟨t.toArray⟩, .int .i64 n] 73)) [.int .i64 0, .int .i64 0, .int .i64 0, .int .i64 0, .int .i64 0, .int .i64 0, .string ⟨#[]⟩] 54
    rwa [World.size_alloc] at this
  have hne : rb ≠ w1.heap.size + 1 := by have := hr1.1; omega
  have hle : w.heap.size ≤ w1.heap.size + 1 := Nat.le_succ_of_le hB1.size
  go_wp2_with fail
  generalize (w1.alloc (.cells #[.int .i64 4, .string ⟨t.toArray⟩, .int .i64 n] 73)).alloc (.cells #[.int .i64 0, .int .i64 0, .int .i64 0, .int .i64 0, .int .i64 0, .int .i64 0, .string ⟨#[]⟩] 54) = W2 at *
  generalize w1.heap.size = bt at *
  clear c0 c1 c2
  have c1d : W2.drew.cell? ⟨bt, 1, none⟩ = some (.string ⟨t.toArray⟩) := (ht2.2 1 _ rfl).1
  have hld : bt < W2.drew.heap.size := ht2.1
  have hnb : bt ≠ bt + 1 := by omega
  have HT := Lib.hid (show ∀ w', Below W2.drew.heap.size W2.drew w' → LBlk w' (bt + 1) [.int .i64 0, .int .i64 0, .int .i64 0, .int .i64 0, .int .i64 0, .int .i64 0, .string ⟨#[]⟩] ∧ LBlk w' rb [.int .i64 0, .int .i64 0, .int .i64 0, .int .i64 0, .int .i64 0, .int .i64 0, .string ⟨#[]⟩] ∧ Below w.heap.size w w' from fun w' hb => ⟨hv2.drew.below hb, hr2.drew.below hb, (show Below w.heap.size w W2.drew from ⟨hB2a.os, hB2a.tape, hB2a.output, hB2a.size, hB2a.block⟩).trans (hb.mono hB2a.size)⟩)
  clear hr2 hB2 hB2a ht2 hv2
  go_region_held3 (fun w' => w'.cell? ⟨bt, 1, none⟩ = some (.string ⟨t.toArray⟩) ∧ bt < w'.heap.size)
    (first | with_reducible exact ⟨c1d, hld⟩ | with_reducible exact ⟨t3, l3⟩ | with_reducible exact ⟨t4, l4⟩ | with_reducible exact ⟨t5, l5⟩ | exact cell1_put hnb t5 l5 _ _ _ _ _ _ _)
    (first | (go_at_call 200; have hz := h4; refine (H4.out _).mono ?_; rintro e w5 ⟨rfl, h5⟩; obtain ⟨t5, l5⟩ := cell1_call h5 t4 l4; have hall := h4.trans (h5.mono h4.size); obtain ⟨hv5, hr5, hB5⟩ := HT.out w5 hall; obtain ⟨_, _, _, _, _, _, _, f0, f1, f2, f3, f4, f5, f6⟩ := seven_cells hv5) | (go_at_call 200; have hz := h3; refine (H2.out _).mono ?_; rintro e w4 ⟨rfl, h4⟩; obtain ⟨t4, l4⟩ := cell1_call h4 t3 l3; replace h4 := h3.trans (h4.mono h3.size)) | (go_at_call 200; refine (H0.out _).mono ?_; rintro e w3 ⟨rfl, h3⟩; obtain ⟨t3, l3⟩ := cell1_call h3 c1d hld))
  obtain ⟨t6, l6⟩ := cell1_put hnb t5 l5 (.int .i64 4) (.int .i64 0) (.int .i64 R) (.int .i64 G) (.int .i64 B) (.int .i64 255) (.string ⟨#[]⟩)
  have hv6 := put7_blk hv5 (.int .i64 4) (.int .i64 0) (.int .i64 R) (.int .i64 G) (.int .i64 B) (.int .i64 255) (.string ⟨#[]⟩)
  have hr6 := put7_other hr5 hne (.int .i64 4) (.int .i64 0) (.int .i64 R) (.int .i64 G) (.int .i64 B) (.int .i64 255) (.string ⟨#[]⟩)
  have hB6 := put7_below hB5 hle (.int .i64 4) (.int .i64 0) (.int .i64 R) (.int .i64 G) (.int .i64 B) (.int .i64 255) (.string ⟨#[]⟩)
  unfold put7 at t6 l6 hv6 hr6 hB6
  generalize (((((((w5.setCell ⟨bt + 1, 0, none⟩ (.int .i64 4)).setCell ⟨bt + 1, 1, none⟩ (.int .i64 0)).setCell ⟨bt + 1, 2, none⟩ (.int .i64 R)).setCell ⟨bt + 1, 3, none⟩ (.int .i64 G)).setCell ⟨bt + 1, 4, none⟩ (.int .i64 B)).setCell ⟨bt + 1, 5, none⟩ (.int .i64 255)).setCell ⟨bt + 1, 6, none⟩ (.string ⟨#[]⟩)) = W6 at *
  go_wp2_with fail
  refine (H6.out _).mono ?_
  rintro e w7 ⟨rfl, g7⟩
  have hv7 := hv6.below g7
  obtain ⟨_, _, _, _, _, _, _, _, _, _, _, _, f5, _⟩ := seven_cells hv7
  have hv2 := hv7.set 5 (.int .i64 C) (by simp)
  have hr2 := (hr6.below g7).set_other hne 5 (.int .i64 C)
  have hB7 := hB6.trans (g7.mono hB6.size)
  have hB2a := hB7.setCell (p := ⟨bt + 1, 5, none⟩) hle (.int .i64 C)
  simp only [List.set_cons_succ, List.set_cons_zero] at hv2
  obtain ⟨d0, d1, d2, d3, d4, d5, d6, _⟩ := seven_cells hv2
  go_wp2_with fail
  generalize w7.setCell ⟨bt + 1, 5, none⟩ (.int .i64 C) = W2 at *
  generalize bt + 1 = bv at *
  refine (HV.out _).mono ?_
  rintro e w3 ⟨rfl, g3⟩
  have hr3 := hr2.below g3
  have hv3 := hv2.below g3
  have hB3 := hB2a.trans (g3.mono hB2a.size)
  obtain ⟨_, _, _, _, _, _, _, f0, f1, f2, f3, f4, f5, f6⟩ := seven_cells hr3
  obtain ⟨d0, d1, d2, d3, d4, d5, d6, _⟩ := seven_cells hv3
  cases A
  · have HR2 := Lib.hid (reads_none (HR.out.trans (if_neg (by decide))))
    go_wp2_with fail
    obtain ⟨p0, p1, p2, p3, p4, p5, p6, _⟩ := seven_cells (put7_blk hr3 (.int .i64 0) (.int .i64 0) (.int .i64 0) (.int .i64 0) (.int .i64 0) (.int .i64 0) (.string ⟨#[]⟩))
    unfold put7 at p0 p1 p2 p3 p4 p5 p6
    exact bodyPost_ret (v := .tuple #[valV (P6.valOf ts), .bool (isVal ts)]) (by rw [HR2.out.1, HR2.out.2]; simp only [results, Tryz.results168]; simp [go_sem, p0, p1, p2, p3, p4, p5, p6, valV, Va.zero]) rfl ⟨rfl, put7_below hB3 (Nat.le_of_eq HW.out) (.int .i64 0) (.int .i64 0) (.int .i64 0) (.int .i64 0) (.int .i64 0) (.int .i64 0) (.string ⟨#[]⟩)⟩
  · have HR2 := Lib.hid (reads_some (HR.out.trans (if_pos rfl)))
    go_wp2_with fail
    obtain ⟨p0, p1, p2, p3, p4, p5, p6, _⟩ := seven_cells (put7_blk hr3 (.int .i64 4) (.int .i64 0) (.int .i64 R) (.int .i64 G) (.int .i64 B) (.int .i64 C) (.string ⟨#[]⟩))
    unfold put7 at p0 p1 p2 p3 p4 p5 p6
    exact bodyPost_ret (v := .tuple #[valV (P6.valOf ts), .bool (isVal ts)]) (by rw [HR2.out.1, HR2.out.2]; simp only [results, Tryz.results168]; simp [go_sem, p0, p1, p2, p3, p4, p5, p6, valV]) rfl ⟨rfl, put7_below hB3 (Nat.le_of_eq HW.out) (.int .i64 4) (.int .i64 0) (.int .i64 R) (.int .i64 G) (.int .i64 B) (.int .i64 C) (.string ⟨#[]⟩)⟩

set_option maxRecDepth 20000 in
set_option maxHeartbeats 4000000 in
theorem l6Read_c6 (ts : List Tok) (n : Int) (t : List UInt8) (v : Value) (w : World) (h : TokSlc w v ts) (hs : ts.length ≤ 1500000) (hx : squeeze ts = [⟨4, t, n⟩]) (hR : readToks ts = if valueOk ⟨4, 0, P6.byteOf t 0, P6.byteOf t 2, P6.byteOf t 4, 255, []⟩ = true then some ⟨4, 0, P6.byteOf t 0, P6.byteOf t 2, P6.byteOf t 4, 255, []⟩ else none) (hl : t.length = 6) (g : ∀ b ∈ t, isHex b = true) :
    Calls Tryz.prog 168 #[v] w (Reads ts w) := by
  have hlen := fun (w' : World) (ty : TypeId) => str_lenN t 6 hl w' ty
  have H0 := Lib.hid (fun w' => ByteB_spec t 0 w' (by omega) (by omega) g)
  have H2 := Lib.hid (fun w' => ByteB_spec t 2 w' (by omega) (by omega) g)
  have H4 := Lib.hid (fun w' => ByteB_spec t 4 w' (by omega) (by omega) g)
  have HV := Lib.hid (fun w' => ValueOk_spec ⟨4, 0, P6.byteOf t 0, P6.byteOf t 2, P6.byteOf t 4, 255, []⟩ w' (by simp))
  have HR := Lib.hid hR
  obtain ⟨A, eA⟩ : ∃ A, valueOk ⟨4, 0, P6.byteOf t 0, P6.byteOf t 2, P6.byteOf t 4, 255, []⟩ = A := ⟨_, rfl⟩
  rw [eA] at HV HR
  clear eA hR hl g
  generalize P6.byteOf t 0 = R at H0 HV HR
  generalize P6.byteOf t 2 = G at H2 HV HR
  generalize P6.byteOf t 4 = B at H4 HV HR
  unfold valV at HV
  dsimp only at HV
  have HQ := Lib.hid (fun w' (hb : Below w.heap.size w w') => SqzS_slc ts v w' (h.on hb) hs)
  have hr := res_block w
  have hB : Below w.heap.size w (w.alloc (.cells #[.int .i64 0, .int .i64 0, .int .i64 0, .int .i64 0, .int .i64 0, .int .i64 0, .string ⟨#[]⟩] 54)) := (Below.refl _ _).alloc (Nat.le_refl _) _
  obtain ⟨a, cap, rfl, _⟩ := h.form
  generalize ts.length = nn at HQ
  rw [hx] at HQ
  clear h hs
  go_enter Tryz.func168, Tryz.ntmps168
  go_wp2_with fail
  generalize w.alloc (.cells #[.int .i64 0, .int .i64 0, .int .i64 0, .int .i64 0, .int .i64 0, .int .i64 0, .string ⟨#[]⟩] 54) = W at *
  refine (HQ.out _ hB).mono ?_
  rintro e w1 ⟨v1, rfl, hx1, g1⟩
  have hr1 := hr.below g1
  have hB1 := hB.trans (g1.mono hB.size)
  generalize hwb : w.heap.size = rb at hr hr1 ⊢
  have HW := Lib.hid hwb
  clear hwb
  rcases Toks.row hx1 with ⟨_, e⟩ | ⟨gq, cp, rfl, _, hrow⟩
  · cases e
  obtain ⟨c0, c1, c2⟩ := hrow.cells 0 _ rfl
  have hcp : (1 : Int) ≤ (cp : Int) := by have := hrow.room; simp at this; omega
  have hcm : (cp : Int) ≤ 9223372036854775807 := by have := hrow.top; omega
  dsimp only at c0 c1 c2
  simp only [List.length_singleton, Nat.zero_mul, Nat.zero_add] at c0 c1 c2 ⊢
  clear hx1 hrow
  have hr2 := (hr1.alloc (.cells #[.int .i64 4, .string ⟨t.toArray⟩, .int .i64 n] 73)).alloc (.cells #[.int .i64 0, .int .i64 0, .int .i64 0, .int .i64 0, .int .i64 0, .int .i64 0, .string ⟨#[]⟩] 54)
  have hB2 := hB1.alloc hB1.size (.cells #[.int .i64 4, .string ⟨t.toArray⟩, .int .i64 n] 73)
  have hB2a := hB2.alloc hB2.size (.cells #[.int .i64 0, .int .i64 0, .int .i64 0, .int .i64 0, .int .i64 0, .int .i64 0, .string ⟨#[]⟩] 54)
  have ht2 := (show LBlk (w1.alloc (.cells #[.int .i64 4, .string ⟨t.toArray⟩, .int .i64 n] 73)) w1.heap.size [.int .i64 4, .string ⟨t.toArray⟩, .int .i64 n] from LBlk.new w1 _ _).alloc (.cells #[.int .i64 0, .int .i64 0, .int .i64 0, .int .i64 0, .int .i64 0, .int .i64 0, .string ⟨#[]⟩] 54)
  have hv2 : LBlk ((w1.alloc (.cells #[.int .i64 4, .string ⟨t.toArray⟩, .int .i64 n] 73)).alloc (.cells #[.int .i64 0, .int .i64 0, .int .i64 0, .int .i64 0, .int .i64 0, .int .i64 0, .string ⟨#[]⟩] 54)) (w1.heap.size + 1) [.int .i64 0, .int .i64 0, .int .i64 0, .int .i64 0, .int .i64 0, .int .i64 0, .string ⟨#[]⟩] := by
    have := LBlk.new (w1.alloc (.cells #[.int .i64 4, .string ⟨t.toArray⟩, .int .i64 n] 73)) [.int .i64 0, .int .i64 0, .int .i64 0, .int .i64 0, .int .i64 0, .int .i64 0, .string ⟨#[]⟩] 54
    rwa [World.size_alloc] at this
  have hne : rb ≠ w1.heap.size + 1 := by have := hr1.1; omega
  have hle : w.heap.size ≤ w1.heap.size + 1 := Nat.le_succ_of_le hB1.size
  go_wp2_with fail
  generalize (w1.alloc (.cells #[.int .i64 4, .string ⟨t.toArray⟩, .int .i64 n] 73)).alloc (.cells #[.int .i64 0, .int .i64 0, .int .i64 0, .int .i64 0, .int .i64 0, .int .i64 0, .string ⟨#[]⟩] 54) = W2 at *
  generalize w1.heap.size = bt at *
  clear c0 c1 c2
  have c1d : W2.drew.cell? ⟨bt, 1, none⟩ = some (.string ⟨t.toArray⟩) := (ht2.2 1 _ rfl).1
  have hld : bt < W2.drew.heap.size := ht2.1
  have hnb : bt ≠ bt + 1 := by omega
  have HT := Lib.hid (show ∀ w', Below W2.drew.heap.size W2.drew w' → LBlk w' (bt + 1) [.int .i64 0, .int .i64 0, .int .i64 0, .int .i64 0, .int .i64 0, .int .i64 0, .string ⟨#[]⟩] ∧ LBlk w' rb [.int .i64 0, .int .i64 0, .int .i64 0, .int .i64 0, .int .i64 0, .int .i64 0, .string ⟨#[]⟩] ∧ Below w.heap.size w w' from fun w' hb => ⟨hv2.drew.below hb, hr2.drew.below hb, (show Below w.heap.size w W2.drew from ⟨hB2a.os, hB2a.tape, hB2a.output, hB2a.size, hB2a.block⟩).trans (hb.mono hB2a.size)⟩)
  clear hr2 hB2 hB2a ht2 hv2
  go_region_held3 (fun w' => w'.cell? ⟨bt, 1, none⟩ = some (.string ⟨t.toArray⟩) ∧ bt < w'.heap.size)
    (first | with_reducible exact ⟨c1d, hld⟩ | with_reducible exact ⟨t3, l3⟩ | with_reducible exact ⟨t4, l4⟩ | with_reducible exact ⟨t5, l5⟩ | exact cell1_put hnb t5 l5 _ _ _ _ _ _ _)
    (first | (go_at_call 200; have hz := h4; refine (H4.out _).mono ?_; rintro e w5 ⟨rfl, h5⟩; obtain ⟨t5, l5⟩ := cell1_call h5 t4 l4; have hall := h4.trans (h5.mono h4.size); obtain ⟨hv5, hr5, hB5⟩ := HT.out w5 hall; obtain ⟨_, _, _, _, _, _, _, f0, f1, f2, f3, f4, f5, f6⟩ := seven_cells hv5) | (go_at_call 200; have hz := h3; refine (H2.out _).mono ?_; rintro e w4 ⟨rfl, h4⟩; obtain ⟨t4, l4⟩ := cell1_call h4 t3 l3; replace h4 := h3.trans (h4.mono h3.size)) | (go_at_call 200; refine (H0.out _).mono ?_; rintro e w3 ⟨rfl, h3⟩; obtain ⟨t3, l3⟩ := cell1_call h3 c1d hld))
  obtain ⟨t6, l6⟩ := cell1_put hnb t5 l5 (.int .i64 4) (.int .i64 0) (.int .i64 R) (.int .i64 G) (.int .i64 B) (.int .i64 255) (.string ⟨#[]⟩)
  have hv6 := put7_blk hv5 (.int .i64 4) (.int .i64 0) (.int .i64 R) (.int .i64 G) (.int .i64 B) (.int .i64 255) (.string ⟨#[]⟩)
  have hr6 := put7_other hr5 hne (.int .i64 4) (.int .i64 0) (.int .i64 R) (.int .i64 G) (.int .i64 B) (.int .i64 255) (.string ⟨#[]⟩)
  have hB6 := put7_below hB5 hle (.int .i64 4) (.int .i64 0) (.int .i64 R) (.int .i64 G) (.int .i64 B) (.int .i64 255) (.string ⟨#[]⟩)
  unfold put7 at t6 l6 hv6 hr6 hB6
  generalize (((((((w5.setCell ⟨bt + 1, 0, none⟩ (.int .i64 4)).setCell ⟨bt + 1, 1, none⟩ (.int .i64 0)).setCell ⟨bt + 1, 2, none⟩ (.int .i64 R)).setCell ⟨bt + 1, 3, none⟩ (.int .i64 G)).setCell ⟨bt + 1, 4, none⟩ (.int .i64 B)).setCell ⟨bt + 1, 5, none⟩ (.int .i64 255)).setCell ⟨bt + 1, 6, none⟩ (.string ⟨#[]⟩)) = W6 at *
  obtain ⟨d0, d1, d2, d3, d4, d5, d6, _⟩ := seven_cells hv6
  go_wp2_with fail
  have hv2 := hv6
  have hr2 := hr6
  have hB2a := hB6
  clear hv6 hr6 hB6
  generalize bt + 1 = bv at *
  refine (HV.out _).mono ?_
  rintro e w3 ⟨rfl, g3⟩
  have hr3 := hr2.below g3
  have hv3 := hv2.below g3
  have hB3 := hB2a.trans (g3.mono hB2a.size)
  obtain ⟨_, _, _, _, _, _, _, f0, f1, f2, f3, f4, f5, f6⟩ := seven_cells hr3
  obtain ⟨d0, d1, d2, d3, d4, d5, d6, _⟩ := seven_cells hv3
  cases A
  · have HR2 := Lib.hid (reads_none (HR.out.trans (if_neg (by decide))))
    go_wp2_with fail
    obtain ⟨p0, p1, p2, p3, p4, p5, p6, _⟩ := seven_cells (put7_blk hr3 (.int .i64 0) (.int .i64 0) (.int .i64 0) (.int .i64 0) (.int .i64 0) (.int .i64 0) (.string ⟨#[]⟩))
    unfold put7 at p0 p1 p2 p3 p4 p5 p6
    exact bodyPost_ret (v := .tuple #[valV (P6.valOf ts), .bool (isVal ts)]) (by rw [HR2.out.1, HR2.out.2]; simp only [results, Tryz.results168]; simp [go_sem, p0, p1, p2, p3, p4, p5, p6, valV, Va.zero]) rfl ⟨rfl, put7_below hB3 (Nat.le_of_eq HW.out) (.int .i64 0) (.int .i64 0) (.int .i64 0) (.int .i64 0) (.int .i64 0) (.int .i64 0) (.string ⟨#[]⟩)⟩
  · have HR2 := Lib.hid (reads_some (HR.out.trans (if_pos rfl)))
    go_wp2_with fail
    obtain ⟨p0, p1, p2, p3, p4, p5, p6, _⟩ := seven_cells (put7_blk hr3 (.int .i64 4) (.int .i64 0) (.int .i64 R) (.int .i64 G) (.int .i64 B) (.int .i64 255) (.string ⟨#[]⟩))
    unfold put7 at p0 p1 p2 p3 p4 p5 p6
    exact bodyPost_ret (v := .tuple #[valV (P6.valOf ts), .bool (isVal ts)]) (by rw [HR2.out.1, HR2.out.2]; simp only [results, Tryz.results168]; simp [go_sem, p0, p1, p2, p3, p4, p5, p6, valV]) rfl ⟨rfl, put7_below hB3 (Nat.le_of_eq HW.out) (.int .i64 4) (.int .i64 0) (.int .i64 R) (.int .i64 G) (.int .i64 B) (.int .i64 255) (.string ⟨#[]⟩)⟩

end Go.Proofs.YtliihnkonakacaaGreatDoor.V6
