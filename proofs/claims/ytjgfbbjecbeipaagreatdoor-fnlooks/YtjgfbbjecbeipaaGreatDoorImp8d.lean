/- Contracts of chapter 8's functions of the program: Kept, LookOf. -/
import Derived.Test.YtjgfbbjecbeipaaGreatDoorImp8c
namespace Go.Proofs.YtjgfbbjecbeipaaGreatDoor.B8
open Go.Proofs.YtjgfbbjecbeipaaGreatDoor.P1 Go.Proofs.YtjgfbbjecbeipaaGreatDoor.B1 Go.Proofs.YtjgfbbjecbeipaaGreatDoor.B2 Go.Proofs.YtjgfbbjecbeipaaGreatDoor.T1 Go.Proofs.YtjgfbbjecbeipaaGreatDoor.BT Go.Proofs.YtjgfbbjecbeipaaGreatDoor.P5 Go.Proofs.YtjgfbbjecbeipaaGreatDoor.P6 Go.Proofs.YtjgfbbjecbeipaaGreatDoor.P7 Go.Proofs.YtjgfbbjecbeipaaGreatDoor.P8 Go.Proofs.YtjgfbbjecbeipaaGreatDoor.B5 Go.Proofs.YtjgfbbjecbeipaaGreatDoor.B6 Go.Proofs.YtjgfbbjecbeipaaGreatDoor.B7 Go.Proofs.YtjgfbbjecbeipaaGreatDoor.D1 Go.Proofs.YtjgfbbjecbeipaaGreatDoor.S7 Go.Proofs.YtjgfbbjecbeipaaGreatDoor.RI Go.Proofs.YtjgfbbjecbeipaaGreatDoor.W8
open Go.ChangeShapes Go.WideShapes Go.ChangeAt Go.RowKit
set_option linter.unusedVariables false

/-- What Kept makes of the number. -/
def keptN (l n : Int) : Int := if l = 0 then clip n 0 1000 else if l = 1 then max 0 n else n

theorem kept_eq {l : Int} (h : isLook l = true) (x : Va) : kept l x = ⟨x.k, keptN l x.n, x.r, x.g, x.b, x.c, x.w⟩ := by
  unfold kept keptN
  rw [if_pos h]

/-- Kept's two blocks, the value's and the result's. -/
theorem two_zero (w : World) (x : Va) : LBlk ((w.alloc (.cells (valL x).toArray 29)).alloc (.cells zeroL.toArray 29)) w.heap.size (valL x) ∧ LBlk ((w.alloc (.cells (valL x).toArray 29)).alloc (.cells zeroL.toArray 29)) (w.heap.size + 1) zeroL ∧ Below w.heap.size w ((w.alloc (.cells (valL x).toArray 29)).alloc (.cells zeroL.toArray 29)) := by
  refine ⟨(LBlk.new w _ _).alloc _, ?_, ((Below.refl _ _).alloc (Nat.le_refl _) _).alloc (by simp) _⟩
  have := LBlk.new (w.alloc (.cells (valL x).toArray 29)) zeroL 29
  rwa [World.size_alloc] at this

set_option maxRecDepth 20000 in
set_option maxHeartbeats 4000000 in
theorem Kept_impl (l : Int) (x : Va) (hr : -9223372036854775808 ≤ l ∧ l ≤ 9223372036854775807) (w : World) (hx : x.w.length ≤ 1048576) : Calls Tryz.prog 23 #[.int .i64 l, valV x] w (Ans (valV (kept l x)) w) := by
  have HT := Lib.hid (fun w' => traitOf_impl l w' hr)
  obtain ⟨t1, t2, t3⟩ := two_zero w x
  have HX := Lib.hid (fun (w1 : World) g1 => t1.below (w' := w1) g1)
  have HR := Lib.hid (fun (w1 : World) g1 => t2.below (w' := w1) g1)
  have HB := Lib.hid (fun (w1 : World) (g1 : Below ((w.alloc (.cells (valL x).toArray 29)).alloc (.cells zeroL.toArray 29)).heap.size ((w.alloc (.cells (valL x).toArray 29)).alloc (.cells zeroL.toArray 29)) w1) => t3.trans (g1.mono t3.size))
  clear t1 t2 t3
  have HL := Lib.hid (fun (w2 : World) (N : Int) (hx2 : LBlk w2 w.heap.size (valL x)) => load_blk (P := Tryz.prog) (ty := 29) (hx2.set 1 (.int .i64 N) (by show 1 < 7; decide)) val_wide)
  have HS4 := Lib.hid (fun (w2 : World) (N : Int) (hr2 : LBlk w2 (w.heap.size + 1) zeroL) => store_blk (P := Tryz.prog) (ty := 29) (vs := (valL x).set 1 (.int .i64 N)) (hr2.set_other (b' := w.heap.size) (by omega) 1 (.int .i64 N)) val_wide rfl rfl)
  obtain ⟨k, n, r, g, b, c, t⟩ := x
  rw [show valV ⟨k, n, r, g, b, c, t⟩ = .agg #[.int .i64 k, .int .i64 n, .int .i64 r, .int .i64 g, .int .i64 b, .int .i64 c, .string ⟨t.toArray⟩] from rfl]
  by_cases h : isLook l = true
  · rw [h, show trO l = trOf l.toNat by unfold trO; rw [if_pos h]] at HT
    rw [kept_eq h]
    have HTL := Lib.hid (fun (w1 : World) g1 => tr_laid (w := ((w.alloc (.cells (valL ⟨k, n, r, g, b, c, t⟩).toArray 29)).alloc (.cells zeroL.toArray 29))) (w1 := w1) (trOf l.toNat) (trOf_len _) (trOf_one _) g1)
    rcases look_cases h with rfl | rfl | rfl | rfl | rfl | rfl
    all_goals
      clear h hr hx
      go_enter Tryz.func23, Tryz.ntmps23
      go_wp2_with (first | (go_at_call 33; refine (HT.out _).mono ?_; rintro e w1 ⟨rfl, g1⟩; obtain ⟨w2, hst, hz2, hb1, hb2⟩ := HTL.out _ g1; have c10 := (hz2.2 10 _ rfl).1; have hx2 := (HX.out w1 g1).below hb1; have hr2 := (HR.out w1 g1).below hb1; have cx := (hx2.2 1 _ rfl).1; have fx := (hx2.2 1 _ rfl).2; have hb := HB.out _ hb2; have HST := Lib.hid hst; clear hst hz2 hb1 hb2 g1) | (go_at_call 53; refine (zeroToFull_impl n _).mono ?_; rintro e w' ⟨rfl, rfl⟩; obtain ⟨w4, hs4, hr4, ho4, _⟩ := HS4.out _ (clip n 0 1000) hr2; have HS := Lib.hid hs4; have HL4 := Lib.hid (HL.out _ (clip n 0 1000) hx2); clear hs4 hx2 hr2) | (go_at_call 55; refine (fromZero_impl n _).mono ?_; rintro e w' ⟨rfl, rfl⟩; obtain ⟨w4, hs4, hr4, ho4, _⟩ := HS4.out _ (max 0 n) hr2; have HS := Lib.hid hs4; have HL4 := Lib.hid (HL.out _ (max 0 n) hx2); clear hs4 hx2 hr2) | (go_at_call 56; refine (asItIs_impl n _).mono ?_; rintro e w' ⟨rfl, rfl⟩; obtain ⟨w4, hs4, hr4, ho4, _⟩ := HS4.out _ n hr2; have HS := Lib.hid hs4; have HL4 := Lib.hid (HL.out _ n hx2); clear hs4 hx2 hr2) | (refine wpList_load_eq HL4.out rfl rfl rfl ?_) | (refine wpList_store_eq HST.out rfl rfl rfl rfl ?_) | (refine wpList_store_eq HS.out rfl rfl rfl rfl ?_))
      exact bodyPost_ret (results_wide (load_blk hr4 val_wide) rfl rfl) rfl ⟨rfl, (hb.setCell (Nat.le_refl _) _).trans (ho4.below (by omega) (by simpa [World.setCell] using hb.size))⟩
  · rw [show isLook l = false by simpa using h] at HT
    rw [show kept l ⟨k, n, r, g, b, c, t⟩ = Va.zero by unfold kept; rw [if_neg h]]
    have hone : (trO l).all (·.oneCell') = true := by unfold trO; rw [if_neg h]; rfl
    have hlen : (trO l).length = 11 := by unfold trO; rw [if_neg h]; rfl
    have HS0 := Lib.hid (fun (w2 : World) (hr2 : LBlk w2 (w.heap.size + 1) zeroL) => store_blk (P := Tryz.prog) (ty := 29) (vs := zeroL) hr2 val_wide rfl rfl)
    generalize trO l = vs at *
    clear h hr hx
    go_enter Tryz.func23, Tryz.ntmps23
    go_wp2_with (first | (go_at_call 33; refine (HT.out _).mono ?_; rintro e w1 ⟨rfl, g1⟩; obtain ⟨w2, hst, hz2, hb1, hb2⟩ := tr_laid _ hlen hone g1; have hb := HB.out _ hb2; obtain ⟨w4, hs4, hr4, ho4, _⟩ := HS0.out _ ((HR.out w1 g1).below hb1); have HST := Lib.hid hst; have HS := Lib.hid hs4; clear hs4 hst hz2 hb1 hb2 g1) | (refine wpList_store_eq HST.out rfl rfl rfl rfl ?_) | (refine wpList_store_eq HS.out rfl rfl rfl rfl ?_))
    exact bodyPost_ret (results_wide (load_blk hr4 val_wide) rfl rfl) rfl ⟨rfl, hb.trans (ho4.below (by omega) hb.size)⟩

/-- Does this trait bear the name? -/
theorem lookClosure_impl (vs : List Value) (nm s : List UInt8) (bp : Nat) (w : World) (hlen : vs.length = 11) (h0 : vs[0]? = some (.string ⟨nm.toArray⟩)) (hc : w.cell? ⟨bp, 0, none⟩ = some (.string ⟨s.toArray⟩)) (hlt : bp < w.heap.size) :
    Calls Tryz.prog 32 #[.agg vs.toArray, .pointer (some ⟨bp, 0, none⟩)] w (Ans (.bool (nm == s)) w) := by
  have hz := LBlk.new w vs 48
  have c0 := (hz.2 0 _ h0).1
  have cp : (w.alloc (.cells vs.toArray 48)).cell? ⟨bp, 0, none⟩ = some (.string ⟨s.toArray⟩) := (((Below.refl w.heap.size w).alloc (Nat.le_refl _) _).cell (p := ⟨bp, 0, none⟩) hlt).trans hc
  have hb : Below w.heap.size w (w.alloc (.cells vs.toArray 48)) := (Below.refl _ _).alloc (Nat.le_refl _) _
  clear hz hc h0
  cases he : nm == s
  all_goals
    go_enter Tryz.func32, Tryz.ntmps32
    go_wp2
    go_ret
    exact ⟨rfl, hb⟩

end Go.Proofs.YtjgfbbjecbeipaaGreatDoor.B8
