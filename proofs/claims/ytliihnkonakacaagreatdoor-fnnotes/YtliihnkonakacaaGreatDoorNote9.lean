/- Chapter 9: contracts of NoteOk, the reference's and the program's. -/
import Derived.Test.YtliihnkonakacaaGreatDoorBase8
import Derived.Test.YtliihnkonakacaaGreatDoorBase9n
import Derived.Test.YtliihnkonakacaaGreatDoorImp8f
namespace Go.Proofs.YtliihnkonakacaaGreatDoor.B9
open Go.Proofs.YtliihnkonakacaaGreatDoor.P1 Go.Proofs.YtliihnkonakacaaGreatDoor.B1 Go.Proofs.YtliihnkonakacaaGreatDoor.B2 Go.Proofs.YtliihnkonakacaaGreatDoor.T1 Go.Proofs.YtliihnkonakacaaGreatDoor.BT Go.Proofs.YtliihnkonakacaaGreatDoor.P5 Go.Proofs.YtliihnkonakacaaGreatDoor.P6 Go.Proofs.YtliihnkonakacaaGreatDoor.P8 Go.Proofs.YtliihnkonakacaaGreatDoor.P9 Go.Proofs.YtliihnkonakacaaGreatDoor.B5 Go.Proofs.YtliihnkonakacaaGreatDoor.B6 Go.Proofs.YtliihnkonakacaaGreatDoor.B8 Go.Proofs.YtliihnkonakacaaGreatDoor.D1 Go.Proofs.YtliihnkonakacaaGreatDoor.W8 Go.Proofs.YtliihnkonakacaaGreatDoor.RC
open Go.ChangeShapes Go.WideShapes Go.ChangeAt Go.RowKit
set_option linter.unusedVariables false

set_option maxRecDepth 20000 in
set_option maxHeartbeats 4000000 in
theorem NoteOk_spec (n : No) (hx : n.v.w.length ≤ 1048576) (w : World) : Calls Tryz.prog 43 #[noV n] w (Ans (.bool (noteOk n)) w) := by
  have HK := Lib.hid (fun w' => Look_spec n.l w')
  have HF := Lib.hid (fun w' => Fits_spec n.l n.v hx w')
  have HB := (Below.refl w.heap.size w).alloc (Nat.le_refl _) (.cells #[.int .i64 n.l, .int .i64 n.v.k, .int .i64 n.v.n, .int .i64 n.v.r, .int .i64 n.v.g, .int .i64 n.v.b, .int .i64 n.v.c, .string ⟨n.v.w.toArray⟩, .bool n.s] 56)
  have h1 := no_new w n 56
  have HL := Lib.hid (no_val h1)
  obtain ⟨c0, _⟩ := no_cells h1
  clear h1
  rw [noV_is]
  cases hk : isLook n.l
  · rw [hk] at HK
    have Hn := Lib.hid (show noteOk n = false by
      unfold noteOk
      cases hf : fits n.l n.v
      · rfl
      · have := fits_look hf
        rw [hk] at this; cases this)
    clear hk
    go_enter Tryz.func43, Tryz.ntmps43
    go_wp2_with (first | (go_at_call 87; refine (HK.out _).mono ?_; rintro e w' ⟨rfl, rfl⟩))
    go_ret
    exact ⟨by rw [Hn.out]; rfl, HB⟩
  · rw [hk] at HK
    clear hk
    go_enter Tryz.func43, Tryz.ntmps43
    go_wp2_with (first | (go_at_call 87; refine (HK.out _).mono ?_; rintro e w' ⟨rfl, rfl⟩) | (go_at_call 88; refine (HF.out _).mono ?_; rintro e w1 ⟨rfl, g1⟩) | (refine wpList_load_eq HL.out rfl rfl rfl ?_))
    go_ret
    exact ⟨rfl, HB.trans (g1.mono HB.size)⟩

set_option maxRecDepth 20000 in
set_option maxHeartbeats 4000000 in
theorem NoteOk_impl (n : No) (hr : -9223372036854775808 ≤ n.l ∧ n.l ≤ 9223372036854775807) (hx : n.v.w.length ≤ 1048576) (w : World) (L : Pow w) : Calls Tryz.prog 42 #[noV n] w (Ans (.bool (noteOk n)) w) := by
  have HB := (Below.refl w.heap.size w).alloc (Nat.le_refl _) (.cells #[.int .i64 n.l, .int .i64 n.v.k, .int .i64 n.v.n, .int .i64 n.v.r, .int .i64 n.v.g, .int .i64 n.v.b, .int .i64 n.v.c, .string ⟨n.v.w.toArray⟩, .bool n.s] 56)
  have HF := Lib.hid (fun w' (hb : Below w.heap.size w w') => Fits_impl n.l n.v hr hx w' (L.on hb))
  have h1 := no_new w n 56
  have HL := Lib.hid (no_val h1)
  obtain ⟨c0, _⟩ := no_cells h1
  clear h1 L hr
  rw [noV_is]
  go_enter Tryz.func42, Tryz.ntmps42
  go_wp2_with (first | (go_at_call 86; refine (HF.out _ HB).mono ?_; rintro e w1 ⟨rfl, g1⟩) | ((with_reducible refine wp_load_at HL.out ?_ ?_); exact And.intro rfl (And.intro rfl rfl)))
  go_ret
  exact ⟨rfl, HB.trans (g1.mono HB.size)⟩

end Go.Proofs.YtliihnkonakacaaGreatDoor.B9
