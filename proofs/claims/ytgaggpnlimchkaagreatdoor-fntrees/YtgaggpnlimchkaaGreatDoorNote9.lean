/- Chapter 9: contracts of NoteOk, the reference's and the program's. -/
import Derived.Test.YtgaggpnlimchkaaGreatDoorBase8
import Derived.Test.YtgaggpnlimchkaaGreatDoorBase9n
import Derived.Test.YtgaggpnlimchkaaGreatDoorImp8f
namespace Go.Proofs.YtgaggpnlimchkaaGreatDoor.B9
open Go.Proofs.YtgaggpnlimchkaaGreatDoor.P1 Go.Proofs.YtgaggpnlimchkaaGreatDoor.B1 Go.Proofs.YtgaggpnlimchkaaGreatDoor.B2 Go.Proofs.YtgaggpnlimchkaaGreatDoor.T1 Go.Proofs.YtgaggpnlimchkaaGreatDoor.BT Go.Proofs.YtgaggpnlimchkaaGreatDoor.P5 Go.Proofs.YtgaggpnlimchkaaGreatDoor.P6 Go.Proofs.YtgaggpnlimchkaaGreatDoor.P8 Go.Proofs.YtgaggpnlimchkaaGreatDoor.P9 Go.Proofs.YtgaggpnlimchkaaGreatDoor.B5 Go.Proofs.YtgaggpnlimchkaaGreatDoor.B6 Go.Proofs.YtgaggpnlimchkaaGreatDoor.B8 Go.Proofs.YtgaggpnlimchkaaGreatDoor.D1 Go.Proofs.YtgaggpnlimchkaaGreatDoor.W8 Go.Proofs.YtgaggpnlimchkaaGreatDoor.RC
open Go.ChangeShapes Go.WideShapes Go.ChangeAt Go.RowKit
set_option linter.unusedVariables false

set_option maxRecDepth 20000 in
set_option maxHeartbeats 4000000 in
theorem NoteOk_spec (n : No) (hx : n.v.w.length ≤ 1048576) (w : World) : Calls Tryz.prog 107 #[noV n] w (Ans (.bool (noteOk n)) w) := by
  have HK := Lib.hid (fun w' => Look_spec n.l w')
  have HF := Lib.hid (fun w' => Fits_spec n.l n.v hx w')
  have HB := (Below.refl w.heap.size w).alloc (Nat.le_refl _) (.cells #[.int .i64 n.l, .int .i64 n.v.k, .int .i64 n.v.n, .int .i64 n.v.r, .int .i64 n.v.g, .int .i64 n.v.b, .int .i64 n.v.c, .string ⟨n.v.w.toArray⟩, .bool n.s] 107)
  have h1 := no_new w n 107
  have HL := Lib.hid (no_val h1)
  obtain ⟨c0, _⟩ := no_cells h1
  clear h1
  rw [noV_is]
  cases hk : isLook n.l
  · rw [hk] at HK
    have Hn := Lib.hid (show noteOk n = false by
      unfold noteOk
      cases hf : fits n.l n.v
      · rfl
      · have := fits_look hf
        rw [hk] at this; cases this)
    clear hk
    go_enter Tryz.func107, Tryz.ntmps107
    go_wp2_with (first | (go_at_call 121; refine (HK.out _).mono ?_; rintro e w' ⟨rfl, rfl⟩))
    go_ret
    exact ⟨by rw [Hn.out]; rfl, HB⟩
  · rw [hk] at HK
    clear hk
    go_enter Tryz.func107, Tryz.ntmps107
    go_wp2_with (first | (go_at_call 121; refine (HK.out _).mono ?_; rintro e w' ⟨rfl, rfl⟩) | (go_at_call 122; refine (HF.out _).mono ?_; rintro e w1 ⟨rfl, g1⟩) | (refine wpList_load_eq HL.out rfl rfl rfl ?_))
    go_ret
    exact ⟨rfl, HB.trans (g1.mono HB.size)⟩

set_option maxRecDepth 20000 in
set_option maxHeartbeats 4000000 in
theorem NoteOk_impl (n : No) (hr : -9223372036854775808 ≤ n.l ∧ n.l ≤ 9223372036854775807) (hx : n.v.w.length ≤ 1048576) (w : World) (L : Pow w) : Calls Tryz.prog 119 #[noV n] w (Ans (.bool (noteOk n)) w) := by
  have HB := (Below.refl w.heap.size w).alloc (Nat.le_refl _) (.cells #[.int .i64 n.l, .int .i64 n.v.k, .int .i64 n.v.n, .int .i64 n.v.r, .int .i64 n.v.g, .int .i64 n.v.b, .int .i64 n.v.c, .string ⟨n.v.w.toArray⟩, .bool n.s] 107)
  have HF := Lib.hid (fun w' (hb : Below w.heap.size w w') => Fits_impl n.l n.v hr hx w' (L.on hb))
  have h1 := no_new w n 107
  have HL := Lib.hid (no_val h1)
  obtain ⟨c0, _⟩ := no_cells h1
  clear h1 L hr
  rw [noV_is]
  go_enter Tryz.func119, Tryz.ntmps119
  go_wp2_with (first | (go_at_call 128; refine (HF.out _ HB).mono ?_; rintro e w1 ⟨rfl, g1⟩) | ((with_reducible refine wp_load_at HL.out ?_ ?_); exact And.intro rfl (And.intro rfl rfl)))
  go_ret
  exact ⟨rfl, HB.trans (g1.mono HB.size)⟩

end Go.Proofs.YtgaggpnlimchkaaGreatDoor.B9
