/- How an argument of type []byte is opened. -/
import Derived.Test.YtmcjfjchpclamaaDoorDraw1
import Derived.Test.YtmcjfjchpclamaaDoorRows
import Derived.OpenShut
import Derived.ChangeOld
import Derived.Lib.SmallJoins
namespace Go.Proofs.YtmcjfjchpclamaaDoor.D1
open Go.ChangeShapes Go.WideShapes Go.ChangeAt Go.RowKit
set_option linter.unusedVariables false
set_option maxRecDepth 100000

theorem open_bytes {H : Type} {enc : TypeId × Value → H} {W : World} {base b0 : Nat} {spare : Nat → Bool} {held : Bool} {v : Value} {d : DataW H} {p : List MemPlace}
    (hv : Value.okWide Tryd.prog W .any b0 99 v) (h : DataW.Trod enc Tryd.prog W base spare held 99 v d p) : ∃ a len cap, v = .slice a len cap ∧ (len ≤ 4096 → Bytes W W.heap.size a len) := by
  obtain ⟨a, len, cap, rfl⟩ := okWide_slice Tryd.underlying99 hv
  refine ⟨a, len, cap, rfl, fun hl => ⟨hl, fun i hi => ?_⟩⟩
  obtain ⟨fuel, hf⟩ := h
  rcases open_ints Tryd.underlying99 Tryd.underlying5 (by kernel_rfl) hf with ⟨hcs, _⟩ | ⟨x, l, c, zs, hcs, _, hlc, hm, hz, _, hcell, hwf⟩
  · simp [Value.cells] at hcs; omega
  · simp [Value.cells] at hcs
    obtain ⟨rfl, rfl, rfl⟩ := hcs
    have hz' : len ≤ zs.length := by split at hz <;> omega
    obtain ⟨b, off, rfl, hc⟩ := ints_at hcell (by omega)
    have hci := hc i (by omega)
    have hb : b < W.heap.size := by
      apply Classical.byContradiction
      intro hn
      have : W.cell? ⟨b, off + i, none⟩ = none := by
        simp [World.cell?, Array.getElem?_eq_none (show W.heap.size ≤ b from by omega)]
      rw [this] at hci; cases hci
    refine ⟨b, off, _, rfl, hb, by omega, hci, ?_⟩
    have := range_u8 hwf i
    simpa using this

end Go.Proofs.YtmcjfjchpclamaaDoor.D1
