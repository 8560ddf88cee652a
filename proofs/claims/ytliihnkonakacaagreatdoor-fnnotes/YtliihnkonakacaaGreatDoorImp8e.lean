/- Contracts of chapter 8's functions of the program: LookOf. -/
import Derived.Test.YtliihnkonakacaaGreatDoorImp8d
namespace Go.Proofs.YtliihnkonakacaaGreatDoor.B8
open Go.Proofs.YtliihnkonakacaaGreatDoor.P1 Go.Proofs.YtliihnkonakacaaGreatDoor.B1 Go.Proofs.YtliihnkonakacaaGreatDoor.B2 Go.Proofs.YtliihnkonakacaaGreatDoor.T1 Go.Proofs.YtliihnkonakacaaGreatDoor.BT Go.Proofs.YtliihnkonakacaaGreatDoor.P5 Go.Proofs.YtliihnkonakacaaGreatDoor.P6 Go.Proofs.YtliihnkonakacaaGreatDoor.P7 Go.Proofs.YtliihnkonakacaaGreatDoor.P8 Go.Proofs.YtliihnkonakacaaGreatDoor.B5 Go.Proofs.YtliihnkonakacaaGreatDoor.B6 Go.Proofs.YtliihnkonakacaaGreatDoor.B7 Go.Proofs.YtliihnkonakacaaGreatDoor.D1 Go.Proofs.YtliihnkonakacaaGreatDoor.S7 Go.Proofs.YtliihnkonakacaaGreatDoor.RI Go.Proofs.YtliihnkonakacaaGreatDoor.W8 Go.Proofs.YtliihnkonakacaaGreatDoor.RC
open Go.ChangeShapes Go.WideShapes Go.ChangeAt Go.RowKit
set_option linter.unusedVariables false

theorem name_at {k : Nat} (hk : k < 6) : (trOf k)[0]? = some (.string ⟨(nameOf (k : Int)).toArray⟩) := by
  have : k = 0 ∨ k = 1 ∨ k = 2 ∨ k = 3 ∨ k = 4 ∨ k = 5 := by omega
  rcases this with rfl | rfl | rfl | rfl | rfl | rfl <;> rfl

/-- None of the first k names is s. -/
def NoneOf (s : List UInt8) (k : Nat) : Prop := ∀ j, j < k → nameOf (j : Int) ≠ s

theorem look_found {s : List UInt8} {k : Nat} (hk : k < 6) (h : NoneOf s k) (e : nameOf (k : Int) = s) : lookOf s = k := by
  subst e
  exact look_name (look_iff.2 (by omega))

theorem look_missed {s : List UInt8} (h : NoneOf s 6) : lookOf s = -1 := by
  have hb := look_bd s
  by_cases h0 : 0 ≤ lookOf s
  · have e := name_look h0
    exfalso
    refine h (lookOf s).toNat (by omega) ?_
    rw [show (((lookOf s).toNat : Nat) : Int) = lookOf s by omega]
    exact e
  · omega

theorem noneOf_next {s : List UInt8} {k : Nat} (h : NoneOf s k) (e : nameOf (k : Int) ≠ s) : NoneOf s (k + 1) := fun j hj => by
  rcases Nat.lt_or_eq_of_le (Nat.le_of_lt_succ hj) with h1 | h1
  · exact h j h1
  · rw [h1]; exact e

set_option maxRecDepth 20000 in
set_option maxHeartbeats 4000000 in
theorem index_impl (s : List UInt8) (b bp : Nat) (w : World) (hl : LBlk w b trAll) (hc : w.cell? ⟨bp, 0, none⟩ = some (.string ⟨s.toArray⟩)) (hlt : bp < w.heap.size) :
    Calls Tryz.prog 222 #[.slice (some ⟨b, 0, none⟩) 6 6, .func (.func 223) #[] #[.pointer (some ⟨bp, 0, none⟩)]] w (Ans (.int .i64 (lookOf s)) w) := by
  have HC := Lib.hid (fun (k : Nat) (hk : k < 6) (w1 : World) (g : Below w.heap.size w w1) => lookClosure_impl (trOf k) (nameOf (k : Int)) s bp w1 (trOf_len k) (name_at hk) ((g.cell (p := ⟨bp, 0, none⟩) hlt).trans hc) (Nat.lt_of_lt_of_le hlt g.size))
  have HL := Lib.hid (fun (w1 : World) (g : Below w.heap.size w w1) => hl.below g)
  clear hl hc hlt
  go_enter Tryz.func222, Tryz.ntmps222
  go_wp2
  go_loopg [8] 6 (fun kx s8 wr => ∃ i : Nat, s8 = .int .i64 (i : Int) ∧ i ≤ 6 ∧ 6 - i ≤ kx ∧ Below w.heap.size w wr ∧ Hid (NoneOf s i))
  case atStart => exact ⟨0, rfl, by omega, by omega, Below.refl _ _, Lib.hid fun j h => absurd h (Nat.not_lt_zero _)⟩
  case round =>
    obtain ⟨i, rfl, hi, hk, g, I⟩ := hrel
    have hcase : i = 6 ∨ i < 6 := by omega
    rcases hcase with rfl | hlt
    · have HR := Lib.hid (look_missed I.out)
      go_wp2_with fail
      go_ret
      exact ⟨by rw [HR.out]; rfl, g⟩
    · have hl := HL.out _ g
      have hcl := HC.out i hlt _ g
      by_cases he : nameOf (i : Int) = s
      · rw [show (nameOf (i : Int) == s) = true by simpa using he] at hcl
        have HR := Lib.hid (look_found hlt I.out he)
        have : i = 0 ∨ i = 1 ∨ i = 2 ∨ i = 3 ∨ i = 4 ∨ i = 5 := by omega
        clear he
        rcases this with rfl | rfl | rfl | rfl | rfl | rfl
        all_goals
          have HLD := Lib.hid (tr_load hl _ hlt)
          have HCL := Lib.hid hcl
          clear hl hcl
          go_wp2_with (first | (go_at_call 223; refine HCL.out.mono ?_; rintro e w2 ⟨rfl, g2⟩; have hg2 := g.trans (g2.mono g.size)) | (refine wpList_load_eq HLD.out rfl rfl rfl ?_))
          go_ret
          exact ⟨by rw [HR.out]; rfl, hg2⟩
      · rw [show (nameOf (i : Int) == s) = false by simpa using he] at hcl
        have HI := Lib.hid (noneOf_next I.out he)
        obtain ⟨m, em⟩ : ∃ m, m = 6 - (i + 1) := ⟨_, rfl⟩
        obtain ⟨q, eq⟩ : ∃ q, q = i + 1 := ⟨_, rfl⟩
        have : i = 0 ∨ i = 1 ∨ i = 2 ∨ i = 3 ∨ i = 4 ∨ i = 5 := by omega
        clear he
        rcases this with rfl | rfl | rfl | rfl | rfl | rfl
        all_goals
          have HLD := Lib.hid (tr_load hl _ hlt)
          have HCL := Lib.hid hcl
          clear hl hcl
          go_wp2_with (first | (go_at_call 223; refine HCL.out.mono ?_; rintro e w2 ⟨rfl, g2⟩; have hg2 := g.trans (g2.mono g.size)) | (refine wpList_load_eq HLD.out rfl rfl rfl ?_))
          go_roundg m
          case measure => omega
          case rel => exact ⟨q, by rw [eq]; rfl, by omega, by omega, hg2, by rw [eq]; exact HI⟩

set_option maxRecDepth 20000 in
set_option maxHeartbeats 4000000 in
theorem LookOf_impl (s : List UInt8) (w : World) (hs : s.length ≤ 1048576) : Calls Tryz.prog 197 #[.string ⟨s.toArray⟩] w (Ans (.int .i64 (lookOf s)) w) := by
  have HT := Lib.hid (fun w' => traits_impl w')
  have HX := Lib.hid (fun (w1 : World) g1 => (LBlk.new w [.string ⟨s.toArray⟩] 9).below (w' := w1) g1)
  have HI := Lib.hid (fun (b : Nat) (w1 : World) h1 h2 h3 => index_impl s b w.heap.size w1 h1 h2 h3)
  have HLD := Lib.hid (fun (w1 : World) => laid (P := Tryz.prog) (ty := 181) w1 trZ trAll all_wide rfl rfl)
  clear hs
  go_enter Tryz.func197, Tryz.ntmps197
  go_wp2_with (first | (go_at_call 171; refine (HT.out _).mono ?_; rintro e w1 ⟨rfl, g1⟩; obtain ⟨w2, hst, hl, g2⟩ := HLD.out w1; have hx := (HX.out w1 g1).below g2; have hi := HI.out w1.heap.size w2 hl (hx.2 0 _ rfl).1 hx.1; have hb1 := Below.box g1; have hg := hb1.trans (g2.mono hb1.size); have HST := Lib.hid hst; clear hl hx g1 hst g2 hb1) | (refine wp_store_at HST.out ?_ ?_; exact And.intro rfl (And.intro rfl (And.intro rfl rfl))) | (go_at_call 222; refine hi.mono ?_; rintro e w2 ⟨rfl, g2⟩))
  go_ret
  exact ⟨rfl, hg.trans (g2.mono hg.size)⟩

end Go.Proofs.YtliihnkonakacaaGreatDoor.B8
