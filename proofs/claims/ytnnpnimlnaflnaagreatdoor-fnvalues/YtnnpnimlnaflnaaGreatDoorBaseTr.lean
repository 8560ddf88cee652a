/- Contract of the reference's l1Read. -/
import Derived.Test.YtnnpnimlnaflnaaGreatDoorBaseT
namespace Go.Proofs.YtnnpnimlnaflnaaGreatDoor.BT
open Go.Proofs.YtnnpnimlnaflnaaGreatDoor.P1 Go.Proofs.YtnnpnimlnaflnaaGreatDoor.B1 Go.Proofs.YtnnpnimlnaflnaaGreatDoor.B2 Go.Proofs.YtnnpnimlnaflnaaGreatDoor.T1
open Go.ChangeShapes Go.WideShapes Go.ChangeAt Go.RowKit
set_option linter.unusedVariables false

/-- What l1Read answers. -/
def Reads (l : List UInt8) (w : World) (e : Ending) (w' : World) : Prop := e = .returned (.tuple #[.int .i64 (numVal l), .bool (isNum l)]) ∧ w = w'

theorem reads_none {l : List UInt8} {w : World} (h : readNum l = none) : Reads l w (.returned (.tuple #[.int .i64 0, .bool false])) w := by
  obtain ⟨a, b⟩ := num_none h
  exact ⟨by rw [a, b], rfl⟩
theorem reads_some {l : List UInt8} {w : World} {n : Int} (h : readNum l = some n) : Reads l w (.returned (.tuple #[.int .i64 n, .bool true])) w := by
  obtain ⟨a, b⟩ := num_some h
  exact ⟨by rw [a, b], rfl⟩

set_option maxRecDepth 20000 in
set_option maxHeartbeats 2000000 in
theorem Read_spec (l : List UInt8) (w : World) (hl : l.length ≤ 1048576) :
    Calls Tryz.prog 59 #[.string ⟨l.toArray⟩] w (Reads l w) := by
  by_cases hne : l = []
  · subst hne
    have HR := Lib.hid (show readNum [] = none from rfl)
    go_enter Tryz.func59, Tryz.ntmps59
    go_wp2
    go_ret2
    exact reads_none HR.out
  · obtain ⟨L, eL⟩ : ∃ L, l.length = L := ⟨_, rfl⟩
    have L0 : (1 : Int) ≤ (L : Int) := by
      have : 0 < l.length := List.length_pos_iff.2 hne
      omega
    have L1 : (L : Int) ≤ 1048576 := by omega
    have hlen := fun (w' : World) (t : TypeId) => str_lenN l L eL w' t
    obtain ⟨c, hc⟩ : ∃ c, (l[0]?).map UInt8.toNat = some c := by
      cases l with
      | nil => exact absurd rfl hne
      | cons b r => exact ⟨b.toNat, rfl⟩
    have h0 := str_at0 l c hc
    have hc255 : (c : Int) ≤ 255 := by
      obtain ⟨b, _, rfl⟩ := Option.map_eq_some_iff.1 hc
      have := byte_lt b; omega
    have hem : (l == []) = false := by cases l <;> simp_all
    have HC := Lib.hid hc
    have HL := Lib.hid eL
    clear hc eL hne hl
    by_cases h45 : c = 45
    · subst h45
      by_cases hsh : L < 2 ∨ 10 < L
      · have HR := Lib.hid ((read_neg' HC.out).trans (body_short (neg := true) (r := l.tail) (by rw [List.length_tail, HL.out]; omega)))
        rcases (show (L : Int) < 2 ∨ 10 < (L : Int) by omega) with hs | hs
        all_goals
          clear hsh
          go_enter Tryz.func59, Tryz.ntmps59
          go_wp2
          go_ret2
          exact reads_none HR.out
      · have s0 : (2 : Int) ≤ (L : Int) := by omega
        have s1 : (L : Int) ≤ 10 := by omega
        clear hsh
        obtain ⟨d1, hd1⟩ : ∃ d, (l[1]?).map UInt8.toNat = some d := by
          have : 1 < l.length := by rw [HL.out]; omega
          exact ⟨l[1].toNat, by rw [List.getElem?_eq_getElem this]; rfl⟩
        have h1 := str_at1 l d1 hd1
        have HD1 := Lib.hid (show (l.tail[0]?).map UInt8.toNat = some d1 by rw [List.getElem?_tail]; exact hd1)
        have d255 : (d1 : Int) ≤ 255 := by
          obtain ⟨b, _, rfl⟩ := Option.map_eq_some_iff.1 hd1
          have := byte_lt b; omega
        clear hd1
        go_enter Tryz.func59, Tryz.ntmps59
        go_wp2
        go_loop [6, 7] (fun s6 s7 => ∃ n k : Nat, s6 = .int .i64 (n : Int) ∧ s7 = .int .i64 (k : Int) ∧ 1 ≤ k ∧ k ≤ L ∧ Hid (DecTo l.tail (k - 1) n)) (fun _ s7 => L - (intOf s7).toNat)
        case atStart => exact ⟨0, 1, rfl, rfl, by omega, by omega, Lib.hid (DecTo.start _)⟩
        case round =>
          obtain ⟨n, k, rfl, rfl, k0, k1, I⟩ := hrel
          have hn : (n : Int) ≤ 999999999 := by have := I.out.small (by omega); omega
          by_cases hlt : k < L
          · have hlt' : (k : Int) < (L : Int) := by omega
            obtain ⟨d, hd⟩ : ∃ d, (l[k]?).map UInt8.toNat = some d := by
              have : k < l.length := by rw [HL.out]; omega
              exact ⟨l[k].toNat, by rw [List.getElem?_eq_getElem this]; rfl⟩
            have hat := str_atN l k d hd
            have HD := Lib.hid hd
            have hd255 : (d : Int) ≤ 255 := by
              obtain ⟨b, _, rfl⟩ := Option.map_eq_some_iff.1 hd
              have := byte_lt b; omega
            clear hd
            rcases (show (d : Int) < 48 ∨ 57 < (d : Int) ∨ (48 ≤ (d : Int) ∧ (d : Int) ≤ 57) by omega) with hb | hb | ⟨hb, hb'⟩
            · have HR := Lib.hid ((read_neg' HC.out).trans (body_bad (neg := true) (dec_badN (show (l.tail[k - 1]?).map UInt8.toNat = some d by rw [List.getElem?_tail, Nat.sub_add_cancel (by omega)]; exact HD.out) (by omega))))
              go_wp2
              go_ret2
              exact reads_none HR.out
            · have HR := Lib.hid ((read_neg' HC.out).trans (body_bad (neg := true) (dec_badN (show (l.tail[k - 1]?).map UInt8.toNat = some d by rw [List.getElem?_tail, Nat.sub_add_cancel (by omega)]; exact HD.out) (by omega))))
              go_wp2
              go_ret2
              exact reads_none HR.out
            · have HS := Lib.hid (I.out.step (show (l.tail[k - 1]?).map UInt8.toNat = some d by rw [List.getElem?_tail, Nat.sub_add_cancel (by omega)]; exact HD.out) (by omega) (by omega))
              go_wp2
              go_round
              case rel => exact ⟨n * 10 + (d - 48), k + 1, by go_num, by go_num, by omega, by omega, Lib.hid (by rw [show k + 1 - 1 = k - 1 + 1 by omega]; exact HS.out)⟩
              case measure => simp [intOf]; omega
          · obtain rfl : k = L := by omega
            have hlt' : ¬ (k : Int) < (k : Int) := by omega
            have HT := Lib.hid (show Lib.decFrom 0 (l.tail.take l.tail.length) = some n by rw [List.length_tail, HL.out]; exact I.out.1)
            by_cases hz : d1 = 48
            · have HR := Lib.hid ((read_neg' HC.out).trans (body_end_bad HD1.out hz (Or.inl rfl)))
              subst hz
              go_wp2
              go_ret2
              exact reads_none HR.out
            · have HR := Lib.hid ((read_neg' HC.out).trans (body_end_good (by rw [List.length_tail, HL.out]; omega) (by rw [List.length_tail, HL.out]; omega) HT.out HD1.out (fun e => hz e.1)))
              have hz' : ((d1 : Int) == 48) = false := by simp; omega
              go_wp2
              go_ret2
              exact reads_some HR.out
    · have H45 := Lib.hid h45
      have h45' : ((c : Int) == 45) = false := by simp; omega
      by_cases hsh : L < 1 ∨ 9 < L
      · have HR := Lib.hid ((read_pos' HC.out H45.out).trans (body_short (neg := false) (r := l) (by rw [HL.out]; omega)))
        rcases (show (L : Int) < 1 ∨ 9 < (L : Int) by omega) with hs | hs
        all_goals
          clear hsh
          go_enter Tryz.func59, Tryz.ntmps59
          go_wp2
          go_ret2
          exact reads_none HR.out
      · have s0 : (1 : Int) ≤ (L : Int) := by omega
        have s1 : (L : Int) ≤ 9 := by omega
        clear hsh
        go_enter Tryz.func59, Tryz.ntmps59
        go_wp2
        go_loop [6, 7] (fun s6 s7 => ∃ n k : Nat, s6 = .int .i64 (n : Int) ∧ s7 = .int .i64 (k : Int) ∧ 0 ≤ k ∧ k ≤ L ∧ Hid (DecTo l (k) n)) (fun _ s7 => L - (intOf s7).toNat)
        case atStart => exact ⟨0, 0, rfl, rfl, by omega, by omega, Lib.hid (DecTo.start _)⟩
        case round =>
          obtain ⟨n, k, rfl, rfl, k0, k1, I⟩ := hrel
          have hn : (n : Int) ≤ 999999999 := by have := I.out.small (by omega); omega
          by_cases hlt : k < L
          · have hlt' : (k : Int) < (L : Int) := by omega
            obtain ⟨d, hd⟩ : ∃ d, (l[k]?).map UInt8.toNat = some d := by
              have : k < l.length := by rw [HL.out]; omega
              exact ⟨l[k].toNat, by rw [List.getElem?_eq_getElem this]; rfl⟩
            have hat := str_atN l k d hd
            have HD := Lib.hid hd
            have hd255 : (d : Int) ≤ 255 := by
              obtain ⟨b, _, rfl⟩ := Option.map_eq_some_iff.1 hd
              have := byte_lt b; omega
            clear hd
            rcases (show (d : Int) < 48 ∨ 57 < (d : Int) ∨ (48 ≤ (d : Int) ∧ (d : Int) ≤ 57) by omega) with hb | hb | ⟨hb, hb'⟩
            · have HR := Lib.hid ((read_pos' HC.out H45.out).trans (body_bad (neg := false) (dec_badN HD.out (by omega))))
              go_wp2
              go_ret2
              exact reads_none HR.out
            · have HR := Lib.hid ((read_pos' HC.out H45.out).trans (body_bad (neg := false) (dec_badN HD.out (by omega))))
              go_wp2
              go_ret2
              exact reads_none HR.out
            · have HS := Lib.hid (I.out.step HD.out (by omega) (by omega))
              go_wp2
              go_round
              case rel => exact ⟨n * 10 + (d - 48), k + 1, by go_num, by go_num, by omega, by omega, Lib.hid (by exact HS.out)⟩
              case measure => simp [intOf]; omega
          · obtain rfl : k = L := by omega
            have hlt' : ¬ (k : Int) < (k : Int) := by omega
            have HT := Lib.hid (show Lib.decFrom 0 (l.take l.length) = some n by rw [HL.out]; exact I.out.1)
            by_cases hz : c = 48
            · subst hz
              by_cases hone : 1 < (k : Int)
              · have HR := Lib.hid ((read_pos' HC.out H45.out).trans (body_end_bad HC.out rfl (Or.inr (by rw [HL.out]; omega))))
                go_wp2
                go_ret2
                exact reads_none HR.out
              · have HR := Lib.hid ((read_pos' HC.out H45.out).trans (body_end_good (neg := false) (by rw [HL.out]; omega) (by rw [HL.out]; omega) HT.out HC.out (fun e => by
                  rcases e.2 with e | e
                  · cases e
                  · rw [HL.out] at e; omega)))
                go_wp2
                go_ret2
                exact reads_some HR.out
            · have HR := Lib.hid ((read_pos' HC.out H45.out).trans (body_end_good (neg := false) (by rw [HL.out]; omega) (by rw [HL.out]; omega) HT.out HC.out (fun e => hz e.1)))
              have hz' : ((c : Int) == 48) = false := by simp; omega
              go_wp2
              go_ret2
              exact reads_some HR.out

end Go.Proofs.YtnnpnimlnaflnaaGreatDoor.BT
