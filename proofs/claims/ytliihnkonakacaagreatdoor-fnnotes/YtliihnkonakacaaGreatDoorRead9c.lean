/- Chapter 9: the program's noteIn: a note out of a squeezed piece, or given up. -/
import Derived.Test.YtliihnkonakacaaGreatDoorRead9b
import Derived.Test.YtliihnkonakacaaGreatDoorNote9
namespace Go.Proofs.YtliihnkonakacaaGreatDoor.B9
open Go.Proofs.YtliihnkonakacaaGreatDoor.P1 Go.Proofs.YtliihnkonakacaaGreatDoor.B1 Go.Proofs.YtliihnkonakacaaGreatDoor.B2 Go.Proofs.YtliihnkonakacaaGreatDoor.T1 Go.Proofs.YtliihnkonakacaaGreatDoor.BT Go.Proofs.YtliihnkonakacaaGreatDoor.P5 Go.Proofs.YtliihnkonakacaaGreatDoor.P6 Go.Proofs.YtliihnkonakacaaGreatDoor.P8 Go.Proofs.YtliihnkonakacaaGreatDoor.P9 Go.Proofs.YtliihnkonakacaaGreatDoor.B5 Go.Proofs.YtliihnkonakacaaGreatDoor.B6 Go.Proofs.YtliihnkonakacaaGreatDoor.V6 Go.Proofs.YtliihnkonakacaaGreatDoor.B8 Go.Proofs.YtliihnkonakacaaGreatDoor.D1 Go.Proofs.YtliihnkonakacaaGreatDoor.W8 Go.Proofs.YtliihnkonakacaaGreatDoor.RC Go.Proofs.YtliihnkonakacaaGreatDoor.RI
open Go.ChangeShapes Go.WideShapes Go.ChangeAt Go.RowKit
set_option linter.unusedVariables false

/-- A note, or given up. -/
def NoteIs (r : Option No) (w : World) (e : Ending) (w' : World) : Prop := (e = match r with
  | some n => .returned (noV n)
  | none => .panicked [gaveUp]) ∧ Below w.heap.size w w'

/-- The strong mark as a token. -/
def strongTk : Tok := ⟨1, strongN, 0⟩

theorem bangP_one (ts : List Tok) : bangP ts = match cutT 33 ts with
    | none => some (ts, false)
    | some (p, m) => if isOne strongTk m = true then some (p, true) else none := by
  unfold bangP
  cases cutT 33 ts with
  | none => rfl
  | some pm =>
    obtain ⟨p, m⟩ := pm
    match m with
    | [] => rfl
    | [y] =>
      obtain ⟨k, s, n⟩ := y
      have : (isOne strongTk [⟨k, s, n⟩] = true) ↔ (k = 1 ∧ s = strongN ∧ n = 0) := by
        show (Tok.same ⟨k, s, n⟩ strongTk = true) ↔ _
        rw [Tok.same_iff]
        simp [strongTk]
      by_cases h : k = 1 ∧ s = strongN ∧ n = 0
      · dsimp only
        rw [if_pos h, if_pos (this.2 h)]
      · dsimp only
        rw [if_neg h, if_neg (fun h' => h (this.1 h'))]
    | y :: z :: r => rfl

/-- What is left to read, where the marks are cut off: the tail of noteInP. -/
def noteTail (hd vb : List Tok) (s : Bool) : Option No := match headP hd with
  | none => none
  | some nm => match readToks vb with
    | none => none
    | some v => if fits (lookOf nm) v = true then some ⟨lookOf nm, v, s⟩ else none

theorem noteInP_is (q : List Tok) : noteInP q = match cutT 58 q with
    | none => none
    | some (hd, body) => match cutT 33 body with
      | none => noteTail hd body false
      | some (p, m) => if isOne strongTk m = true then noteTail hd p true else none := by
  unfold noteInP
  cases cutT 58 q with
  | none => rfl
  | some hb =>
    obtain ⟨hd, body⟩ := hb
    dsimp only
    rw [bangP_one]
    cases cutT 33 body with
    | none => rfl
    | some pm =>
      obtain ⟨p, m⟩ := pm
      dsimp only
      by_cases h : isOne strongTk m = true
      · rw [if_pos h, if_pos h]
        rfl
      · rw [if_neg h, if_neg h]

theorem value_short {x : Va} (h : valueOk x = true) : x.w.length ≤ 12 := by
  rcases valueOk_cases h with ⟨_, _, _, e⟩ | ⟨_, _, _, _, _, _, hw⟩ | ⟨_, _, hl, _, _⟩
  · rw [e]; simp
  · rw [hw]; simp
  · exact hl

theorem cut_sub {c : UInt8} {ts p q : List Tok} (h : cutT c ts = some (p, q)) : (∀ x ∈ p, x ∈ ts) ∧ (∀ x ∈ q, x ∈ ts) ∧ p.length ≤ ts.length ∧ q.length ≤ ts.length := by
  unfold cutT at h
  split at h
  · cases h
  · cases h
    exact ⟨fun x hx => List.mem_of_mem_take hx, fun x hx => List.mem_of_mem_drop hx, by rw [List.length_take]; omega, by rw [List.length_drop]; omega⟩

end Go.Proofs.YtliihnkonakacaaGreatDoor.B9
