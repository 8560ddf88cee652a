/- Contracts of the laws' own helpers on lists of tokens: likeTokens, eqTokenS. -/
import Derived.Test.YtniemiofffecjaaDoorBase5n
import Derived.BigQuiet
import Derived.Deep.QuietTactic
namespace Go.Proofs.YtniemiofffecjaaDoor.B5
open Go.Proofs.YtniemiofffecjaaDoor.P1 Go.Proofs.YtniemiofffecjaaDoor.B1 Go.Proofs.YtniemiofffecjaaDoor.B2 Go.Proofs.YtniemiofffecjaaDoor.T1 Go.Proofs.YtniemiofffecjaaDoor.BT Go.Proofs.YtniemiofffecjaaDoor.P5 Go.Proofs.YtniemiofffecjaaDoor.D1
open Go.ChangeShapes Go.WideShapes Go.ChangeAt Go.RowKit
set_option linter.unusedVariables false

/-- A value that is a slice of these tokens. -/
def TokVal (w : World) (v : Value) (ts : List Tok) : Prop := (v = .slice none 0 0 ∧ ts = []) ∨ ∃ g cap, v = .slice (some ⟨g, 0, none⟩) ts.length cap ∧ TokRow w g cap ts

theorem TokVal.on {w w' : World} {v : Value} {ts : List Tok} (h : TokVal w v ts) (hb : Below w.heap.size w w') : TokVal w' v ts := by
  rcases h with h | ⟨g, cap, hv, hr⟩
  · exact Or.inl h
  · exact Or.inr ⟨g, cap, hv, hr.on hb⟩

theorem Toks.val {w : World} {v : Value} {B : Nat} {ts : List Tok} (h : Toks w v B ts) : TokVal w v ts := by
  rcases h.row with h | ⟨g, cap, hv, _, hr⟩
  · exact Or.inl h
  · exact Or.inr ⟨g, cap, hv, hr⟩

theorem same_refl (x : Tok) : x.same x = true := Tok.same_iff.2 rfl

theorem TokVal.form {w : World} {v : Value} {ts : List Tok} (h : TokVal w v ts) : ∃ a cap, v = .slice a ts.length cap ∧ (ts ≠ [] → ∃ g, a = some ⟨g, 0, none⟩ ∧ TokRow w g cap ts) := by
  rcases h with ⟨rfl, rfl⟩ | ⟨g, cap, rfl, hr⟩
  · exact ⟨none, 0, rfl, fun h => absurd rfl h⟩
  · exact ⟨some ⟨g, 0, none⟩, cap, rfl, fun _ => ⟨g, rfl, hr⟩⟩

theorem Tok_eta (x : Tok) : (⟨x.k, x.t, x.n⟩ : Tok) = x := rfl

set_option maxRecDepth 20000 in
set_option maxHeartbeats 2000000 in
theorem like_rows (ts : List Tok) (n g cap g' cap' : Nat) (w : World) (hn : ts.length = n) (h : TokRow w g cap ts) (h' : TokRow w g' cap' ts) (hs : n ≤ 2000000) :
    Calls Tryd.prog 14 #[.slice (some ⟨g, 0, none⟩) n cap, .slice (some ⟨g', 0, none⟩) n cap'] w (Ans (.bool true) w) := by
  have HN := Lib.hid hn
  have HR := Lib.hid h
  have HR' := Lib.hid h'
  have hnc : (n : Int) ≤ (cap : Int) := by have := h.room; omega
  have hnc' : (n : Int) ≤ (cap' : Int) := by have := h'.room; omega
  have hs' : (n : Int) ≤ 2000000 := by omega
  clear hn h h'
  go_enter Tryd.func14, Tryd.ntmps14
  go_wp2
  go_loopg [5] n (fun kx s5 wr => ∃ i : Nat, s5 = .int .i64 (i : Int) ∧ kx + i = n ∧ Below w.heap.size w wr)
  case atStart => exact ⟨0, rfl, by omega, Below.refl _ _⟩
  case round =>
    obtain ⟨i, rfl, hk, hB⟩ := hrel
    by_cases hlt : i < n
    · have hlt' : (i : Int) < (n : Int) := by omega
      have i0' : (0 : Int) ≤ (i : Int) := by omega
      obtain ⟨x, hx⟩ : ∃ x, ts[i]? = some x := ⟨_, List.getElem?_eq_getElem (by rw [HN.out]; exact hlt)⟩
      obtain ⟨c0, c1, c2⟩ := (HR.out.on hB).cells i x hx
      obtain ⟨d0, d1, d2⟩ := (HR'.out.on hB).cells i x hx
      have heq := fun w' => eq_token x.k x.n x.k x.n x.t x.t w'
      rw [Tok_eta, same_refl] at heq
      clear hx
      go_wp2_with fail
      go_quiet (fail)
      go_wp2
      go_roundg (n - (i + 1))
      case measure => omega
      case rel => exact ⟨i + 1, by go_num, by omega, ⟨hB.os, hB.tape, hB.output, hB.size, hB.block⟩⟩
    · have hlt' : ¬ (i : Int) < (n : Int) := by omega
      go_wp2
      go_ret
      exact ⟨rfl, hB⟩

theorem like_none (a a' : Option Addr) (cap cap' : Nat) (w : World) : Calls Tryd.prog 14 #[.slice a 0 cap, .slice a' 0 cap'] w (Ans (.bool true) w) := by
  go_enter Tryd.func14, Tryd.ntmps14
  go_wp2
  go_loop [5] (fun s5 => s5 = .int .i64 0) (fun _ => 0)
  case atStart => rfl
  case round =>
    obtain rfl := hrel
    go_wp2
    go_ret
    exact ⟨rfl, Below.refl _ _⟩

theorem like_same (ts : List Tok) (v v' : Value) (w : World) (h : TokVal w v ts) (h' : TokVal w v' ts) (hs : ts.length ≤ 2000000) : Calls Tryd.prog 14 #[v, v'] w (Ans (.bool true) w) := by
  obtain ⟨a, cap, rfl, k⟩ := h.form
  obtain ⟨a', cap', rfl, k'⟩ := h'.form
  by_cases he : ts = []
  · subst he
    exact like_none a a' cap cap' w
  · obtain ⟨g, rfl, r⟩ := k he
    obtain ⟨g', rfl, r'⟩ := k' he
    exact like_rows ts ts.length g cap g' cap' w rfl r r' hs

theorem held6_drew {w w' : World} {g g' i : Nat} {v0 v1 v2 u0 u1 u2 : Value} (c0 : w'.cell? ⟨g, i * 3, none⟩ = some v0) (c1 : w'.cell? ⟨g, i * 3 + 1, none⟩ = some v1) (c2 : w'.cell? ⟨g, i * 3 + 2, none⟩ = some v2) (d0 : w'.cell? ⟨g', i * 3, none⟩ = some u0) (d1 : w'.cell? ⟨g', i * 3 + 1, none⟩ = some u1) (d2 : w'.cell? ⟨g', i * 3 + 2, none⟩ = some u2) (hl : g < w'.heap.size) (hl' : g' < w'.heap.size) (hB : Below w.heap.size w w') :
    w'.drew.cell? ⟨g, i * 3, none⟩ = some v0 ∧ w'.drew.cell? ⟨g, i * 3 + 1, none⟩ = some v1 ∧ w'.drew.cell? ⟨g, i * 3 + 2, none⟩ = some v2 ∧ w'.drew.cell? ⟨g', i * 3, none⟩ = some u0 ∧ w'.drew.cell? ⟨g', i * 3 + 1, none⟩ = some u1 ∧ w'.drew.cell? ⟨g', i * 3 + 2, none⟩ = some u2 ∧ g < w'.drew.heap.size ∧ g' < w'.drew.heap.size ∧ Below w.heap.size w w'.drew :=
  ⟨c0, c1, c2, d0, d1, d2, hl, hl', ⟨hB.os, hB.tape, hB.output, hB.size, hB.block⟩⟩

theorem held6_call {w w' w2 : World} {g g' i : Nat} {v0 v1 v2 u0 u1 u2 : Value} (h : Below w'.heap.size w' w2) (c0 : w'.cell? ⟨g, i * 3, none⟩ = some v0) (c1 : w'.cell? ⟨g, i * 3 + 1, none⟩ = some v1) (c2 : w'.cell? ⟨g, i * 3 + 2, none⟩ = some v2) (d0 : w'.cell? ⟨g', i * 3, none⟩ = some u0) (d1 : w'.cell? ⟨g', i * 3 + 1, none⟩ = some u1) (d2 : w'.cell? ⟨g', i * 3 + 2, none⟩ = some u2) (hl : g < w'.heap.size) (hl' : g' < w'.heap.size) (hB : Below w.heap.size w w') :
    w2.cell? ⟨g, i * 3, none⟩ = some v0 ∧ w2.cell? ⟨g, i * 3 + 1, none⟩ = some v1 ∧ w2.cell? ⟨g, i * 3 + 2, none⟩ = some v2 ∧ w2.cell? ⟨g', i * 3, none⟩ = some u0 ∧ w2.cell? ⟨g', i * 3 + 1, none⟩ = some u1 ∧ w2.cell? ⟨g', i * 3 + 2, none⟩ = some u2 ∧ g < w2.heap.size ∧ g' < w2.heap.size ∧ Below w.heap.size w w2 :=
  ⟨(h.cell (p := ⟨g, i * 3, none⟩) hl).trans c0, (h.cell (p := ⟨g, i * 3 + 1, none⟩) hl).trans c1, (h.cell (p := ⟨g, i * 3 + 2, none⟩) hl).trans c2, (h.cell (p := ⟨g', i * 3, none⟩) hl').trans d0, (h.cell (p := ⟨g', i * 3 + 1, none⟩) hl').trans d1, (h.cell (p := ⟨g', i * 3 + 2, none⟩) hl').trans d2, Nat.lt_of_lt_of_le hl h.size, Nat.lt_of_lt_of_le hl' h.size, hB.trans (h.mono hB.size)⟩

set_option maxRecDepth 20000 in
set_option maxHeartbeats 2000000 in
theorem eqS_rows (ts : List Tok) (n g cap g' cap' : Nat) (w : World) (hn : ts.length = n) (h : TokRow w g cap ts) (h' : TokRow w g' cap' ts) (hs : n ≤ 2000000) :
    Calls Tryd.prog 25 #[.slice (some ⟨g, 0, none⟩) n cap, .slice (some ⟨g', 0, none⟩) n cap'] w (Ans (.bool true) w) := by
  have HN := Lib.hid hn
  have HR := Lib.hid h
  have HR' := Lib.hid h'
  have hnc : (n : Int) ≤ (cap : Int) := by have := h.room; omega
  have hnc' : (n : Int) ≤ (cap' : Int) := by have := h'.room; omega
  have hs' : (n : Int) ≤ 2000000 := by omega
  clear hn h h'
  go_enter Tryd.func25, Tryd.ntmps25
  go_wp2
  go_loopg [5] n (fun kx s5 wr => ∃ i : Nat, s5 = .int .i64 (i : Int) ∧ kx + i = n ∧ Below w.heap.size w wr)
  case atStart => exact ⟨0, rfl, by omega, Below.refl _ _⟩
  case round =>
    obtain ⟨i, rfl, hk, hB⟩ := hrel
    by_cases hlt : i < n
    · have hlt' : (i : Int) < (n : Int) := by omega
      have i0' : (0 : Int) ≤ (i : Int) := by omega
      obtain ⟨x, hx⟩ : ∃ x, ts[i]? = some x := ⟨_, List.getElem?_eq_getElem (by rw [HN.out]; exact hlt)⟩
      obtain ⟨c0, c1, c2⟩ := (HR.out.on hB).cells i x hx
      obtain ⟨d0, d1, d2⟩ := (HR'.out.on hB).cells i x hx
      have hl := (HR.out.on hB).lt
      have hl' := (HR'.out.on hB).lt
      have HE := Lib.hid (fun w' => eqToken_laws x x w')
      rw [same_refl] at HE
      unfold tokV at HE
      clear hx
      go_wp2_with fail
      go_region_held3 (fun w' => w'.cell? ⟨g, i * 3, none⟩ = some (.int .i64 x.k) ∧ w'.cell? ⟨g, i * 3 + 1, none⟩ = some (.string ⟨x.t.toArray⟩) ∧ w'.cell? ⟨g, i * 3 + 2, none⟩ = some (.int .i64 x.n) ∧ w'.cell? ⟨g', i * 3, none⟩ = some (.int .i64 x.k) ∧ w'.cell? ⟨g', i * 3 + 1, none⟩ = some (.string ⟨x.t.toArray⟩) ∧ w'.cell? ⟨g', i * 3 + 2, none⟩ = some (.int .i64 x.n) ∧ g < w'.heap.size ∧ g' < w'.heap.size ∧ Below w.heap.size w w')
        (first | with_reducible exact held6_drew c0 c1 c2 d0 d1 d2 hl hl' hB | (go_split_ands; with_reducible exact held6_call hb' (by assumption) (by assumption) (by assumption) (by assumption) (by assumption) (by assumption) (by assumption) (by assumption) (by assumption)))
        (first | (go_at_call 46; refine (HE.out _).mono ?_; rintro e w' ⟨rfl, hb'⟩))
      rename_i hS
      obtain ⟨_, _, _, _, _, _, _, _, hB'⟩ := hS
      go_wp2
      go_roundg (n - (i + 1))
      case measure => omega
      case rel => exact ⟨i + 1, by go_num, by omega, hB'⟩
    · have hlt' : ¬ (i : Int) < (n : Int) := by omega
      go_wp2
      go_ret
      exact ⟨rfl, hB⟩

theorem eqS_none (a a' : Option Addr) (cap cap' : Nat) (w : World) : Calls Tryd.prog 25 #[.slice a 0 cap, .slice a' 0 cap'] w (Ans (.bool true) w) := by
  go_enter Tryd.func25, Tryd.ntmps25
  go_wp2
  go_loop [5] (fun s5 => s5 = .int .i64 0) (fun _ => 0)
  case atStart => rfl
  case round =>
    obtain rfl := hrel
    go_wp2
    go_ret
    exact ⟨rfl, Below.refl _ _⟩

theorem eqS_same (ts : List Tok) (v v' : Value) (w : World) (h : TokVal w v ts) (h' : TokVal w v' ts) (hs : ts.length ≤ 2000000) : Calls Tryd.prog 25 #[v, v'] w (Ans (.bool true) w) := by
  obtain ⟨a, cap, rfl, k⟩ := h.form
  obtain ⟨a', cap', rfl, k'⟩ := h'.form
  by_cases he : ts = []
  · subst he
    exact eqS_none a a' cap cap' w
  · obtain ⟨g, rfl, r⟩ := k he
    obtain ⟨g', rfl, r'⟩ := k' he
    exact eqS_rows ts ts.length g cap g' cap' w rfl r r' hs

end Go.Proofs.YtniemiofffecjaaDoor.B5
