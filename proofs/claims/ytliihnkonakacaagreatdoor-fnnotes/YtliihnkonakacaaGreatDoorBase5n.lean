/- Contracts of the laws' own helpers on tokens: toToken, szToken, eqToken. Contracts of the laws' own helpers on lists of tokens: likeTokens, eqTokenS. Contracts of the laws' own helpers: markText. Contracts of the laws' own helpers: heldTokenS. Contracts of the laws' own helpers: markTokenS. The laws' own helpers on slices of tokens, the nil one among them: marked and held. Contracts of the laws' own helpers: szTokenS over an argument []Token. -/
import Derived.Test.YtliihnkonakacaaGreatDoorBase5h
import Derived.BigQuiet
import Derived.Deep.QuietTactic
import Derived.Lib.SmallJoins
namespace Go.Proofs.YtliihnkonakacaaGreatDoor.B5
open Go.Proofs.YtliihnkonakacaaGreatDoor.P1 Go.Proofs.YtliihnkonakacaaGreatDoor.B1 Go.Proofs.YtliihnkonakacaaGreatDoor.B2 Go.Proofs.YtliihnkonakacaaGreatDoor.T1 Go.Proofs.YtliihnkonakacaaGreatDoor.BT Go.Proofs.YtliihnkonakacaaGreatDoor.P5 Go.Proofs.YtliihnkonakacaaGreatDoor.D1
open Go.ChangeShapes Go.WideShapes Go.ChangeAt Go.RowKit
set_option linter.unusedVariables false

theorem below_two2 (w : World) (o1 o2 : Obj) : Below w.heap.size w ((w.alloc o1).alloc o2) :=
  let h1 := (Below.refl w.heap.size w).alloc (Nat.le_refl _) o1
  h1.alloc h1.size o2

theorem below_three (w : World) (o1 o2 o3 : Obj) : Below w.heap.size w (((w.alloc o1).alloc o2).alloc o3) :=
  let h1 := (Below.refl w.heap.size w).alloc (Nat.le_refl _) o1
  let h2 := h1.alloc h1.size o2
  h2.alloc h2.size o3

set_option maxHeartbeats 1000000 in
theorem toToken_laws (x : Tok) (w : World) : Calls Tryz.prog 67 #[tokV x] w (Ans (tokV x) w) := by
  obtain ⟨k, t, n⟩ := x
  unfold tokV
  dsimp only
  go_enter Tryz.func67, Tryz.ntmps67
  go_wp2
  exact bodyPost_ret (v := .agg #[.int .i64 k, .string ⟨t.toArray⟩, .int .i64 n]) (by simp [results, Tryz.results67, go_sem]) rfl ⟨rfl, below_three _ _ _ _⟩

theorem szToken_laws (x : Tok) (left : Int) (w : World) (h0 : 0 ≤ left) (h1 : left ≤ 1048576) (hl : x.t.length ≤ 9223372036854775807) :
    Calls Tryz.prog 66 #[tokV x, .int .i64 left] w (Ans (.int .i64 (if (x.t.length : Int) ≤ left then left - x.t.length else -1)) w) := by
  obtain ⟨k, t, n⟩ := x
  unfold tokV
  dsimp only at hl ⊢
  obtain ⟨L, eL⟩ : ∃ L, t.length = L := ⟨_, rfl⟩
  have hlen := fun (w' : World) (ty : TypeId) => str_lenN t L eL w' ty
  rw [eL] at hl ⊢
  have hw : IntKind.i64.wrap (left - (L : Int)) = left - (L : Int) := by rw [IntKind.wrap_i64]; omega
  clear eL
  by_cases hle : (L : Int) ≤ left
  · have hn : ¬ left - (L : Int) < 0 := by omega
    rw [if_pos hle]
    go_enter Tryz.func66, Tryz.ntmps66
    go_wp2
    go_ret
    exact ⟨rfl, (Below.refl _ _).alloc (Nat.le_refl _) _⟩
  · have hn : left - (L : Int) < 0 := by omega
    rw [if_neg hle]
    go_enter Tryz.func66, Tryz.ntmps66
    go_wp2
    go_ret
    exact ⟨rfl, (Below.refl _ _).alloc (Nat.le_refl _) _⟩

set_option maxHeartbeats 1000000 in
theorem eqToken_laws (x y : Tok) (w : World) : Calls Tryz.prog 68 #[tokV x, tokV y] w (Ans (.bool (x.same y)) w) := by
  have Hs := Lib.hid (show x.same y = (x.k == y.k && x.t == y.t && x.n == y.n) from rfl)
  obtain ⟨k, t, n⟩ := x
  obtain ⟨k', t', n'⟩ := y
  unfold tokV
  dsimp only at Hs ⊢
  cases h1 : k == k'
  · rw [h1] at Hs
    go_enter Tryz.func68, Tryz.ntmps68
    go_wp2
    go_ret
    exact ⟨by rw [Hs.out]; rfl, below_two2 _ _ _⟩
  · rw [h1] at Hs
    cases h2 : t == t'
    · rw [h2] at Hs
      go_enter Tryz.func68, Tryz.ntmps68
      go_wp2
      go_ret
      exact ⟨by rw [Hs.out]; rfl, below_two2 _ _ _⟩
    · rw [h2] at Hs
      cases h3 : n == n'
      · rw [h3] at Hs
        go_enter Tryz.func68, Tryz.ntmps68
        go_wp2
        go_ret
        exact ⟨by rw [Hs.out]; rfl, below_two2 _ _ _⟩
      · rw [h3] at Hs
        go_enter Tryz.func68, Tryz.ntmps68
        go_wp2
        go_ret
        exact ⟨by rw [Hs.out]; rfl, below_two2 _ _ _⟩

end Go.Proofs.YtliihnkonakacaaGreatDoor.B5

namespace Go.Proofs.YtliihnkonakacaaGreatDoor.B5
open Go.Proofs.YtliihnkonakacaaGreatDoor.P1 Go.Proofs.YtliihnkonakacaaGreatDoor.B1 Go.Proofs.YtliihnkonakacaaGreatDoor.B2 Go.Proofs.YtliihnkonakacaaGreatDoor.T1 Go.Proofs.YtliihnkonakacaaGreatDoor.BT Go.Proofs.YtliihnkonakacaaGreatDoor.P5 Go.Proofs.YtliihnkonakacaaGreatDoor.D1
open Go.ChangeShapes Go.WideShapes Go.ChangeAt Go.RowKit
set_option linter.unusedVariables false

/-- A value that is a slice of these tokens. -/
def TokVal (w : World) (v : Value) (ts : List Tok) : Prop := (v = .slice none 0 0 ∧ ts = []) ∨ ∃ g cap, v = .slice (some ⟨g, 0, none⟩) ts.length cap ∧ TokRow w g cap ts

theorem TokVal.on {w w' : World} {v : Value} {ts : List Tok} (h : TokVal w v ts) (hb : Below w.heap.size w w') : TokVal w' v ts := by
  rcases h with h | ⟨g, cap, hv, hr⟩
  · exact Or.inl h
  · exact Or.inr ⟨g, cap, hv, hr.on hb⟩

theorem Toks.val {w : World} {v : Value} {B : Nat} {ts : List Tok} (h : Toks w v B ts) : TokVal w v ts := by
  rcases h.row with h | ⟨g, cap, hv, _, hr⟩
  · exact Or.inl h
  · exact Or.inr ⟨g, cap, hv, hr⟩

theorem same_refl (x : Tok) : x.same x = true := Tok.same_iff.2 rfl

theorem TokVal.form {w : World} {v : Value} {ts : List Tok} (h : TokVal w v ts) : ∃ a cap, v = .slice a ts.length cap ∧ (ts ≠ [] → ∃ g, a = some ⟨g, 0, none⟩ ∧ TokRow w g cap ts) := by
  rcases h with ⟨rfl, rfl⟩ | ⟨g, cap, rfl, hr⟩
  · exact ⟨none, 0, rfl, fun h => absurd rfl h⟩
  · exact ⟨some ⟨g, 0, none⟩, cap, rfl, fun _ => ⟨g, rfl, hr⟩⟩

theorem Tok_eta (x : Tok) : (⟨x.k, x.t, x.n⟩ : Tok) = x := rfl

theorem held6_drew {w w' : World} {g g' i : Nat} {v0 v1 v2 u0 u1 u2 : Value} (c0 : w'.cell? ⟨g, i * 3, none⟩ = some v0) (c1 : w'.cell? ⟨g, i * 3 + 1, none⟩ = some v1) (c2 : w'.cell? ⟨g, i * 3 + 2, none⟩ = some v2) (d0 : w'.cell? ⟨g', i * 3, none⟩ = some u0) (d1 : w'.cell? ⟨g', i * 3 + 1, none⟩ = some u1) (d2 : w'.cell? ⟨g', i * 3 + 2, none⟩ = some u2) (hl : g < w'.heap.size) (hl' : g' < w'.heap.size) (hB : Below w.heap.size w w') :
    w'.drew.cell? ⟨g, i * 3, none⟩ = some v0 ∧ w'.drew.cell? ⟨g, i * 3 + 1, none⟩ = some v1 ∧ w'.drew.cell? ⟨g, i * 3 + 2, none⟩ = some v2 ∧ w'.drew.cell? ⟨g', i * 3, none⟩ = some u0 ∧ w'.drew.cell? ⟨g', i * 3 + 1, none⟩ = some u1 ∧ w'.drew.cell? ⟨g', i * 3 + 2, none⟩ = some u2 ∧ g < w'.drew.heap.size ∧ g' < w'.drew.heap.size ∧ Below w.heap.size w w'.drew :=
  ⟨c0, c1, c2, d0, d1, d2, hl, hl', ⟨hB.os, hB.tape, hB.output, hB.size, hB.block⟩⟩

theorem held6_call {w w' w2 : World} {g g' i : Nat} {v0 v1 v2 u0 u1 u2 : Value} (h : Below w'.heap.size w' w2) (c0 : w'.cell? ⟨g, i * 3, none⟩ = some v0) (c1 : w'.cell? ⟨g, i * 3 + 1, none⟩ = some v1) (c2 : w'.cell? ⟨g, i * 3 + 2, none⟩ = some v2) (d0 : w'.cell? ⟨g', i * 3, none⟩ = some u0) (d1 : w'.cell? ⟨g', i * 3 + 1, none⟩ = some u1) (d2 : w'.cell? ⟨g', i * 3 + 2, none⟩ = some u2) (hl : g < w'.heap.size) (hl' : g' < w'.heap.size) (hB : Below w.heap.size w w') :
    w2.cell? ⟨g, i * 3, none⟩ = some v0 ∧ w2.cell? ⟨g, i * 3 + 1, none⟩ = some v1 ∧ w2.cell? ⟨g, i * 3 + 2, none⟩ = some v2 ∧ w2.cell? ⟨g', i * 3, none⟩ = some u0 ∧ w2.cell? ⟨g', i * 3 + 1, none⟩ = some u1 ∧ w2.cell? ⟨g', i * 3 + 2, none⟩ = some u2 ∧ g < w2.heap.size ∧ g' < w2.heap.size ∧ Below w.heap.size w w2 :=
  ⟨(h.cell (p := ⟨g, i * 3, none⟩) hl).trans c0, (h.cell (p := ⟨g, i * 3 + 1, none⟩) hl).trans c1, (h.cell (p := ⟨g, i * 3 + 2, none⟩) hl).trans c2, (h.cell (p := ⟨g', i * 3, none⟩) hl').trans d0, (h.cell (p := ⟨g', i * 3 + 1, none⟩) hl').trans d1, (h.cell (p := ⟨g', i * 3 + 2, none⟩) hl').trans d2, Nat.lt_of_lt_of_le hl h.size, Nat.lt_of_lt_of_le hl' h.size, hB.trans (h.mono hB.size)⟩

set_option maxRecDepth 20000 in
set_option maxHeartbeats 2000000 in
theorem eqS_rows (ts : List Tok) (n g cap g' cap' : Nat) (w : World) (hn : ts.length = n) (h : TokRow w g cap ts) (h' : TokRow w g' cap' ts) (hs : n ≤ 2000000) :
    Calls Tryz.prog 30 #[.slice (some ⟨g, 0, none⟩) n cap, .slice (some ⟨g', 0, none⟩) n cap'] w (Ans (.bool true) w) := by
  have HN := Lib.hid hn
  have HR := Lib.hid h
  have HR' := Lib.hid h'
  have hnc : (n : Int) ≤ (cap : Int) := by have := h.room; omega
  have hnc' : (n : Int) ≤ (cap' : Int) := by have := h'.room; omega
  have hs' : (n : Int) ≤ 2000000 := by omega
  clear hn h h'
  go_enter Tryz.func30, Tryz.ntmps30
  go_wp2
  go_loopg [5] n (fun kx s5 wr => ∃ i : Nat, s5 = .int .i64 (i : Int) ∧ kx + i = n ∧ Below w.heap.size w wr)
  case atStart => exact ⟨0, rfl, by omega, Below.refl _ _⟩
  case round =>
    obtain ⟨i, rfl, hk, hB⟩ := hrel
    by_cases hlt : i < n
    · have hlt' : (i : Int) < (n : Int) := by omega
      have i0' : (0 : Int) ≤ (i : Int) := by omega
      obtain ⟨x, hx⟩ : ∃ x, ts[i]? = some x := ⟨_, List.getElem?_eq_getElem (by rw [HN.out]; exact hlt)⟩
      obtain ⟨c0, c1, c2⟩ := (HR.out.on hB).cells i x hx
      obtain ⟨d0, d1, d2⟩ := (HR'.out.on hB).cells i x hx
      have hl := (HR.out.on hB).lt
      have hl' := (HR'.out.on hB).lt
      have HE := Lib.hid (fun w' => eqToken_laws x x w')
      rw [same_refl] at HE
      unfold tokV at HE
      clear hx
      go_wp2_with fail
      go_region_held3 (fun w' => w'.cell? ⟨g, i * 3, none⟩ = some (.int .i64 x.k) ∧ w'.cell? ⟨g, i * 3 + 1, none⟩ = some (.string ⟨x.t.toArray⟩) ∧ w'.cell? ⟨g, i * 3 + 2, none⟩ = some (.int .i64 x.n) ∧ w'.cell? ⟨g', i * 3, none⟩ = some (.int .i64 x.k) ∧ w'.cell? ⟨g', i * 3 + 1, none⟩ = some (.string ⟨x.t.toArray⟩) ∧ w'.cell? ⟨g', i * 3 + 2, none⟩ = some (.int .i64 x.n) ∧ g < w'.heap.size ∧ g' < w'.heap.size ∧ Below w.heap.size w w')
        (first | with_reducible exact held6_drew c0 c1 c2 d0 d1 d2 hl hl' hB | (go_split_ands; with_reducible exact held6_call hb' (by assumption) (by assumption) (by assumption) (by assumption) (by assumption) (by assumption) (by assumption) (by assumption) (by assumption)))
        (first | (go_at_call 68; refine (HE.out _).mono ?_; rintro e w' ⟨rfl, hb'⟩))
      rename_i hS
      obtain ⟨_, _, _, _, _, _, _, _, hB'⟩ := hS
      go_wp2
      go_roundg (n - (i + 1))
      case measure => omega
      case rel => exact ⟨i + 1, by go_num, by omega, hB'⟩
    · have hlt' : ¬ (i : Int) < (n : Int) := by omega
      go_wp2
      go_ret
      exact ⟨rfl, hB⟩

theorem eqS_none (a a' : Option Addr) (cap cap' : Nat) (w : World) : Calls Tryz.prog 30 #[.slice a 0 cap, .slice a' 0 cap'] w (Ans (.bool true) w) := by
  go_enter Tryz.func30, Tryz.ntmps30
  go_wp2
  go_loop [5] (fun s5 => s5 = .int .i64 0) (fun _ => 0)
  case atStart => rfl
  case round =>
    obtain rfl := hrel
    go_wp2
    go_ret
    exact ⟨rfl, Below.refl _ _⟩

theorem eqS_same (ts : List Tok) (v v' : Value) (w : World) (h : TokVal w v ts) (h' : TokVal w v' ts) (hs : ts.length ≤ 2000000) : Calls Tryz.prog 30 #[v, v'] w (Ans (.bool true) w) := by
  obtain ⟨a, cap, rfl, k⟩ := h.form
  obtain ⟨a', cap', rfl, k'⟩ := h'.form
  by_cases he : ts = []
  · subst he
    exact eqS_none a a' cap cap' w
  · obtain ⟨g, rfl, r⟩ := k he
    obtain ⟨g', rfl, r'⟩ := k' he
    exact eqS_rows ts ts.length g cap g' cap' w rfl r r' hs

end Go.Proofs.YtliihnkonakacaaGreatDoor.B5

namespace Go.Proofs.YtliihnkonakacaaGreatDoor.B5
open Go.Proofs.YtliihnkonakacaaGreatDoor.P1 Go.Proofs.YtliihnkonakacaaGreatDoor.B1 Go.Proofs.YtliihnkonakacaaGreatDoor.B2 Go.Proofs.YtliihnkonakacaaGreatDoor.T1 Go.Proofs.YtliihnkonakacaaGreatDoor.BT Go.Proofs.YtliihnkonakacaaGreatDoor.P5 Go.Proofs.YtliihnkonakacaaGreatDoor.D1
open Go.ChangeShapes Go.WideShapes Go.ChangeAt Go.RowKit
set_option linter.unusedVariables false

/-- The text of a mark. -/
def markT (k : Nat) : List UInt8 := 109 :: Lib.decDigits k

set_option maxRecDepth 20000 in
set_option maxHeartbeats 2000000 in
theorem markText_laws (n : Nat) (w : World) (h0 : 1 ≤ n) (h1 : n ≤ 1000000000) :
    Calls Tryz.prog 69 #[.int .i64 (n : Int)] w (Ans (.string ⟨(markT n).toArray⟩) w) := by
  have n0 : ¬ (n : Int) ≤ 0 := by omega
  go_enter Tryz.func69, Tryz.ntmps69
  go_wp2
  go_loopg [0, 3] n (fun kx s0 s3 wr => ∃ (x : Nat) (t : List UInt8), s0 = .int .i64 (x : Int) ∧ s3 = .string ⟨t.toArray⟩ ∧ x ≤ 1000000000 ∧ Hid (shown x t = Lib.decDigits n) ∧ Hid (x = 0 → t ≠ []) ∧ x ≤ kx ∧ Below w.heap.size w wr)
  case atStart => exact ⟨n, [], rfl, rfl, h1, Lib.hid (shown_start _), Lib.hid fun h => by omega, Nat.le_refl _, Below.refl _ _⟩
  case round =>
    obtain ⟨x, t, rfl, rfl, x1, I, J, hk, hB⟩ := hrel
    have hl := shown_long I.out (by omega)
    by_cases hend : x = 0
    · subst hend
      have HE := Lib.hid (show markT n = 109 :: t by unfold markT; rw [← I.out, shown_done (J.out rfl)])
      obtain ⟨s, es⟩ : ∃ s, [109] ++ t = s := ⟨_, rfl⟩
      have hadd := str_addT _ _ _ es (by rw [← es, List.length_append]; simp; omega)
      have HS := Lib.hid (show 109 :: t = s from es)
      clear es hk
      go_wp2
      go_ret
      exact ⟨by rw [HE.out, HS.out]; rfl, hB⟩
    · have hgt : (0 : Int) < (x : Int) := by omega
      obtain ⟨k, ek⟩ : ∃ k, x % 10 = k := ⟨_, rfl⟩
      obtain ⟨y, ey⟩ : ∃ y, x / 10 = y := ⟨_, rfl⟩
      have hm : (x : Int).tmod 10 = (k : Int) := by rw [Int.tmod_eq_emod_of_nonneg (by omega)]; omega
      have hd : (x : Int).tdiv 10 = (y : Int) := by rw [Int.tdiv_eq_ediv_of_nonneg (by omega)]; omega
      have k10 : (k : Int) < 10 := by omega
      obtain ⟨d, ed⟩ : ∃ d, d = UInt8.ofNat (48 + k) := ⟨_, rfl⟩
      have hcv := conv1 wr (48 + (k : Int)) (by omega) (by omega)
      rw [show (48 + (k : Int)).toNat = 48 + k by omega, ← ed] at hcv
      obtain ⟨s, es⟩ : ∃ s, [d] ++ t = s := ⟨_, rfl⟩
      have hadd := str_addT _ _ _ es (by rw [← es, List.length_append]; simp; omega)
      have HI := Lib.hid (show shown y s = Lib.decDigits n by
        rw [← es, ← ey, ed, ← ek]
        exact (shown_step (Or.inl hend)).trans I.out)
      have HJ := Lib.hid (show y = 0 → s ≠ [] from fun _ h => by rw [← es] at h; cases h)
      have hyx : y < x := by omega
      have hy1 : y ≤ 1000000000 := by omega
      clear es ed ek ey I J hend
      go_wp2
      go_roundg y
      case measure => omega
      case rel => exact ⟨y, s, rfl, rfl, hy1, HI, HJ, Nat.le_refl _, hB.alloc hB.size _⟩

end Go.Proofs.YtliihnkonakacaaGreatDoor.B5

namespace Go.Proofs.YtliihnkonakacaaGreatDoor.B5
open Go.Proofs.YtliihnkonakacaaGreatDoor.P1 Go.Proofs.YtliihnkonakacaaGreatDoor.B1 Go.Proofs.YtliihnkonakacaaGreatDoor.B2 Go.Proofs.YtliihnkonakacaaGreatDoor.T1 Go.Proofs.YtliihnkonakacaaGreatDoor.BT Go.Proofs.YtliihnkonakacaaGreatDoor.P5 Go.Proofs.YtliihnkonakacaaGreatDoor.D1
open Go.ChangeShapes Go.WideShapes Go.ChangeAt Go.RowKit
set_option linter.unusedVariables false

/-- A token marked from k on. -/
def markTok (k : Nat) : Tok := ⟨k, markT (k + 1), (k + 2 : Nat)⟩

/-- So many tokens marked from k on. -/
def marked (k n : Nat) : List Tok := (List.range n).map fun i => markTok (k + 3 * i)

theorem marked_len (k n : Nat) : (marked k n).length = n := by simp [marked]

theorem marked_at {k n i : Nat} (h : i < n) : (marked k n)[i]? = some (markTok (k + 3 * i)) := by
  simp [marked, h]

theorem heldt_drew {w w' : World} {g i : Nat} {v : Value} (c : w'.cell? ⟨g, i * 3 + 1, none⟩ = some v) (hl : g < w'.heap.size) (hB : Below w.heap.size w w') :
    w'.drew.cell? ⟨g, i * 3 + 1, none⟩ = some v ∧ g < w'.drew.heap.size ∧ Below w.heap.size w w'.drew :=
  ⟨c, hl, ⟨hB.os, hB.tape, hB.output, hB.size, hB.block⟩⟩

theorem heldt_call {w w' w2 : World} {g i : Nat} {v : Value} (h : Below w'.heap.size w' w2) (c : w'.cell? ⟨g, i * 3 + 1, none⟩ = some v) (hl : g < w'.heap.size) (hB : Below w.heap.size w w') :
    w2.cell? ⟨g, i * 3 + 1, none⟩ = some v ∧ g < w2.heap.size ∧ Below w.heap.size w w2 :=
  ⟨(h.cell (p := ⟨g, i * 3 + 1, none⟩) hl).trans c, Nat.lt_of_lt_of_le hl h.size, hB.trans (h.mono hB.size)⟩

end Go.Proofs.YtliihnkonakacaaGreatDoor.B5

namespace Go.Proofs.YtliihnkonakacaaGreatDoor.B5
open Go.Proofs.YtliihnkonakacaaGreatDoor.P1 Go.Proofs.YtliihnkonakacaaGreatDoor.B1 Go.Proofs.YtliihnkonakacaaGreatDoor.B2 Go.Proofs.YtliihnkonakacaaGreatDoor.T1 Go.Proofs.YtliihnkonakacaaGreatDoor.BT Go.Proofs.YtliihnkonakacaaGreatDoor.P5 Go.Proofs.YtliihnkonakacaaGreatDoor.D1
open Go.ChangeShapes Go.WideShapes Go.ChangeAt Go.RowKit
set_option linter.unusedVariables false

theorem toksC_app (xs ys : List Tok) : toksC (xs ++ ys) = toksC xs ++ toksC ys := by simp [toksC]

theorem toksC_cons (x : Tok) (ys : List Tok) : toksC (x :: ys) = tokC x ++ toksC ys := by simp [toksC]

/-- Three cells written anew: one token put for another. -/
theorem toksC_put {pre post : List Tok} {x y : Tok} {i : Nat} (hi : pre.length = i) :
    (((toksC (pre ++ x :: post)).set (i * 3) (.int .i64 y.k)).set (i * 3 + 1) (.string ⟨y.t.toArray⟩)).set (i * 3 + 2) (.int .i64 y.n) = toksC (pre ++ y :: post) := by
  have hl : (toksC pre).length = i * 3 := by rw [toksC_len, hi]
  rw [toksC_app, toksC_cons, toksC_app, toksC_cons]
  rw [List.set_append_right _ _ (by omega), List.set_append_right _ _ (by omega), List.set_append_right _ _ (by omega), hl]
  rw [show i * 3 - i * 3 = 0 by omega, show i * 3 + 1 - i * 3 = 1 by omega, show i * 3 + 2 - i * 3 = 2 by omega]
  rfl

theorem marked_more (k n : Nat) : marked k (n + 1) = marked k n ++ [markTok (k + 3 * n)] := by
  simp [marked, List.range_succ]

theorem Toks.lblk {w : World} {B g n cap : Nat} {ts : List Tok} (h : Toks w (.slice (some ⟨g, 0, none⟩) n cap) B ts) (hn : ts.length = n) : LBlk w g (toksC ts) := by
  subst hn
  have h' := h
  unfold Toks at h'
  rcases h'.2 with ⟨hv, _⟩ | ⟨g', cap', cur, hv, hb, hg, hnc, hm, hc, ht⟩
  · cases hv
  · simp only [Value.slice.injEq, Option.some.injEq, Addr.mk.injEq, and_true, true_and] at hv
    obtain ⟨rfl, rfl⟩ := hv
    refine ⟨(Array.getElem?_eq_some_iff.1 hg).1, fun i v hv => ⟨?_, Joins.unfrozen_of_block hg i⟩⟩
    rw [World.ownsRow.cellAt h' i (by rw [← toksC_len]; exact (List.getElem?_eq_some_iff.1 hv).1)]
    exact hv

theorem row_of_lblk {w : World} {g cap : Nat} {ts : List Tok} (h : LBlk w g (toksC ts)) (h1 : ts.length ≤ cap) (h2 : cap ≤ 9223372036854775807) : TokRow w g cap ts :=
  ⟨fun i x hx => by
    obtain ⟨e0, e1, e2⟩ := toksC_at hx
    exact ⟨(h.2 _ _ e0).1, (h.2 _ _ e1).1, (h.2 _ _ e2).1⟩, h1, h2, h.1⟩

/-- What markTokenS answers: the slice's own block turned, nothing else. -/
def Marks (k n g : Nat) (w : World) (e : Ending) (w' : World) : Prop := e = .returned (.int .i64 ((k + 3 * n : Nat) : Int)) ∧ LBlk w' g (toksC (marked k n)) ∧ Only g w w'

theorem Only.call {g : Nat} {a w w' : World} (h : Only g a w) (hb : Below w.heap.size w w') (hg : g < w.heap.size) : Only g a w' :=
  ⟨hb.os.trans h.os, hb.tape.trans h.tape, hb.output.trans h.output, Nat.le_trans h.size hb.size, fun k hk hl => (hb.block k (Nat.lt_of_lt_of_le hl h.size)).trans (h.block k hk hl)⟩

set_option maxRecDepth 20000 in
set_option maxHeartbeats 4000000 in
theorem markS_rows (ts : List Tok) (k n g cap : Nat) (w : World) (hn : ts.length = n) (h : LBlk w g (toksC ts)) (hnc : n ≤ cap) (hs : n ≤ 2000000) (hk1 : 1 ≤ k) (hk2 : k ≤ 1000000) :
    Calls Tryz.prog 31 #[.slice (some ⟨g, 0, none⟩) n cap, .int .i64 (k : Int)] w (Marks k n g w) := by
  have HN := Lib.hid hn
  have hnc' : (n : Int) ≤ (cap : Int) := by omega
  have hs' : (n : Int) ≤ 2000000 := by omega
  have hk2' : (k : Int) ≤ 1000000 := by omega
  have H0 := Lib.hid h
  clear h hn
  go_enter Tryz.func31, Tryz.ntmps31
  go_wp2
  go_loopg [1, 5] n (fun kx s1 s5 wr => ∃ (i m : Nat), s1 = .int .i64 (m : Int) ∧ s5 = .int .i64 (i : Int) ∧ kx + i = n ∧ k + 3 * i = m ∧ Hid (LBlk wr g (toksC (marked k i ++ ts.drop i))) ∧ Only g w wr)
  case atStart => exact ⟨0, k, rfl, rfl, by omega, by omega, H0, Only.refl _ _⟩
  case round =>
    obtain ⟨i, m, rfl, rfl, hki, hm, HB, hO⟩ := hrel
    by_cases hlt : i < n
    · have hlt' : (i : Int) < (n : Int) := by omega
      have i0' : (0 : Int) ≤ (i : Int) := by omega
      obtain ⟨x, hx⟩ : ∃ x, ts[i]? = some x := ⟨_, List.getElem?_eq_getElem (by rw [HN.out]; exact hlt)⟩
      have hdr : ts.drop i = x :: ts.drop (i + 1) := by
        obtain ⟨hi, e⟩ := List.getElem?_eq_some_iff.1 hx
        rw [List.drop_eq_getElem_cons hi, e]
      have hB := HB.out
      rw [hdr] at hB
      have hat : (marked k i ++ x :: ts.drop (i + 1))[i]? = some x := by
        rw [List.getElem?_append_right (by rw [marked_len]; exact Nat.le_refl _), marked_len, Nat.sub_self]; rfl
      have hlen : i * 3 + 2 < (toksC (marked k i ++ x :: ts.drop (i + 1))).length := by
        rw [toksC_len, List.length_append, marked_len, List.length_cons]; omega
      obtain ⟨e0, e1, e2⟩ := toksC_at hat
      obtain ⟨m1, em1⟩ : ∃ m1, m + 1 = m1 := ⟨_, rfl⟩
      obtain ⟨m2, em2⟩ : ∃ m2, m + 2 = m2 := ⟨_, rfl⟩
      have hm7 : (m : Int) ≤ 7000000 := by omega
      have hm72 : (m2 : Int) ≤ 7000002 := by omega
      have w1 : IntKind.i64.wrap ((m : Int) + 1) = (m1 : Int) := by rw [IntKind.wrap_i64]; omega
      have w2' : IntKind.i64.wrap ((m1 : Int) + 1) = (m2 : Int) := by rw [IntKind.wrap_i64]; omega
      have HM := Lib.hid (fun w' => markText_laws m1 w' (by omega) (by omega))
      obtain ⟨s, es⟩ : ∃ s, markT m1 = s := ⟨_, rfl⟩
      rw [es] at HM
      have HP := Lib.hid (show (((toksC (marked k i ++ x :: ts.drop (i + 1))).set (i * 3) (.int .i64 (m : Int))).set (i * 3 + 1) (.string ⟨s.toArray⟩)).set (i * 3 + 2) (.int .i64 (m2 : Int)) = toksC (marked k (i + 1) ++ ts.drop (i + 1)) by
        rw [marked_more, hm, List.append_assoc]
        have := toksC_put (pre := marked k i) (post := ts.drop (i + 1)) (x := x) (y := markTok m) (marked_len k i)
        unfold markTok at this ⊢
        rw [em1, em2, es] at this ⊢
        exact this)
      have Hmm := Lib.hid (show m2 + 1 = k + 3 * (i + 1) by omega)
      obtain ⟨a0, z0⟩ := hB.2 _ _ e0
      have hS0 := hB.set (i * 3) (.int .i64 (m : Int)) (by omega)
      have hO0 := hO.setCell (p := ⟨g, i * 3, none⟩) rfl (.int .i64 (m : Int))
      have HS0 := Lib.hid hS0
      have E1 := Lib.hid e1
      have E2 := Lib.hid e2
      have HLn := Lib.hid hlen
      clear hB e0 e1 e2 hdr hat hx es em1 em2 hS0 hlen
      go_wp2_with fail
      refine (HM.out _).mono ?_
      rintro e w3 ⟨rfl, g3⟩
      have hS1 := HS0.out.below g3
      have hO1 := Only.call hO0 g3 HS0.out.1
      obtain ⟨a1, z1⟩ := hS1.2 (i * 3 + 1) _ (by rw [List.getElem?_set_ne (by omega)]; exact E1.out)
      have hS2 := hS1.set (i * 3 + 1) (.string ⟨s.toArray⟩) (by rw [List.length_set]; have := HLn.out; omega)
      have hO2 := hO1.setCell (p := ⟨g, i * 3 + 1, none⟩) rfl (.string ⟨s.toArray⟩)
      obtain ⟨a2, z2⟩ := hS2.2 (i * 3 + 2) _ (by rw [List.getElem?_set_ne (by omega), List.getElem?_set_ne (by omega)]; exact E2.out)
      have hS3 := Lib.hid (hS2.set (i * 3 + 2) (.int .i64 (m2 : Int)) (by rw [List.length_set, List.length_set]; exact HLn.out))
      have hO3 := hO2.setCell (p := ⟨g, i * 3 + 2, none⟩) rfl (.int .i64 (m2 : Int))
      clear hS1 hS2 g3 a0 z0
      go_wp2
      go_roundg (n - (i + 1))
      case measure => omega
      case rel => exact ⟨i + 1, m2 + 1, by go_num, by go_num, by omega, by have := Hmm.out; omega, Lib.hid (by rw [← HP.out]; exact hS3.out), hO3⟩
    · have hlt' : ¬ (i : Int) < (n : Int) := by omega
      obtain rfl : i = n := by omega
      have Hm := Lib.hid (show (k : Int) + 3 * (i : Int) = (m : Int) by omega)
      have HD := Lib.hid (show marked k i ++ ts.drop i = marked k i by rw [List.drop_of_length_le (by rw [HN.out]; exact Nat.le_refl _), List.append_nil])
      go_wp2
      go_ret
      exact ⟨by rw [show (((k + 3 * i : Nat)) : Int) = (m : Int) by have := Hm.out; omega]; rfl, by have := HB.out; rw [HD.out] at this; exact this, hO⟩

end Go.Proofs.YtliihnkonakacaaGreatDoor.B5

namespace Go.Proofs.YtliihnkonakacaaGreatDoor.B5
open Go.Proofs.YtliihnkonakacaaGreatDoor.P1 Go.Proofs.YtliihnkonakacaaGreatDoor.B1 Go.Proofs.YtliihnkonakacaaGreatDoor.B2 Go.Proofs.YtliihnkonakacaaGreatDoor.T1 Go.Proofs.YtliihnkonakacaaGreatDoor.BT Go.Proofs.YtliihnkonakacaaGreatDoor.P5 Go.Proofs.YtliihnkonakacaaGreatDoor.D1
open Go.ChangeShapes Go.WideShapes Go.ChangeAt Go.RowKit
set_option linter.unusedVariables false

theorem markS_none (a : Option Addr) (cap k : Nat) (w : World) : Calls Tryz.prog 31 #[.slice a 0 cap, .int .i64 (k : Int)] w (Ans (.int .i64 (k : Int)) w) := by
  go_enter Tryz.func31, Tryz.ntmps31
  go_wp2
  go_loop [1, 5] (fun s1 s5 => s1 = .int .i64 (k : Int) ∧ s5 = .int .i64 0) (fun _ _ => 0)
  case atStart => exact ⟨rfl, rfl⟩
  case round =>
    obtain ⟨rfl, rfl⟩ := hrel
    go_wp2
    go_ret
    exact ⟨rfl, Below.refl _ _⟩

theorem Only.belowAt {g B : Nat} {w w' : World} (h : Only g w w') (hg : B ≤ g) (hB : B ≤ w.heap.size) : Below B w w' := h.below hg hB

/-- A slice of the call's own, marked: it holds the marks, and what lies below it stands. -/
theorem mark_val (ts : List Tok) (v : Value) (B k n : Nat) (w : World) (hn : ts.length = n) (h : Toks w v B ts) (hB : B ≤ w.heap.size) (hs : n ≤ 2000000) (hk1 : 1 ≤ k) (hk2 : k ≤ 1000000) :
    Calls Tryz.prog 31 #[v, .int .i64 (k : Int)] w fun e w' => e = .returned (.int .i64 ((k + 3 * n : Nat) : Int)) ∧ TokVal w' v (marked k n) ∧ Below B w w' := by
  subst hn
  rcases h.row with ⟨rfl, rfl⟩ | ⟨g, cap, rfl, hg, hr⟩
  · refine (markS_none none 0 k w).mono ?_
    rintro e w' ⟨rfl, hb⟩
    exact ⟨rfl, Or.inl ⟨rfl, rfl⟩, hb.mono hB⟩
  · refine (markS_rows ts k ts.length g cap w rfl (h.lblk rfl) hr.room hs hk1 hk2).mono ?_
    rintro e w' ⟨rfl, hl, ho⟩
    exact ⟨rfl, Or.inr ⟨g, cap, by rw [marked_len], row_of_lblk hl (by rw [marked_len]; exact hr.room) hr.top⟩, ho.below hg hB⟩

theorem TokVal.below {B : Nat} {w w' : World} {v : Value} {ts : List Tok} (h : TokVal w v ts) (hb : Below B w w') (hv : ∀ g, v.ownBlock = some g → g < B) : TokVal w' v ts := by
  rcases h with h | ⟨g, cap, rfl, hr⟩
  · exact Or.inl h
  · have hg := hv g rfl
    exact Or.inr ⟨g, cap, rfl, ⟨fun i x hx => by
      obtain ⟨c0, c1, c2⟩ := hr.cells i x hx
      exact ⟨(hb.cell (p := ⟨g, i * 3, none⟩) hg).trans c0, (hb.cell (p := ⟨g, i * 3 + 1, none⟩) hg).trans c1, (hb.cell (p := ⟨g, i * 3 + 2, none⟩) hg).trans c2⟩, hr.room, hr.top, Nat.lt_of_lt_of_le hr.lt hb.size⟩⟩

theorem Toks.under {w : World} {v : Value} {B : Nat} {ts : List Tok} (h : Toks w v B ts) : ∀ g, v.ownBlock = some g → g < w.heap.size := by
  intro g hg
  rcases h.row with ⟨rfl, _⟩ | ⟨g', cap, rfl, _, hr⟩
  · cases hg
  · cases hg; exact hr.lt

end Go.Proofs.YtliihnkonakacaaGreatDoor.B5

namespace Go.Proofs.YtliihnkonakacaaGreatDoor.B5
open Go.Proofs.YtliihnkonakacaaGreatDoor.P1 Go.Proofs.YtliihnkonakacaaGreatDoor.B1 Go.Proofs.YtliihnkonakacaaGreatDoor.B2 Go.Proofs.YtliihnkonakacaaGreatDoor.T1 Go.Proofs.YtliihnkonakacaaGreatDoor.BT Go.Proofs.YtliihnkonakacaaGreatDoor.P5 Go.Proofs.YtliihnkonakacaaGreatDoor.D1
open Go.ChangeShapes Go.WideShapes Go.ChangeAt Go.RowKit
set_option linter.unusedVariables false

/-- An argument that is a slice of these tokens, wherever it lies. -/
structure ArgRow (w : World) (b off : Nat) (ts : List Tok) : Prop where
  cells : ∀ i x, ts[i]? = some x → w.cell? ⟨b, off + i * 3, none⟩ = some (.int .i64 x.k) ∧ w.cell? ⟨b, off + i * 3 + 1, none⟩ = some (.string ⟨x.t.toArray⟩) ∧ w.cell? ⟨b, off + i * 3 + 2, none⟩ = some (.int .i64 x.n)
  lt : b < w.heap.size
  fit : ∀ x ∈ ts, -9223372036854775808 ≤ x.n ∧ x.n ≤ 9223372036854775807 ∧ x.t.length ≤ 9223372036854775807

theorem ArgRow.on {w w' : World} {b off : Nat} {ts : List Tok} (h : ArgRow w b off ts) (hb : Below w.heap.size w w') : ArgRow w' b off ts :=
  ⟨fun i x hx => by
    obtain ⟨c0, c1, c2⟩ := h.cells i x hx
    exact ⟨(hb.cell (p := ⟨b, off + i * 3, none⟩) h.lt).trans c0, (hb.cell (p := ⟨b, off + i * 3 + 1, none⟩) h.lt).trans c1, (hb.cell (p := ⟨b, off + i * 3 + 2, none⟩) h.lt).trans c2⟩, Nat.lt_of_lt_of_le h.lt hb.size, h.fit⟩

/-- The bytes of the texts together. -/
def sumT (ts : List Tok) : Nat := (ts.map fun x => x.t.length).sum

theorem sumT_take {ts : List Tok} {i : Nat} {x : Tok} (h : ts[i]? = some x) : sumT (ts.take (i + 1)) = sumT (ts.take i) + x.t.length := by
  unfold sumT
  rw [List.take_add_one, h]
  simp

/-- What szTokenS answers: below 0, or the list is small. -/
def Small (ts : List Tok) (w : World) (e : Ending) (w' : World) : Prop := ∃ r : Int, e = .returned (.int .i64 r) ∧ -1 ≤ r ∧ r ≤ 1048576 ∧ (0 ≤ r → ts.length + sumT ts ≤ 1048576) ∧ Below w.heap.size w w'

set_option maxRecDepth 20000 in
set_option maxHeartbeats 4000000 in
theorem szS_rows (ts : List Tok) (n b off cap : Nat) (w : World) (hn : ts.length = n) (h : ArgRow w b off ts) (hc : n ≤ cap) (hcap : cap ≤ 9223372036854775807) :
    Calls Tryz.prog 28 #[.slice (some ⟨b, off, none⟩) n cap, .int .i64 1048576] w (Small ts w) := by
  have HN := Lib.hid hn
  have HR := Lib.hid h
  have hn63 : (n : Int) ≤ 9223372036854775807 := by omega
  have hnc : (n : Int) ≤ (cap : Int) := by omega
  have hw0 : IntKind.i64.wrap (1048576 - (n : Int)) = 1048576 - (n : Int) := by rw [IntKind.wrap_i64]; omega
  clear hn h hcap
  by_cases hbig : 1048576 < n
  · have hneg : (1048576 : Int) - (n : Int) < 0 := by omega
    go_enter Tryz.func28, Tryz.ntmps28
    go_wp2
    go_ret
    exact ⟨-1, rfl, by decide, by decide, fun h => absurd h (by decide), Below.refl _ _⟩
  · obtain ⟨L0, eL0⟩ : ∃ L0 : Nat, 1048576 - n = L0 := ⟨_, rfl⟩
    have hw0' : IntKind.i64.wrap (1048576 - (n : Int)) = (L0 : Int) := by rw [hw0]; omega
    have hL0 : ¬ (L0 : Int) < 0 := by omega
    have HL0 := Lib.hid (show L0 + n = 1048576 by omega)
    clear hw0 eL0
    go_enter Tryz.func28, Tryz.ntmps28
    go_wp2
    go_loopg [1, 5] n (fun kx s1 s5 wr => ∃ (i z : Nat), s1 = .int .i64 (z : Int) ∧ s5 = .int .i64 (i : Int) ∧ kx + i = n ∧ z ≤ 1048576 ∧ Hid (z + n + sumT (ts.take i) = 1048576) ∧ Below w.heap.size w wr)
    case atStart => exact ⟨0, L0, rfl, rfl, by omega, by have := HL0.out; omega, Lib.hid (by have := HL0.out; simp [sumT]; omega), Below.refl _ _⟩
    case round =>
      obtain ⟨i, z, rfl, rfl, hki, hz, I, hB⟩ := hrel
      by_cases hlt : i < n
      · have hlt' : (i : Int) < (n : Int) := by omega
        have i0' : (0 : Int) ≤ (i : Int) := by omega
        obtain ⟨x, hx⟩ : ∃ x, ts[i]? = some x := ⟨_, List.getElem?_eq_getElem (by rw [HN.out]; exact hlt)⟩
        obtain ⟨c0, c1, c2⟩ := (HR.out.on hB).cells i x hx
        have hfit := (HR.out.fit x (List.mem_of_getElem? hx)).2.2
        have HZ := Lib.hid (fun w' => szToken_laws x (z : Int) w' (by omega) (by omega) hfit)
        have HT := Lib.hid (sumT_take hx)
        unfold tokV at HZ
        obtain ⟨l, el⟩ : ∃ l, x.t.length = l := ⟨_, rfl⟩
        rw [el] at HZ HT
        clear hx hfit el
        by_cases hle : (l : Int) ≤ (z : Int)
        · rw [if_pos hle] at HZ
          obtain ⟨y, ey⟩ : ∃ y : Nat, z - l = y := ⟨_, rfl⟩
          rw [show (z : Int) - (l : Int) = (y : Int) by omega] at HZ
          have hy0 : ¬ (y : Int) < 0 := by omega
          have HY := Lib.hid (show y + n + sumT (ts.take (i + 1)) = 1048576 by have := I.out; have := HT.out; omega)
          have hy1 : y ≤ 1048576 := by omega
          clear ey
          go_wp2_with (go_at_call 66; refine (HZ.out _).mono ?_; rintro e w2 ⟨rfl, g2⟩)
          go_roundg (n - (i + 1))
          case measure => omega
          case rel => exact ⟨i + 1, y, rfl, by go_num, by omega, hy1, HY, hB.trans (g2.mono hB.size)⟩
        · rw [if_neg hle] at HZ
          go_wp2_with (go_at_call 66; refine (HZ.out _).mono ?_; rintro e w2 ⟨rfl, g2⟩)
          go_ret
          exact ⟨-1, rfl, by decide, by decide, fun h => absurd h (by decide), hB.trans (g2.mono hB.size)⟩
      · have hlt' : ¬ (i : Int) < (n : Int) := by omega
        have HE := Lib.hid (show z + n + sumT ts = 1048576 by have := I.out; rw [List.take_of_length_le (by rw [HN.out]; omega)] at this; exact this)
        go_wp2
        go_ret
        exact ⟨(z : Int), rfl, by omega, by omega, fun _ => by rw [HN.out]; have := HE.out; omega, hB⟩

end Go.Proofs.YtliihnkonakacaaGreatDoor.B5
