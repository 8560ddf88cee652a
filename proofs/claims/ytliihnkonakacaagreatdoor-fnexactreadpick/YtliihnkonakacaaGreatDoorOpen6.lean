/- How an argument of type []Token is opened; the laws' own helper toTokenS. -/
import Derived.Test.YtliihnkonakacaaGreatDoorRows
import Derived.Test.YtliihnkonakacaaGreatDoorBase5n
import Derived.Lib.SmallJoins
import Derived.OpenShut
namespace Go.Proofs.YtliihnkonakacaaGreatDoor.O6
open Go.Proofs.YtliihnkonakacaaGreatDoor.P1 Go.Proofs.YtliihnkonakacaaGreatDoor.B1 Go.Proofs.YtliihnkonakacaaGreatDoor.B2 Go.Proofs.YtliihnkonakacaaGreatDoor.T1 Go.Proofs.YtliihnkonakacaaGreatDoor.BT Go.Proofs.YtliihnkonakacaaGreatDoor.P5 Go.Proofs.YtliihnkonakacaaGreatDoor.B5 Go.Proofs.YtliihnkonakacaaGreatDoor.D1
open Go.Joins Go.ChangeShapes Go.WideShapes Go.ChangeAt Go.RowKit Go.Deep
set_option linter.unusedVariables false

theorem list_of {α : Type} {P : Nat → α → Prop} : ∀ (n : Nat), (∀ i, i < n → ∃ x, P i x) → ∃ xs : List α, xs.length = n ∧ ∀ i x, xs[i]? = some x → P i x
  | 0, _ => ⟨[], rfl, fun i x h => by simp at h⟩
  | n + 1, h => by
    obtain ⟨xs, hl, hp⟩ := list_of n (fun i hi => h i (by omega))
    obtain ⟨x, hx⟩ := h n (by omega)
    refine ⟨xs ++ [x], by simp [hl], fun i y hy => ?_⟩
    rcases Nat.lt_or_ge i n with hi | hi
    · rw [List.getElem?_append_left (by omega)] at hy
      exact hp i y hy
    · have hlt := (List.getElem?_eq_some_iff.1 hy).1
      simp [hl] at hlt
      obtain rfl : i = n := by omega
      rw [List.getElem?_append_right (by omega), hl, Nat.sub_self] at hy
      obtain rfl := Option.some.inj hy
      exact hx

/-- An argument that is a slice of these tokens. -/
def ArgVal (w : World) (v : Value) (ts : List Tok) : Prop :=
  (ts = [] ∧ ∃ a cap, v = .slice a 0 cap) ∨ ∃ b off cap, v = .slice (some ⟨b, off, none⟩) ts.length cap ∧ ts.length ≤ cap ∧ cap ≤ 9223372036854775807 ∧ ArgRow w b off ts

theorem three_list {cs : List Value} (h : cs.length = 3) : ∃ c0 c1 c2, cs = [c0, c1, c2] := by
  match cs, h with
  | [c0, c1, c2], _ => exact ⟨c0, c1, c2, rfl⟩

set_option maxRecDepth 100000 in
theorem open_tokens {H : Type} {enc : TypeId × Value → H} {W : World} {base b0 : Nat} {spare : Nat → Bool} {held : Bool} {v : Value} {d : DataW H} {p : List MemPlace}
    (hv : Value.okWide Tryz.prog W .any b0 42 v) (h : DataW.Trod enc Tryz.prog W base spare held 42 v d p) : ∃ ts : List Tok, ArgVal W v ts := by
  have k1 : Tryz.prog.cellsOf 2 = 1 := by kernel_rfl
  have k9 : Tryz.prog.cellsOf 9 = 1 := by kernel_rfl
  have k3 : Tryz.prog.cellsOf 82 = 3 := by kernel_rfl
  obtain ⟨a0, len0, cap0, rfl⟩ := okWide_slice Tryz.underlying42 hv
  obtain ⟨fuel, hf⟩ := h
  rcases open_slice Tryz.underlying42 hf with ⟨hcs, _⟩ | ⟨a, len, cap, m, n, D, Pl, hcs, hb, hlc, hm, hmm, _, hall⟩
  · simp [Value.cells] at hcs
    obtain ⟨rfl, rfl, rfl⟩ := hcs
    exact ⟨[], Or.inl ⟨rfl, _, _, rfl⟩⟩
  · simp [Value.cells] at hcs
    obtain ⟨rfl, rfl, rfl⟩ := hcs
    have hlm : len0 ≤ m := by rw [hmm]; split <;> omega
    by_cases hz : len0 = 0
    · subst hz
      exact ⟨[], Or.inl ⟨rfl, _, _, rfl⟩⟩
    obtain ⟨b, off, spot⟩ := a
    have hsp : spot = none := by
      obtain ⟨cs', h1, _⟩ := hall 0 (by omega)
      obtain ⟨_, hl, hc⟩ := World.cells?_some h1
      rw [k3] at hl hc
      have h0 := hc 0 (by omega)
      rw [List.getElem?_eq_getElem (by omega)] at h0
      simpa [Addr.add] using World.cell?_spot h0
    subst hsp
    have hex : ∀ i, i < len0 → ∃ x : Tok, (W.cell? ⟨b, off + i * 3, none⟩ = some (.int .i64 x.k) ∧ W.cell? ⟨b, off + i * 3 + 1, none⟩ = some (.string ⟨x.t.toArray⟩) ∧ W.cell? ⟨b, off + i * 3 + 2, none⟩ = some (.int .i64 x.n)) ∧ -9223372036854775808 ≤ x.n ∧ x.n ≤ 9223372036854775807 ∧ x.t.length ≤ 9223372036854775807 := fun i hi => by
      obtain ⟨cs', h1, h2⟩ := hall i (by omega)
      obtain ⟨_, hl, hc⟩ := World.cells?_some h1
      rw [k3] at hl hc
      obtain ⟨c0, c1, c2, rfl⟩ := three_list hl
      obtain ⟨u0, u1, u2, n', _, _, t0, t1, t2⟩ := trod_struct3 Tryz.underlying82 h2
      simp only [k1, k9, List.drop_zero, List.drop_succ_cons, List.take_succ_cons, List.take_zero] at t0 t1 t2
      obtain ⟨z0, e0, _, _⟩ := DataW.trod_int Tryz.underlying2 t0
      obtain ⟨s, e1, _, hs⟩ := DataW.trod_string Tryz.underlying9 t1
      obtain ⟨z2, e2, _, w2⟩ := DataW.trod_int Tryz.underlying2 t2
      simp only [List.cons.injEq, and_true] at e0 e1 e2
      subst e0 e1 e2
      have hr := bounds_i64 w2
      have q0 := hc 0 (by omega)
      have q1 := hc 1 (by omega)
      have q2 := hc 2 (by omega)
      rw [add_plain, add_plain] at q0 q1 q2
      have hsl : s.data.toList.length = s.size := by cases s; simp [ByteArray.size]
      refine ⟨⟨z0, s.data.toList, z2⟩, ⟨q0, ?_, q2⟩, hr.1, hr.2, ?_⟩
      · have : (⟨s.data.toList.toArray⟩ : ByteArray) = s := by cases s; simp
        dsimp only
        rw [this]; exact q1
      · dsimp only
        rw [hsl]
        unfold maxLen at hs
        omega
    obtain ⟨ts, hl, hp⟩ := list_of len0 hex
    have hbl : b < W.heap.size := by
      obtain ⟨cs', h1, _⟩ := hall 0 (by omega)
      exact World.cells?_block h1 (by rw [k3]; omega)
    refine ⟨ts, Or.inr ⟨b, off, cap0, by rw [hl], by omega, by unfold maxLen at hm; omega, ⟨fun i x hx => (hp i x hx).1, hbl, fun x hx => ?_⟩⟩⟩
    obtain ⟨j, hj, e⟩ := List.getElem_of_mem hx
    exact (hp j x (by rw [List.getElem?_eq_getElem hj, e])).2

def zTok : Tok := ⟨0, [], 0⟩

theorem zeros_at : ∀ (n j : Nat), j < n * 3 → (toksC (List.replicate n zTok))[j]? = (#[Value.int .i64 0, .string ⟨#[]⟩, .int .i64 0])[j % 3]?
  | 0, j, h => by omega
  | n + 1, j, h => by
    rw [List.replicate_succ, toksC_cons]
    by_cases hj : j < 3
    · rw [List.getElem?_append_left (by simpa [tokC] using hj), Nat.mod_eq_of_lt hj]
      have : j = 0 ∨ j = 1 ∨ j = 2 := by omega
      rcases this with rfl | rfl | rfl <;> rfl
    · rw [List.getElem?_append_right (by simp [tokC]; omega), show (tokC zTok).length = 3 from rfl, zeros_at n (j - 3) (by omega)]
      rw [show j % 3 = (j - 3) % 3 by omega]

theorem made_toks (n : Nat) (w : World) : LBlk (w.alloc (.cells (madeCells #[.int .i64 0, .string ⟨#[]⟩, .int .i64 0] (n * 3)) 73)) w.heap.size (toksC (List.replicate n zTok)) := by
  refine ⟨by simp, fun i v hv => ⟨?_, by simp⟩⟩
  have hi : i < n * 3 := by
    have := (List.getElem?_eq_some_iff.1 hv).1
    rw [toksC_len, List.length_replicate] at this
    exact this
  rw [World.cell?_alloc_at _ _ _ _ rfl]
  show (madeCells #[.int .i64 0, .string ⟨#[]⟩, .int .i64 0] (n * 3))[i]? = _
  rw [zeros_at n i hi] at hv
  rw [← hv]
  unfold madeCells
  rw [Array.getElem?_map, Array.getElem?_range, if_pos hi]
  have : i % 3 < 3 := Nat.mod_lt _ (by omega)
  simp only [Option.map_some]
  rw [show (#[Value.int .i64 0, .string ⟨#[]⟩, .int .i64 0] : Array Value).size = 3 from rfl, Array.getElem?_eq_getElem (by simpa using this), getElem!_pos _ _ (by simpa using this)]

theorem make_toks (N : Nat) (hN : N ≤ 2000000) (w : World) :
    (Instr.makeSlice 27 (.int .i64 (N : Int)) (.int .i64 (N : Int))).run Tryz.prog w = .ok (.slice (some ⟨w.heap.size, 0, none⟩) N N) (w.alloc (.cells (madeCells #[.int .i64 0, .string ⟨#[]⟩, .int .i64 0] (N * 3)) 73)) := by
  obtain ⟨i0, hi, hz0, hz1, hz2⟩ := info_parts infoTok
  have := run_make (P := Tryz.prog) w 27 73 i0 (.agg #[.int .i64 0, .string ⟨#[]⟩, .int .i64 0]) Tryz.underlying27 hi hz0 .i64 .i64 (N : Int) (N : Int) (by omega) (by omega) (by rw [hz2]; omega) (by omega)
  rw [hz1] at this
  simpa [Value.cells] using this

/-- A list of tokens copied. -/
def Copies (ts : List Tok) (w : World) (e : Ending) (w' : World) : Prop := ∃ v, e = .returned v ∧ TokVal w' v ts ∧ (∀ g, v.ownBlock = some g → w.heap.size ≤ g) ∧ Below w.heap.size w w'

/-- .. into a block of its own, which may be written. -/
def CopiesL (ts : List Tok) (w : World) (e : Ending) (w' : World) : Prop := ∃ g cap, e = .returned (.slice (some ⟨g, 0, none⟩) ts.length cap) ∧ LBlk w' g (toksC ts) ∧ ts.length ≤ cap ∧ cap ≤ 9223372036854775807 ∧ w.heap.size ≤ g ∧ Below w.heap.size w w'

set_option maxRecDepth 20000 in
set_option maxHeartbeats 4000000 in
theorem toTokS_rowsL (ts : List Tok) (n b off cap : Nat) (w : World) (hn : ts.length = n) (h : ArgRow w b off ts) (hc : n ≤ cap) (hcap : cap ≤ 9223372036854775807) (hs : n ≤ 2000000) :
    Calls Tryz.prog 29 #[.slice (some ⟨b, off, none⟩) n cap] w (CopiesL ts w) := by
  have HN := Lib.hid hn
  have HR := Lib.hid h
  have hnc : (n : Int) ≤ (cap : Int) := by omega
  have hs' : (n : Int) ≤ 2000000 := by omega
  have hcap' : (cap : Int) ≤ 9223372036854775807 := by omega
  have hmk := make_toks n hs w
  have hm0 := made_toks n w
  have hB0 : Below w.heap.size w (w.alloc (.cells (madeCells #[.int .i64 0, .string ⟨#[]⟩, .int .i64 0] (n * 3)) 73)) := (Below.refl _ _).alloc (Nat.le_refl _) _
  clear hn h hcap
  go_enter Tryz.func29, Tryz.ntmps29
  go_wp2
  generalize w.alloc (.cells (madeCells #[.int .i64 0, .string ⟨#[]⟩, .int .i64 0] (n * 3)) 73) = W at *
  generalize hgz : w.heap.size = g at hm0 ⊢
  have HG := Lib.hid hgz
  clear hgz
  go_loopg [4] n (fun kx s4 wr => ∃ i : Nat, s4 = .int .i64 (i : Int) ∧ kx + i = n ∧ Hid (LBlk wr g (toksC (ts.take i ++ List.replicate (n - i) zTok))) ∧ Below w.heap.size w wr)
  case atStart => exact ⟨0, rfl, by omega, Lib.hid (by simpa using hm0), hB0⟩
  case round =>
    obtain ⟨i, rfl, hki, HB, hB⟩ := hrel
    clear hm0 hB0 hmk
    by_cases hlt : i < n
    · have hlt' : (i : Int) < (n : Int) := by omega
      have i0' : (0 : Int) ≤ (i : Int) := by omega
      obtain ⟨x, hx⟩ : ∃ x, ts[i]? = some x := ⟨_, List.getElem?_eq_getElem (by rw [HN.out]; exact hlt)⟩
      obtain ⟨c0, c1, c2⟩ := (HR.out.on hB).cells i x hx
      have HT := Lib.hid (fun w' => toToken_laws x w')
      have hl1 : (ts.take i).length = i := by rw [List.length_take, HN.out]; omega
      have hrep : List.replicate (n - i) zTok = zTok :: List.replicate (n - (i + 1)) zTok := by
        rw [show n - i = (n - (i + 1)) + 1 by omega]; rfl
      have hb := HB.out
      rw [hrep] at hb
      have hat : (ts.take i ++ zTok :: List.replicate (n - (i + 1)) zTok)[i]? = some zTok := by
        rw [List.getElem?_append_right (by omega), hl1, Nat.sub_self]; rfl
      have hlen : i * 3 + 2 < (toksC (ts.take i ++ zTok :: List.replicate (n - (i + 1)) zTok)).length := by
        rw [toksC_len, List.length_append, hl1, List.length_cons]; omega
      obtain ⟨e0, e1, e2⟩ := toksC_at hat
      have HP := Lib.hid (toksC_put (pre := ts.take i) (post := List.replicate (n - (i + 1)) zTok) (x := zTok) (y := x) hl1)
      have HQ := Lib.hid (show ts.take (i + 1) = ts.take i ++ [x] by rw [List.take_add_one, hx]; rfl)
      have HBB := Lib.hid hb
      have E0 := Lib.hid e0
      have E1 := Lib.hid e1
      have E2 := Lib.hid e2
      have HLn := Lib.hid hlen
      obtain ⟨k, t, n'⟩ := x
      unfold tokV at HT
      dsimp only at HT c0 c1 c2 HP
      clear hx hl1 hrep hb hat hlen e0 e1 e2
      go_wp2_with fail
      refine (HT.out _).mono ?_
      rintro e w3 ⟨rfl, g3⟩
      have hS0 := HBB.out.below g3
      have hB3 := hB.trans (g3.mono hB.size)
      obtain ⟨_, z0⟩ := hS0.2 _ _ E0.out
      obtain ⟨_, z1⟩ := hS0.2 _ _ E1.out
      obtain ⟨_, z2⟩ := hS0.2 _ _ E2.out
      have hS3 := Lib.hid (((hS0.set (i * 3) (.int .i64 k) (by have := HLn.out; omega)).set (i * 3 + 1) (.string ⟨t.toArray⟩) (by rw [List.length_set]; have := HLn.out; omega)).set (i * 3 + 2) (.int .i64 n') (by rw [List.length_set, List.length_set]; exact HLn.out))
      have hB4 := ((hB3.setCell (p := ⟨g, i * 3, none⟩) (Nat.le_of_eq HG.out) (.int .i64 k)).setCell (p := ⟨g, i * 3 + 1, none⟩) (Nat.le_of_eq HG.out) (.string ⟨t.toArray⟩)).setCell (p := ⟨g, i * 3 + 2, none⟩) (Nat.le_of_eq HG.out) (.int .i64 n')
      clear hS0
      go_wp2_with fail
      go_roundg (n - (i + 1))
      case measure => omega
      case rel => exact ⟨i + 1, by go_num, by omega, Lib.hid (by rw [HQ.out, List.append_assoc]; rw [HP.out] at hS3; exact hS3.out), hB4⟩
    · have hlt' : ¬ (i : Int) < (n : Int) := by omega
      obtain rfl : i = n := by omega
      have HD := Lib.hid (show LBlk wr g (toksC ts) by
        have := HB.out
        rw [List.take_of_length_le (by rw [HN.out]; exact Nat.le_refl _), Nat.sub_self, List.replicate_zero, List.append_nil] at this
        exact this)
      go_wp2
      go_ret
      exact ⟨g, i, by rw [HN.out]; rfl, HD.out, by rw [HN.out]; exact Nat.le_refl _, by omega, Nat.le_of_eq HG.out, hB⟩

theorem toTokS_rows (ts : List Tok) (n b off cap : Nat) (w : World) (hn : ts.length = n) (h : ArgRow w b off ts) (hc : n ≤ cap) (hcap : cap ≤ 9223372036854775807) (hs : n ≤ 2000000) :
    Calls Tryz.prog 29 #[.slice (some ⟨b, off, none⟩) n cap] w (Copies ts w) := by
  refine (toTokS_rowsL ts n b off cap w hn h hc hcap hs).mono ?_
  rintro e w' ⟨g, c, rfl, hl, h1, h2, h3, hb⟩
  exact ⟨_, rfl, Or.inr ⟨g, c, rfl, row_of_lblk hl h1 h2⟩, fun g' hg' => by
    have : g = g' := Option.some.inj hg'
    omega, hb⟩

end Go.Proofs.YtliihnkonakacaaGreatDoor.O6
