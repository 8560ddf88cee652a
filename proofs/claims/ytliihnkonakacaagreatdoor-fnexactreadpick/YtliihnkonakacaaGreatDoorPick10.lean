/- Chapter 10 of the program: piecesAt, withMark. -/
import Derived.Test.YtliihnkonakacaaGreatDoorRead10
import Derived.Test.YtliihnkonakacaaGreatDoorChunk10
import Derived.Test.YtliihnkonakacaaGreatDoorShow10b
namespace Go.Proofs.YtliihnkonakacaaGreatDoor.B10
open Go.Proofs.YtliihnkonakacaaGreatDoor.P1 Go.Proofs.YtliihnkonakacaaGreatDoor.B1 Go.Proofs.YtliihnkonakacaaGreatDoor.B2 Go.Proofs.YtliihnkonakacaaGreatDoor.T1 Go.Proofs.YtliihnkonakacaaGreatDoor.BT Go.Proofs.YtliihnkonakacaaGreatDoor.P5 Go.Proofs.YtliihnkonakacaaGreatDoor.P6 Go.Proofs.YtliihnkonakacaaGreatDoor.P9 Go.Proofs.YtliihnkonakacaaGreatDoor.B5 Go.Proofs.YtliihnkonakacaaGreatDoor.B6 Go.Proofs.YtliihnkonakacaaGreatDoor.B9 Go.Proofs.YtliihnkonakacaaGreatDoor.D1 Go.Proofs.YtliihnkonakacaaGreatDoor.W8 Go.Proofs.YtliihnkonakacaaGreatDoor.RC Go.Proofs.YtliihnkonakacaaGreatDoor.RI Go.Proofs.YtliihnkonakacaaGreatDoor.P10
open Go.ChangeShapes Go.WideShapes Go.ChangeAt Go.RowKit
set_option linter.unusedVariables false

theorem gr_below {w w' : World} (h : Below w.heap.size w w') (r : Option Nat) : w.grownBy w' r := ⟨h.os, h.tape, h.output, h.size, fun k hk _ => h.block k hk⟩

theorem gr_trans {w W W' : World} {r r' : Option Nat} (h : w.grownBy W r) (h' : W.grownBy W' r') (hr : r' = r ∨ ∀ k, r' = some k → w.heap.size ≤ k) : w.grownBy W' r :=
  ⟨h'.os.trans h.os, h'.tape.trans h.tape, h'.output.trans h.output, Nat.le_trans h.size h'.size, fun k hk hn => by
    refine (h'.block k (Nat.lt_of_lt_of_le hk h.size) fun e => ?_).trans (h.block k hk hn)
    rcases hr with rfl | hr
    · exact hn e
    · have := hr k e.symm
      omega⟩

theorem gr_only {w w' : World} {b : Nat} (h : Only b w w') : w.grownBy w' (some b) := ⟨h.os, h.tape, h.output, h.size, fun k hk hn => h.block k (fun e => hn (by rw [e])) hk⟩

theorem gr_drop {w w' : World} {b : Nat} {r : Option Nat} (h : w.grownBy w' r) : True := trivial

/-- A row of the call's own lies where a block that is new since grows. -/
theorem split_step {t : Tok} {ts x y : List Tok} (h : cutK t ts = some (x, y)) : splitT t ts = x :: splitT t y := by
  rw [split_cut, h]

theorem split_last {t : Tok} {ts : List Tok} (h : cutK t ts = none) : splitT t ts = [ts] := by
  rw [split_cut, h]

theorem infoTokS : (Tryz.prog.info? 27).map (fun i => (i.zero, i.size, i.bytes)) = some (some (.slice none 0 0), 1, 24) := by kernel_rfl

/-- Slices of tokens, one by one. -/
def AllSlc (W : World) (vs : List Value) (qs : List (List Tok)) : Prop := vs.length = qs.length ∧ ∀ (i : Nat) (p : Value) (q : List Tok), vs[i]? = some p → qs[i]? = some q → TokSlc W p q

theorem AllSlc.nil (W : World) : AllSlc W [] [] := ⟨rfl, fun i p q h => by simp at h⟩

/-- Pieces of a slice of tokens, cut at a token. -/
def PiecesOf (t : Tok) (ts : List Tok) (v : Value) (w : World) (e : Ending) (w' : World) : Prop :=
  ∃ r vs, e = .returned r ∧ w'.ownsRow w.heap.size 27 1 r vs.length vs ∧ (∀ W, TokSlc W v ts → AllSlc W vs (splitT t ts)) ∧ Below w.heap.size w w'

theorem AllSlc.snoc {W : World} {vs : List Value} {qs : List (List Tok)} {p : Value} {q : List Tok} (h : AllSlc W vs qs) (hp : TokSlc W p q) : AllSlc W (vs ++ [p]) (qs ++ [q]) := by
  refine ⟨by rw [List.length_append, List.length_append, h.1]; rfl, fun i p' q' h1 h2 => ?_⟩
  rcases Nat.lt_or_ge i vs.length with hi | hi
  · rw [List.getElem?_append_left hi] at h1
    rw [List.getElem?_append_left (by rw [← h.1]; exact hi)] at h2
    exact h.2 i p' q' h1 h2
  · rw [List.getElem?_append_right hi] at h1
    rw [List.getElem?_append_right (by rw [← h.1]; exact hi)] at h2
    rw [h.1] at h1
    cases hk : i - qs.length with
    | zero =>
      rw [hk] at h1 h2
      cases h1; cases h2
      exact hp
    | succ k => rw [hk] at h1; simp at h1

theorem own_formV {W : World} {B e s k : Nat} {v : Value} {xs : List Value} (h : W.ownsRow B e s v k xs) : ∃ a c, v = .slice a k c := by
  rcases h.2 with ⟨rfl, h0⟩ | ⟨g, cap, cur, rfl, _⟩
  · exact ⟨none, 0, by rw [h0]⟩
  · exact ⟨_, _, rfl⟩

set_option maxRecDepth 20000 in
set_option maxHeartbeats 4000000 in
theorem piecesAt_impl (t : Tok) (ts : List Tok) (v : Value) (w : World) (h : TokSlc w v ts) (hs : ts.length ≤ 1500000) :
    Calls Tryz.prog 96 #[v, .agg #[.int .i64 t.k, .string ⟨t.t.toArray⟩, .int .i64 t.n]] w (PiecesOf t ts v w) := by
  obtain ⟨i0, hi, hz0, hz1, hz2⟩ := info_parts infoTokS
  have hl0 := LBlk.new w [.int .i64 t.k, .string ⟨t.t.toArray⟩, .int .i64 t.n] 73
  have hsz1 : (w.alloc (.cells #[.int .i64 t.k, .string ⟨t.t.toArray⟩, .int .i64 t.n] 73)).heap.size = w.heap.size + 1 := by simp
  have ho2 : ((w.alloc (.cells #[.int .i64 t.k, .string ⟨t.t.toArray⟩, .int .i64 t.n] 73)).alloc (.cells #[] 27)).ownsRow (w.heap.size + 1) 27 1 (.slice (some ⟨w.heap.size + 1, 0, none⟩) 0 0) ([] : List Value).length [] := by
    have := World.ownsRow_lit (w.alloc (.cells #[.int .i64 t.k, .string ⟨t.t.toArray⟩, .int .i64 t.n] 73)) (e := 27) (base := w.heap.size + 1) (size := 1) #[] 0 (by rw [hsz1]; exact Nat.le_refl _) (by decide) rfl
    rwa [hsz1] at this
  have hl2 := hl0.alloc (.cells #[] 27)
  have hB2 : Below w.heap.size w ((w.alloc (.cells #[.int .i64 t.k, .string ⟨t.t.toArray⟩, .int .i64 t.n] 73)).alloc (.cells #[] 27)) := ((Below.refl _ _).alloc (Nat.le_refl _) _).alloc (by simp) _
  have hsz2 : w.heap.size + 1 ≤ ((w.alloc (.cells #[.int .i64 t.k, .string ⟨t.t.toArray⟩, .int .i64 t.n] 73)).alloc (.cells #[] 27)).heap.size := by simp
  have HSZ := Lib.hid hsz2
  have H0 := Lib.hid h
  have HTS := Lib.hid hs
  obtain ⟨a0, c0, ev, _⟩ := h.form
  obtain ⟨n, hn⟩ : ∃ n, ts.length = n := ⟨_, rfl⟩
  have HN := Lib.hid hn
  rw [hn] at ev
  obtain ⟨v0, ev0⟩ : ∃ v0, v = v0 := ⟨_, rfl⟩
  have HV := Lib.hid (show ∀ W, TokSlc W v ts → TokSlc W v ts from fun _ h => h)
  have HE0 := Lib.hid ev
  clear ev0 hsz1 hl0 hn h hs ev hsz2
  go_enter Tryz.func96, Tryz.ntmps96
  go_upto_region 2 with (fail)
  generalize (w.alloc (.cells #[.int .i64 t.k, .string ⟨t.t.toArray⟩, .int .i64 t.n] 73)).alloc (.cells #[] 27) = W2 at *
  go_wp2_with fail
  go_loopg [0, 5, 6] (n + 1) (fun kx s0 s5 s6 wr => ∃ (rest : List Tok) (done : List (List Tok)) (vs : List Value) (more : Bool), Hid (∀ W, TokSlc W v ts → TokSlc W s0 rest) ∧ wr.ownsRow (w.heap.size + 1) 27 1 s5 vs.length vs ∧ s6 = .bool more ∧ Hid (∀ W, TokSlc W v ts → AllSlc W vs done) ∧ Hid (splitT t ts = done ++ if more = true then splitT t rest else []) ∧ rest.length ≤ n ∧ (more = true → rest.length + 1 ≤ kx ∧ vs.length + rest.length ≤ n) ∧ LBlk wr w.heap.size [.int .i64 t.k, .string ⟨t.t.toArray⟩, .int .i64 t.n] ∧ w.heap.size + 1 ≤ wr.heap.size ∧ Below w.heap.size w wr)
  case atStart => exact ⟨ts, [], [], true, HV, ho2, rfl, Lib.hid (fun _ _ => AllSlc.nil _), Lib.hid rfl, by rw [HN.out]; exact Nat.le_refl _, fun _ => by rw [HN.out]; simp, hl2, HSZ.out, hB2⟩
  case round =>
    obtain ⟨rest, done, vs, more, HS0, hown, rfl, HF, HE, hrl, hmk, hl, hsz, hB⟩ := hrel
    have HRL := Lib.hid hrl
    clear ho2 hl2 hB2 HSZ hrl
    obtain ⟨d, hd⟩ : ∃ d, vs.length = d := ⟨_, rfl⟩
    have HD := Lib.hid hd
    rw [hd] at hown hmk
    obtain ⟨a5, c5, rfl⟩ := own_formV hown
    clear hd
    cases more
    · have HK := Lib.hid (show splitT t ts = done by rw [HE.out]; simp)
      go_wp2_with fail
      go_ret
      exact ⟨_, vs, rfl, by rw [HD.out]; exact own_baseA hown (Nat.le_succ _), by rw [HK.out]; exact HF.out, hB⟩
    · obtain ⟨hk1, hk2⟩ := hmk rfl
      have hds : d ≤ 1500000 := by have := HTS.out; have := HN.out; omega
      have HC := Lib.hid (cutAt_tok t rest _ wr ((HS0.out w H0.out).on hB) (by have := HRL.out; have := HTS.out; have := HN.out; omega))
      unfold CutsK at HC
      obtain ⟨ar, cr, rfl, _⟩ := (HS0.out w H0.out).form
      have HL := Lib.hid (load_blk (P := Tryz.prog) (ty := 73) hl tk_wide)
      have HLB := Lib.hid hl
      have HRN := Lib.hid hk2
      have HK1 := Lib.hid hk1
      have HRQ := HRL.out
      generalize hrn : rest.length = rn at *
      have HRE := Lib.hid hrn
      clear hmk hrn hl
      cases hc : cutK t rest with
      | none =>
        rw [hc] at HC
        have HE2 := Lib.hid (show splitT t ts = (done ++ [rest]) ++ if false = true then splitT t ([] : List Tok) else [] by rw [HE.out]; simp [split_last hc])
        have HF2 := Lib.hid (fun W (hW : TokSlc W v ts) => (HF.out W hW).snoc (HS0.out W hW))
        clear hc
        go_wp2_with ((with_reducible refine wp_load_at HL.out ?_ ?_); exact And.intro rfl (And.intro rfl rfl))
        refine HC.out.mono ?_
        rintro e w1 ⟨p, b, is, rfl, g1, rfl, rfl, rfl⟩
        have hB1 := hB.trans (g1.mono hB.size)
        have hown1 := own_below hown g1
        have hl1 := HLB.out.below g1
        have hsz1 : w.heap.size + 1 ≤ w1.heap.size := Nat.le_trans hsz g1.size
        clear hown hB g1 hsz
        go_wp2_with (at_builtin; refine wpList_append_own _ rfl _ _ 116 rfl (w.heap.size + 1) 27 i0 _ 1 24 Tryz.underlying116 hi hz0 hz1 hz2 rfl (by decide) _ d vs rfl (World.ownsRow.alloc hown1 _) ⟨w1.heap.size, 0, none⟩ 1 1 [.slice ar rn cr] rfl rfl (cell_one_new _ _ _) (by simp [Value.oneCell']) (by simp [maxLen] <;> omega) (by omega) (by simp; omega) ?_; intro v4 w4 hown4 hgrow4 _)
        go_roundg 0
        case measure => have := HK1.out; omega
        case rel => exact ⟨[], done ++ [rest], vs ++ [.slice ar rn cr], false, Lib.hid (fun W _ => nil_slc W), by rw [List.length_append, HD.out]; exact hown4, rfl, HF2, HE2, Nat.zero_le _, (fun h => by cases h), LBlk.grown (b := w.heap.size) (hl1.alloc _) hgrow4 (by intro e; have := (World.ownsRow.lt hown1 _ e.symm).1; omega), Nat.le_trans (by simp; omega) hgrow4.size, (hB1.alloc hB1.size _).grown hgrow4 (by simp; omega) (fun k hk => Nat.le_of_succ_le (World.ownsRow.lt hown1 k hk).1)⟩
      | some xy =>
        obtain ⟨x, y⟩ := xy
        rw [hc] at HC
        have hcl := cutK_len hc
        rw [HRE.out] at hcl
        have HE2 := Lib.hid (show splitT t ts = (done ++ [x]) ++ if true = true then splitT t y else [] by rw [HE.out]; simp [split_step hc])
        have HLY := Lib.hid hcl
        clear hc hcl
        go_wp2_with ((with_reducible refine wp_load_at HL.out ?_ ?_); exact And.intro rfl (And.intro rfl rfl))
        refine HC.out.mono ?_
        rintro e w1 ⟨p, b, is, rfl, g1, rfl, hW⟩
        have HF2 := Lib.hid (fun W (hh : TokSlc W v ts) => (HF.out W hh).snoc (hW W (HS0.out W hh)).1)
        have HB2 := Lib.hid (fun W (hh : TokSlc W v ts) => (hW W (HS0.out W hh)).2)
        have hB1 := hB.trans (g1.mono hB.size)
        have hown1 := own_below hown g1
        have hl1 := HLB.out.below g1
        have hsz1 : w.heap.size + 1 ≤ w1.heap.size := Nat.le_trans hsz g1.size
        obtain ⟨ap, cp, ep, _⟩ := (hW w (HS0.out w H0.out)).1.form
        obtain ⟨ab, cb, eb, _⟩ := (hW w (HS0.out w H0.out)).2.form
        subst ep eb
        have hxl := HLY.out.1
        generalize x.length = xn at *
        generalize hyn : y.length = yn at *
        have HYN := Lib.hid hyn
        clear hown hB g1 hsz hW hyn
        go_wp2_with (at_builtin; refine wpList_append_own _ rfl _ _ 116 rfl (w.heap.size + 1) 27 i0 _ 1 24 Tryz.underlying116 hi hz0 hz1 hz2 rfl (by decide) _ d vs rfl (World.ownsRow.alloc hown1 _) ⟨w1.heap.size, 0, none⟩ 1 1 [.slice ap xn cp] rfl rfl (cell_one_new _ _ _) (by simp [Value.oneCell']) (by simp [maxLen] <;> omega) (by omega) (by simp; omega) ?_; intro v4 w4 hown4 hgrow4 _)
        go_roundg (gk - 1)
        case measure => have := HK1.out; omega
        case rel => exact ⟨y, done ++ [x], vs ++ [.slice ap xn cp], true, HB2, by rw [List.length_append, HD.out]; exact hown4, rfl, HF2, HE2, by rw [HYN.out]; omega, (fun _ => by rw [HYN.out, List.length_append, HD.out]; have := HK1.out; have := HRN.out; simp; omega), LBlk.grown (b := w.heap.size) (hl1.alloc _) hgrow4 (by intro e; have := (World.ownsRow.lt hown1 _ e.symm).1; omega), Nat.le_trans (by simp; omega) hgrow4.size, (hB1.alloc hB1.size _).grown hgrow4 (by simp; omega) (fun k hk => Nat.le_of_succ_le (World.ownsRow.lt hown1 k hk).1)⟩

end Go.Proofs.YtliihnkonakacaaGreatDoor.B10
