/- Contracts of chapter 4's functions (ease): the program's own texts: numberText, ShowEase. They lean on what the package's tables hold. -/
import Derived.Test.YtmaagcmbofedhaaDoorBase4i
import Derived.Test.YtmaagcmbofedhaaDoorPlain4g
import Derived.Test.YtmaagcmbofedhaaDoorShelf
import Derived.Lib.SmallJoins
namespace Go.Proofs.YtmaagcmbofedhaaDoor.B4
open Go.Proofs.YtmaagcmbofedhaaDoor.P1 Go.Proofs.YtmaagcmbofedhaaDoor.B1 Go.Proofs.YtmaagcmbofedhaaDoor.P2 Go.Proofs.YtmaagcmbofedhaaDoor.B2 Go.Proofs.YtmaagcmbofedhaaDoor.P3 Go.Proofs.YtmaagcmbofedhaaDoor.B3 Go.Proofs.YtmaagcmbofedhaaDoor.T1 Go.Proofs.YtmaagcmbofedhaaDoor.BT Go.Proofs.YtmaagcmbofedhaaDoor.P4
open Go.ChangeShapes Go.WideShapes Go.ChangeAt Go.RowKit
set_option linter.unusedVariables false

/-- The jumps' words as their table holds them. -/
def jumpTab : List (List UInt8) := [[], [115, 116, 97, 114, 116], [101, 110, 100], [110, 111, 110, 101], [98, 111, 116, 104]]

/-- What the tables that the texts are made of hold. -/
structure Laid (w : World) : Prop where
  pow : Lib.TabIs Tryd.prog w "internal/strconv.uint64pow10" .u64 Lib.pow10Tab
  jump : ∀ k l, jumpTab[k]? = some l → w.cell? ⟨0, k, none⟩ = some (.string ⟨l.toArray⟩)

theorem named_pow : Tryd.prog.globalNamed "internal/strconv.uint64pow10" = some 1 := by kernel_rfl

theorem named_jump : Tryd.prog.globalNamed "loop.example/g00521/impl.jumpWords" = some 0 := by kernel_rfl

theorem Laid.on {w w' : World} (h : Laid w) (hb : Below w.heap.size w w') : Laid w' :=
  ⟨Joins.tab_stays named_pow h.pow hb (Nat.le_refl _), fun k l hk => by
    have hc := h.jump k l hk
    rw [hb.cell (p := ⟨0, k, none⟩) (World.block_lt_of_cell? _ _ hc)]
    exact hc⟩

theorem Laid.cell {w : World} (h : Laid w) (k : Nat) {l : List UInt8} (hk : jumpTab[k]? = some l) : w.cell? ⟨0, k, none⟩ = some (.string ⟨l.toArray⟩) := h.jump k l hk

theorem Laid.drew {w : World} (h : Laid w) : Laid w.drew := h.on ⟨rfl, rfl, rfl, Nat.le_refl _, fun _ _ => rfl⟩

theorem Laid.alloc {w : World} (h : Laid w) (o : Obj) : Laid (w.alloc o) := h.on ((Below.refl _ _).alloc (Nat.le_refl _) _)

theorem grown_below (w : World) (q : Nat) (os : Array Obj) : Below w.heap.size w (Sort.grow (w.drewN q) os) := by
  refine ⟨rfl, rfl, rfl, ?_, fun k hk => ?_⟩
  · show w.heap.size ≤ (w.heap ++ os).size
    simp
  · show (w.heap ++ os)[k]? = w.heap[k]?
    rw [Array.getElem?_append_left hk]

theorem numberText_impl (n : Int) (w : World) (h0 : -9223372036854775808 ≤ n) (h1 : n ≤ 9223372036854775807) (L : Laid w) :
    Calls Tryd.prog 18 #[.int .i64 n] w (Ans (.string ⟨(Lib.itoa n).toArray⟩) w) := by
  go_enter Tryd.func18, Tryd.ntmps18
  go_wp2_with (go_at_call 41; refine (Tryd.strconv_FormatInt_10 _ h0 h1 _ L.pow).mono ?_; rintro e w' ⟨rfl, q, os, rfl⟩)
  go_ret
  exact ⟨rfl, grown_below _ _ _⟩

theorem chain_show {w w1 w2 w3 : World} {o : Obj} (h1 : Below w.heap.size w w1) (h2 : Below (w1.alloc o).heap.size (w1.alloc o) w2) (h3 : Below w2.heap.size w2 w3) : Below w.heap.size w w3 := by
  have a := h1.alloc h1.size o
  have b := a.trans (h2.mono a.size)
  exact b.trans (h3.mono b.size)

/-- strings.Join with a blank, over a row of texts. -/
theorem join_at (ls : List (List UInt8)) (n bk cap : Nat) (w : World) (hn : ls.length = n) (hcells : ∀ k l, ls[k]? = some l → w.cell? ⟨bk, k, none⟩ = some (.string ⟨l.toArray⟩)) (hbk : bk < w.heap.size) (hcap : n ≤ cap) (hs : n ≤ 100) (hlen : (Lib.join ls [32]).length ≤ 1000) :
    Calls Tryd.prog 19 #[.slice (some ⟨bk, 0, none⟩) n cap, .string ⟨#[32]⟩] w (Ans (.string ⟨(Lib.join ls [32]).toArray⟩) w) := by
  subst hn
  have e1 : (ls.map fun l => (⟨l.toArray⟩ : ByteArray)).map (·.data.toList) = ls := by simp [Function.comp_def]
  have e2 : (ls.map fun l => (⟨l.toArray⟩ : ByteArray)).length = ls.length := by simp
  have h := Tryd.strings_Join bk 0 cap (ls.map fun l => (⟨l.toArray⟩ : ByteArray)) ⟨#[32]⟩ w (fun k x hx => by
      rw [List.getElem?_map] at hx
      cases hl : ls[k]? with
      | none => rw [hl] at hx; cases hx
      | some l =>
        rw [hl] at hx
        cases hx
        rw [Nat.zero_add]
        exact hcells k l hl) hbk (by rw [e2]; omega) (by rw [e2]; exact hcap) (by rw [e1]; exact Nat.le_trans hlen (by decide))
  rw [e1, e2] at h
  exact h

theorem join_line : Lib.join [lineText] [32] = lineText := Lib.join_one _ _

theorem join_curve (a b c d : List UInt8) : Lib.join [curveW, a, b, c, d] [32] = curveW ++ 32 :: (a ++ 32 :: (b ++ 32 :: (c ++ 32 :: d))) := by
  rw [Lib.join_cons]; simp [Lib.joinTail]

theorem join_steps (a b : List UInt8) : Lib.join [stepsW, a, b] [32] = stepsW ++ 32 :: (a ++ 32 :: b) := by
  rw [Lib.join_cons]; simp [Lib.joinTail]

theorem curve_joined (x1 y1 x2 y2 : Int) : Lib.join [curveW, Lib.itoa x1, Lib.itoa y1, Lib.itoa x2, Lib.itoa y2] [32] = curveText x1 y1 x2 y2 := by
  rw [join_curve]; simp [curveText, curveW]

theorem steps_joined (c j : Int) : Lib.join [stepsW, Lib.itoa c, jumpWord j] [32] = stepsText c j := by
  rw [join_steps]; simp [stepsText, stepsW]

/-- A row of one, three or five texts that was just made, and that a call keeps. -/
theorem row_kept {w w2 : World} {cs : Array Value} {t : TypeId} (g : Below (w.alloc (.cells cs t)).heap.size (w.alloc (.cells cs t)) w2) (k : Nat) {v : Value} (h : cs[k]? = some v) : w2.cell? ⟨w.heap.size, k, none⟩ = some v := by
  rw [g.cell (p := ⟨w.heap.size, k, none⟩) (by simp), World.cell?_alloc_at _ _ _ _ rfl]
  exact h

set_option maxHeartbeats 1000000 in
theorem ShowEase_impl_line (x1 y1 x2 y2 c j : Int) (w : World) (h : easeOk 1 x1 y1 x2 y2 c j = true) :
    Calls Tryd.prog 8 #[.agg #[.int .i64 1, .int .i64 x1, .int .i64 y1, .int .i64 x2, .int .i64 y2, .int .i64 c, .int .i64 j]] w (Ans (.string ⟨(showEase 1 x1 y1 x2 y2 c j).toArray⟩) w) := by
  have Hk := Lib.hid (show showEase 1 x1 y1 x2 y2 c j = Lib.join [lineText] [32] by rw [showEase_in h]; exact join_line.symm)
  have asline := fun v w' => as_line_line v w'
  have ascurve := fun v w' => as_line_curve v w'
  have assteps := fun v w' => as_line_steps v w'
  go_enter Tryd.func8, Tryd.ntmps8
  have hn := seven_new (.int .i64 1) (.int .i64 x1) (.int .i64 y1) (.int .i64 x2) (.int .i64 y2) (.int .i64 c) (.int .i64 j) 29 (Below.refl w.heap.size w)
  go_wp2_with (first | (go_at_call 13; refine (EaseOk_impl _ _ _ _ _ _ _ _).mono ?_; rintro e w1 ⟨rfl, g⟩; obtain ⟨k0, k1, k2, k3, k4, k5, k6, hl, hB⟩ := held7_call (w := w) (b := w.heap.size) g hn.1 hn.2.1 hn.2.2.1 hn.2.2.2.1 hn.2.2.2.2.1 hn.2.2.2.2.2.1 hn.2.2.2.2.2.2.1 hn.2.2.2.2.2.2.2.1 hn.2.2.2.2.2.2.2.2; clear hn g) | (go_at_call 17; refine (shapeOf_1 _ _ _ _ _ _ _).mono ?_; rintro e w2 ⟨rfl, hb2⟩) | fail)
  have hz : w1.heap.size < w2.heap.size := by have := hb2.size; simp at this; omega
  refine (join_at [lineText] 1 _ _ _ rfl (fun k l hk => ?_) hz (Nat.le_refl _) (by decide) (by rw [join_line]; decide)).mono ?_
  · refine row_kept hb2 k ?_
    rcases k with _ | k
    · simp at hk; subst hk; rfl
    · simp at hk
  rintro e w3 ⟨rfl, hb3⟩
  go_wp2
  go_ret
  exact ⟨by rw [Hk.out]; rfl, chain_show hB hb2 hb3⟩

theorem five_row {a b c d : List UInt8} {k : Nat} {l : List UInt8} (hk : [curveW, a, b, c, d][k]? = some l) :
    (#[Value.string ⟨#[99, 117, 114, 118, 101]⟩, .string ⟨a.toArray⟩, .string ⟨b.toArray⟩, .string ⟨c.toArray⟩, .string ⟨d.toArray⟩] : Array Value)[k]? = some (.string ⟨l.toArray⟩) := by
  rcases k with _ | _ | _ | _ | _ | k
  all_goals (simp at hk)
  all_goals (subst hk; rfl)

theorem three_row {a b : List UInt8} {k : Nat} {l : List UInt8} (hk : [stepsW, a, b][k]? = some l) :
    (#[Value.string ⟨#[115, 116, 101, 112, 115]⟩, .string ⟨a.toArray⟩, .string ⟨b.toArray⟩] : Array Value)[k]? = some (.string ⟨l.toArray⟩) := by
  rcases k with _ | _ | _ | k
  all_goals (simp at hk)
  all_goals (subst hk; rfl)

theorem held4_alloc {w w' : World} {b : Nat} {v0 v1 v2 v3 : Value} (o : Obj) (c0 : w'.cell? ⟨b, 0, none⟩ = some v0) (c1 : w'.cell? ⟨b, 1, none⟩ = some v1) (c2 : w'.cell? ⟨b, 2, none⟩ = some v2) (c3 : w'.cell? ⟨b, 3, none⟩ = some v3) (hl : b < w'.heap.size) (hB : Below w.heap.size w w') :
    (w'.alloc o).cell? ⟨b, 0, none⟩ = some v0 ∧ (w'.alloc o).cell? ⟨b, 1, none⟩ = some v1 ∧ (w'.alloc o).cell? ⟨b, 2, none⟩ = some v2 ∧ (w'.alloc o).cell? ⟨b, 3, none⟩ = some v3 ∧ b < (w'.alloc o).heap.size ∧ Below w.heap.size w (w'.alloc o) :=
  held4_call ((Below.refl _ _).alloc (Nat.le_refl _) o) c0 c1 c2 c3 hl hB

set_option maxHeartbeats 2000000 in
theorem ShowEase_impl_curve (x1 y1 x2 y2 c j : Int) (w : World) (L : Laid w) (h : easeOk 2 x1 y1 x2 y2 c j = true) :
    Calls Tryd.prog 8 #[.agg #[.int .i64 2, .int .i64 x1, .int .i64 y1, .int .i64 x2, .int .i64 y2, .int .i64 c, .int .i64 j]] w (Ans (.string ⟨(showEase 2 x1 y1 x2 y2 c j).toArray⟩) w) := by
  have Hk := Lib.hid (show showEase 2 x1 y1 x2 y2 c j = Lib.join [curveW, Lib.itoa x1, Lib.itoa y1, Lib.itoa x2, Lib.itoa y2] [32] by rw [showEase_in h]; exact (curve_joined x1 y1 x2 y2).symm)
  obtain ⟨b0, b1, b2, b3, b4, b5, b6, b7⟩ : 0 ≤ x1 ∧ x1 ≤ 100 ∧ -100 ≤ y1 ∧ y1 ≤ 200 ∧ 0 ≤ x2 ∧ x2 ≤ 100 ∧ -100 ≤ y2 ∧ y2 ≤ 200 := by
    rcases easeOk_true h with ⟨h', -⟩ | ⟨-, hc, -⟩ | ⟨h', -⟩
    · cases h'
    · have := curveOk_true hc
      omega
    · cases h'
  have hlen : (Lib.join [curveW, Lib.itoa x1, Lib.itoa y1, Lib.itoa x2, Lib.itoa y2] [32]).length ≤ 1000 := by
    have l1 := itoa_len (n := x1) (by omega) (by omega)
    have l2 := itoa_len (n := y1) (by omega) (by omega)
    have l3 := itoa_len (n := x2) (by omega) (by omega)
    have l4 := itoa_len (n := y2) (by omega) (by omega)
    rw [join_curve]
    simp [curveW]
    omega
  have HL := Lib.hid hlen
  have ascurve := fun v w' => as_curve_curve v w'
  clear hlen
  go_enter Tryd.func8, Tryd.ntmps8
  have hn := seven_new (.int .i64 2) (.int .i64 x1) (.int .i64 y1) (.int .i64 x2) (.int .i64 y2) (.int .i64 c) (.int .i64 j) 29 (Below.refl w.heap.size w)
  go_wp2_with (first | (go_at_call 13; refine (EaseOk_impl _ _ _ _ _ _ _ _).mono ?_; rintro e w1 ⟨rfl, g⟩; obtain ⟨k0, k1, k2, k3, k4, k5, k6, hl, hB⟩ := held7_call (w := w) (b := w.heap.size) g hn.1 hn.2.1 hn.2.2.1 hn.2.2.2.1 hn.2.2.2.2.1 hn.2.2.2.2.2.1 hn.2.2.2.2.2.2.1 hn.2.2.2.2.2.2.2.1 hn.2.2.2.2.2.2.2.2; clear hn g) | (go_at_call 17; refine (shapeOf_2 _ _ _ _ _ _ _).mono ?_; rintro e w2 ⟨rfl, hb2⟩) | fail)
  have hB2 : Below w.heap.size w w2 := by
    have a := hB.alloc hB.size (.cells #[.string ⟨#[108, 105, 110, 101]⟩] 9)
    exact a.trans (hb2.mono a.size)
  clear hb2 k0 k1 k2 k3 k4 k5 k6 hl hB
  obtain ⟨k0, k1, k2, k3, hl, hB⟩ := four_mk (w := w) x1 y1 x2 y2 25 hB2
  generalize w2.alloc (.cells #[.int .i64 x1, .int .i64 y1, .int .i64 x2, .int .i64 y2] 25) = W at *
  generalize w2.heap.size = b at *
  clear hB2 h
  go_region_held3 (fun w' => w'.cell? ⟨b, 0, none⟩ = some (.int .i64 x1) ∧ w'.cell? ⟨b, 1, none⟩ = some (.int .i64 y1) ∧ w'.cell? ⟨b, 2, none⟩ = some (.int .i64 x2) ∧ w'.cell? ⟨b, 3, none⟩ = some (.int .i64 y2) ∧ b < w'.heap.size ∧ Below w.heap.size w w')
    (first | with_reducible exact held4_drew k0 k1 k2 k3 hl hB | (go_split_ands; with_reducible exact held4_call hb' (by assumption) (by assumption) (by assumption) (by assumption) (by assumption) (by assumption)) | (go_split_ands; with_reducible exact held4_alloc _ (by assumption) (by assumption) (by assumption) (by assumption) (by assumption) (by assumption)))
    (first | (go_at_call 18; refine (numberText_impl _ _ ?_ ?_ (L.on ?_)).mono ?_; omega; omega; (go_split_ands; assumption); rintro e w' ⟨rfl, hb'⟩))
  rename_i hS
  obtain ⟨_, _, _, _, _, hB'⟩ := hS
  go_wp2_with fail
  refine (join_at [curveW, Lib.itoa x1, Lib.itoa y1, Lib.itoa x2, Lib.itoa y2] 5 _ _ _ rfl (fun k l hk => ?_) (by simp) (Nat.le_refl _) (by decide) HL.out).mono ?_
  · rw [World.cell?_alloc_at _ _ _ _ rfl]
    exact five_row hk
  rintro e w3 ⟨rfl, hb3⟩
  go_wp2
  go_ret
  exact ⟨by rw [Hk.out]; rfl, hB'.trans (hb3.mono hB'.size)⟩

theorem held3_drew {w w' : World} {b g : Nat} {v0 v1 v2 : Value} {m : Nat} (c0 : w'.cell? ⟨b, 0, none⟩ = some v0) (c1 : w'.cell? ⟨b, 1, none⟩ = some v1) (c2 : w'.cell? ⟨g, m, none⟩ = some v2) (hl : b < w'.heap.size) (hg : g < w'.heap.size) (hB : Below w.heap.size w w') :
    w'.drew.cell? ⟨b, 0, none⟩ = some v0 ∧ w'.drew.cell? ⟨b, 1, none⟩ = some v1 ∧ w'.drew.cell? ⟨g, m, none⟩ = some v2 ∧ b < w'.drew.heap.size ∧ g < w'.drew.heap.size ∧ Below w.heap.size w w'.drew :=
  ⟨c0, c1, c2, hl, hg, ⟨hB.os, hB.tape, hB.output, hB.size, hB.block⟩⟩

theorem held3_call {w w' w2 : World} {b g : Nat} {v0 v1 v2 : Value} {m : Nat} (h : Below w'.heap.size w' w2) (c0 : w'.cell? ⟨b, 0, none⟩ = some v0) (c1 : w'.cell? ⟨b, 1, none⟩ = some v1) (c2 : w'.cell? ⟨g, m, none⟩ = some v2) (hl : b < w'.heap.size) (hg : g < w'.heap.size) (hB : Below w.heap.size w w') :
    w2.cell? ⟨b, 0, none⟩ = some v0 ∧ w2.cell? ⟨b, 1, none⟩ = some v1 ∧ w2.cell? ⟨g, m, none⟩ = some v2 ∧ b < w2.heap.size ∧ g < w2.heap.size ∧ Below w.heap.size w w2 :=
  ⟨(h.cell (p := ⟨b, 0, none⟩) hl).trans c0, (h.cell (p := ⟨b, 1, none⟩) hl).trans c1, (h.cell (p := ⟨g, m, none⟩) hg).trans c2, Nat.lt_of_lt_of_le hl h.size, Nat.lt_of_lt_of_le hg h.size, hB.trans (h.mono hB.size)⟩

theorem held3_alloc {w w' : World} {b g : Nat} {v0 v1 v2 : Value} {m : Nat} (o : Obj) (c0 : w'.cell? ⟨b, 0, none⟩ = some v0) (c1 : w'.cell? ⟨b, 1, none⟩ = some v1) (c2 : w'.cell? ⟨g, m, none⟩ = some v2) (hl : b < w'.heap.size) (hg : g < w'.heap.size) (hB : Below w.heap.size w w') :
    (w'.alloc o).cell? ⟨b, 0, none⟩ = some v0 ∧ (w'.alloc o).cell? ⟨b, 1, none⟩ = some v1 ∧ (w'.alloc o).cell? ⟨g, m, none⟩ = some v2 ∧ b < (w'.alloc o).heap.size ∧ g < (w'.alloc o).heap.size ∧ Below w.heap.size w (w'.alloc o) :=
  held3_call ((Below.refl _ _).alloc (Nat.le_refl _) o) c0 c1 c2 hl hg hB

theorem jump_tab {j : Int} {m : Nat} (hm : j = (m : Int)) (h0 : 1 ≤ j) (h1 : j ≤ 4) : jumpTab[m]? = some (jumpWord j) := by
  subst hm
  rcases (show m = 1 ∨ m = 2 ∨ m = 3 ∨ m = 4 by omega) with rfl | rfl | rfl | rfl <;> rfl

set_option maxHeartbeats 2000000 in
theorem ShowEase_impl_steps (x1 y1 x2 y2 c : Int) (m : Nat) (w : World) (L : Laid w) (h : easeOk 3 x1 y1 x2 y2 c m = true) :
    Calls Tryd.prog 8 #[.agg #[.int .i64 3, .int .i64 x1, .int .i64 y1, .int .i64 x2, .int .i64 y2, .int .i64 c, .int .i64 m]] w (Ans (.string ⟨(showEase 3 x1 y1 x2 y2 c m).toArray⟩) w) := by
  obtain ⟨wd, ew⟩ : ∃ s, jumpWord m = s := ⟨_, rfl⟩
  have Hk := Lib.hid (show showEase 3 x1 y1 x2 y2 c m = Lib.join [stepsW, Lib.itoa c, wd] [32] by rw [showEase_in h, ← ew]; exact (steps_joined c m).symm)
  obtain ⟨b0, b1, b2, b3⟩ : 1 ≤ c ∧ c ≤ 100 ∧ (1 : Int) ≤ m ∧ (m : Int) ≤ 4 := by
    rcases easeOk_true h with ⟨h', -⟩ | ⟨h', -⟩ | ⟨-, hs, -⟩
    · cases h'
    · cases h'
    · have := stepsOk_true hs
      omega
  have hw : ∀ w', Laid w' → w'.cell? ⟨0, m, none⟩ = some (.string ⟨wd.toArray⟩) := fun w' L' => L'.cell m (by rw [← ew]; exact jump_tab rfl b2 b3)
  have HL := Lib.hid (show (Lib.join [stepsW, Lib.itoa c, wd] [32]).length ≤ 1000 by
    have l1 := itoa_len (n := c) (by omega) (by omega)
    have l2 : wd.length ≤ 5 := by rw [← ew]; unfold jumpWord; split <;> (try split) <;> (try split) <;> decide
    rw [join_steps]
    simp [stepsW]
    omega)
  have m0 : (0 : Int) ≤ (m : Int) := by omega
  have m1 : (m : Int) < 5 := by omega
  have ascurve := fun v w' => as_steps_curve v w'
  have assteps := fun v w' => as_steps_steps v w'
  clear ew b2 b3
  go_enter Tryd.func8, Tryd.ntmps8
  have hn := seven_new (.int .i64 3) (.int .i64 x1) (.int .i64 y1) (.int .i64 x2) (.int .i64 y2) (.int .i64 c) (.int .i64 m) 29 (Below.refl w.heap.size w)
  go_wp2_with (first | (go_at_call 13; refine (EaseOk_impl _ _ _ _ _ _ _ _).mono ?_; rintro e w1 ⟨rfl, g⟩; obtain ⟨k0, k1, k2, k3, k4, k5, k6, hl, hB⟩ := held7_call (w := w) (b := w.heap.size) g hn.1 hn.2.1 hn.2.2.1 hn.2.2.2.1 hn.2.2.2.2.1 hn.2.2.2.2.2.1 hn.2.2.2.2.2.2.1 hn.2.2.2.2.2.2.2.1 hn.2.2.2.2.2.2.2.2; clear hn g) | (go_at_call 17; refine (shapeOf_3 _ _ _ _ _ _ _).mono ?_; rintro e w2 ⟨rfl, hb2⟩) | fail)
  have hB2 : Below w.heap.size w w2 := by
    have a := hB.alloc hB.size (.cells #[.string ⟨#[108, 105, 110, 101]⟩] 9)
    exact a.trans (hb2.mono a.size)
  clear hb2 k0 k1 k2 k3 k4 k5 k6 hl hB
  have hB := hB2.alloc hB2.size (.cells #[.int .i64 c, .int .i64 m] 27)
  have k2 := hw _ (L.on hB)
  have hg := World.block_lt_of_cell? _ _ k2
  have k0 : (w2.alloc (.cells #[.int .i64 c, .int .i64 m] 27)).cell? ⟨w2.heap.size, 0, none⟩ = some (.int .i64 c) := World.cell?_alloc_at _ _ _ _ rfl
  have k1 : (w2.alloc (.cells #[.int .i64 c, .int .i64 m] 27)).cell? ⟨w2.heap.size, 1, none⟩ = some (.int .i64 m) := World.cell?_alloc_at _ _ _ _ rfl
  have hl : w2.heap.size < (w2.alloc (.cells #[.int .i64 c, .int .i64 m] 27)).heap.size := by simp
  generalize w2.alloc (.cells #[.int .i64 c, .int .i64 m] 27) = W at *
  generalize w2.heap.size = b at *
  clear hB2 h hw
  go_region_held3 (fun w' => w'.cell? ⟨b, 0, none⟩ = some (.int .i64 c) ∧ w'.cell? ⟨b, 1, none⟩ = some (.int .i64 m) ∧ w'.cell? ⟨0, m, none⟩ = some (.string ⟨wd.toArray⟩) ∧ b < w'.heap.size ∧ 0 < w'.heap.size ∧ Below w.heap.size w w')
    (first | with_reducible exact held3_drew k0 k1 k2 hl hg hB | (go_split_ands; with_reducible exact held3_call hb' (by assumption) (by assumption) (by assumption) (by assumption) (by assumption) (by assumption)) | (go_split_ands; with_reducible exact held3_alloc _ (by assumption) (by assumption) (by assumption) (by assumption) (by assumption) (by assumption)))
    (first | (go_at_call 18; refine (numberText_impl _ _ ?_ ?_ (L.on ?_)).mono ?_; omega; omega; (go_split_ands; assumption); rintro e w' ⟨rfl, hb'⟩))
  all_goals
    rename_i hS
    obtain ⟨_, _, _, _, _, hB'⟩ := hS
    go_wp2_with fail
    refine (join_at [stepsW, Lib.itoa c, wd] 3 _ _ _ rfl (fun k l hk => ?_) (by simp) (Nat.le_refl _) (by decide) HL.out).mono ?_
    · rw [World.cell?_alloc_at _ _ _ _ rfl]
      exact three_row hk
    rintro e w3 ⟨rfl, hb3⟩
    go_wp2
    go_ret
    exact ⟨by rw [Hk.out]; rfl, hB'.trans (hb3.mono hB'.size)⟩

set_option maxHeartbeats 1000000 in
theorem ShowEase_impl (k x1 y1 x2 y2 c j : Int) (w : World) (L : Laid w) :
    Calls Tryd.prog 8 #[.agg #[.int .i64 k, .int .i64 x1, .int .i64 y1, .int .i64 x2, .int .i64 y2, .int .i64 c, .int .i64 j]] w (Ans (.string ⟨(showEase k x1 y1 x2 y2 c j).toArray⟩) w) := by
  cases h : easeOk k x1 y1 x2 y2 c j
  · have Hk := Lib.hid (showEase_out h)
    go_enter Tryd.func8, Tryd.ntmps8
    go_wp2_with (go_at_call 13; refine (EaseOk_impl _ _ _ _ _ _ _ _).mono ?_; rintro e w1 ⟨rfl, hb1⟩)
    go_ret
    exact ⟨by rw [Hk.out]; rfl, Below.box hb1⟩
  · rcases easeOk_true h with ⟨rfl, -⟩ | ⟨rfl, -⟩ | ⟨rfl, hs, -⟩
    · exact ShowEase_impl_line _ _ _ _ _ _ _ h
    · exact ShowEase_impl_curve _ _ _ _ _ _ _ L h
    · obtain ⟨m, rfl⟩ : ∃ m : Nat, j = (m : Int) := ⟨j.toNat, by have := stepsOk_true hs; omega⟩
      exact ShowEase_impl_steps _ _ _ _ _ _ _ L h

end Go.Proofs.YtmaagcmbofedhaaDoor.B4
