/- Chapter 9: a note's cells; contracts of NoteFor, the reference's and the program's. -/
import Derived.Test.YtmcjfjchpclamaaBase6
import Derived.Test.YtmcjfjchpclamaaFound
import Derived.Test.YtmcjfjchpclamaaPlain
import Derived.BigQuiet
import Derived.Deep.QuietTactic
import Derived.Deep.LoopGhost
namespace Go.Proofs.Ytmcjfjchpclamaa.B9
open Go.Proofs.Ytmcjfjchpclamaa.P1 Go.Proofs.Ytmcjfjchpclamaa.B1 Go.Proofs.Ytmcjfjchpclamaa.B2 Go.Proofs.Ytmcjfjchpclamaa.T1 Go.Proofs.Ytmcjfjchpclamaa.BT Go.Proofs.Ytmcjfjchpclamaa.P5 Go.Proofs.Ytmcjfjchpclamaa.P6 Go.Proofs.Ytmcjfjchpclamaa.P8 Go.Proofs.Ytmcjfjchpclamaa.P9 Go.Proofs.Ytmcjfjchpclamaa.B5 Go.Proofs.Ytmcjfjchpclamaa.B6 Go.Proofs.Ytmcjfjchpclamaa.D1 Go.Proofs.Ytmcjfjchpclamaa.W8 Go.Proofs.Ytmcjfjchpclamaa.RC
open Go.ChangeShapes Go.WideShapes Go.ChangeAt Go.RowKit
set_option linter.unusedVariables false

/-- A note as its cells lie. -/
def noL (n : No) : List Value := [.int .i64 n.l, .int .i64 n.v.k, .int .i64 n.v.n, .int .i64 n.v.r, .int .i64 n.v.g, .int .i64 n.v.b, .int .i64 n.v.c, .string ⟨n.v.w.toArray⟩, .bool n.s]

def noV (n : No) : Value := .agg (noL n).toArray

def noZ : List Value := [.int .i64 0, .int .i64 0, .int .i64 0, .int .i64 0, .int .i64 0, .int .i64 0, .int .i64 0, .string ⟨#[]⟩, .bool false]

theorem noL_zero : noL No.zero = noZ := rfl
theorem noL_len (n : No) : (noL n).length = 9 := rfl
theorem noL_one (n : No) : (noL n).all (·.oneCell') = true := rfl
theorem no_wide : wideT Try.prog 30 9 = true := by kernel_rfl

/-- The records of notes. -/
def noRs (ns : List No) : List (List Value) := ns.map noL

theorem noRs_len (ns : List No) : (noRs ns).length = ns.length := by unfold noRs; rw [List.length_map]
theorem noRs_at {ns : List No} {i : Nat} {n : No} (h : ns[i]? = some n) : (noRs ns)[i]? = some (noL n) := by unfold noRs; rw [List.getElem?_map, h]; rfl
theorem noRs_nine (ns : List No) : ∀ r ∈ noRs ns, r.length = 9 := fun r hr => by
  obtain ⟨n, _, rfl⟩ := List.mem_map.1 hr
  rfl

/-- A slice of notes. -/
def NoSlc (w : World) (v : Value) (ns : List No) : Prop := Slc 9 w v (noRs ns)

theorem NoSlc.on {w w' : World} {v : Value} {ns : List No} (h : NoSlc w v ns) (hb : Below w.heap.size w w') : NoSlc w' v ns := Slc.on h hb

theorem NoSlc.form {w : World} {v : Value} {ns : List No} (h : NoSlc w v ns) : ∃ a cap, v = .slice a ns.length cap ∧ ns.length ≤ cap ∧ cap ≤ 9223372036854775807 ∧ (ns ≠ [] → ∃ g off, a = some ⟨g, off, none⟩ ∧ At 9 w g off (noRs ns)) := by
  obtain ⟨a, cap, e, h1, h2, h3⟩ := h
  rw [noRs_len] at e h1
  exact ⟨a, cap, e, h1, h2, fun hne => h3 (by intro e0; exact hne (by unfold noRs at e0; simpa using e0))⟩

theorem nine_at {w : World} {g off i : Nat} {ns : List No} {n : No} (h : At 9 w g off (noRs ns)) (hn : ns[i]? = some n) : w.cell? ⟨g, off + i * 9, none⟩ = some (.int .i64 n.l) ∧ w.cell? ⟨g, off + i * 9 + 8, none⟩ = some (.bool n.s) :=
  ⟨h.cells i _ (noRs_at hn) 0 _ rfl, h.cells i _ (noRs_at hn) 8 _ rfl⟩

theorem no_load {w : World} {g off i : Nat} {ns : List No} {n : No} (h : At 9 w g off (noRs ns)) (hn : ns[i]? = some n) : (loadVar 30 ⟨g, off + i * 9, none⟩).run Try.prog w = .ok (noV n) w := load_at h (noRs_at hn) no_wide

theorem no_laid (w : World) (n : No) : ∃ w', (storeVar 30 ⟨w.heap.size, 0, none⟩ (noV n)).run Try.prog (w.alloc (.cells #[.int .i64 0, .int .i64 0, .int .i64 0, .int .i64 0, .int .i64 0, .int .i64 0, .int .i64 0, .string ⟨#[]⟩, .bool false] 30)) = .ok () w' ∧ LBlk w' w.heap.size (noL n) ∧ Below w.heap.size w w' := laid w noZ (noL n) no_wide rfl (noL_one n)

theorem no_store {w : World} {b : Nat} {o : No} (h : LBlk w b (noL o)) (n : No) : ∃ w', (storeVar 30 ⟨b, 0, none⟩ (noV n)).run Try.prog w = .ok () w' ∧ LBlk w' b (noL n) ∧ Only b w w' := by
  obtain ⟨w', h1, h2, h3, _⟩ := store_blk (P := Try.prog) (ty := 30) (vs := noL n) h no_wide rfl (noL_one n)
  exact ⟨w', h1, h2, h3⟩

theorem no_cells {w : World} {b : Nat} {n : No} (h : LBlk w b (noL n)) : w.cell? ⟨b, 0, none⟩ = some (.int .i64 n.l) ∧ w.cell? ⟨b, 8, none⟩ = some (.bool n.s) := ⟨(h.2 0 _ rfl).1, (h.2 8 _ rfl).1⟩

/-- What NoteFor answers. -/
def forV (ns : List No) (l : Int) : Value := .tuple #[noV (noVal (forN ns l)), .bool (forN ns l).isSome]

set_option maxRecDepth 20000 in
set_option maxHeartbeats 4000000 in
theorem NoteFor_impl (ns : List No) (l : Int) (v : Value) (w : World) (h : NoSlc w v ns) (hs : ns.length ≤ 2000000) :
    Calls Try.prog 7 #[v, .int .i64 l] w (Ans (forV ns l) w) := by
  obtain ⟨a, cap, rfl, hnc, hcap, HA⟩ := h.form
  obtain ⟨n, hn⟩ : ∃ n, ns.length = n := ⟨_, rfl⟩
  rw [hn] at hnc hs ⊢
  have HN := Lib.hid hn
  have hnc' : (n : Int) ≤ (cap : Int) := by omega
  have hs' : (n : Int) ≤ 2000000 := by omega
  replace HA := Lib.hid HA
  have hr1 : LBlk ((w.alloc (.cells noZ.toArray 30)).alloc (.cells noZ.toArray 30)) w.heap.size noZ := (LBlk.new w noZ 30).alloc _
  have hl1 : LBlk ((w.alloc (.cells noZ.toArray 30)).alloc (.cells noZ.toArray 30)) (w.heap.size + 1) noZ := by
    have := LBlk.new (w.alloc (.cells noZ.toArray 30)) noZ 30
    rwa [World.size_alloc] at this
  have HB1 : Below w.heap.size w ((w.alloc (.cells noZ.toArray 30)).alloc (.cells noZ.toArray 30)) := ((Below.refl _ _).alloc (Nat.le_refl _) _).alloc (by simp) _
  have HR := Lib.hid (fun (wr : World) (a0 : No) (hr : LBlk wr w.heap.size noZ) => no_store (o := No.zero) hr a0)
  clear h hn hcap
  go_enter Try.func7, Try.ntmps7
  go_wp2_with fail
  go_loopg [7, 13] n (fun kx s7 s13 wr => ∃ (i : Nat) (acc : Option No), s7 = .bool acc.isSome ∧ s13 = .int .i64 (i : Int) ∧ kx + i = n ∧ Hid (acc = forN (ns.take i) l) ∧ LBlk wr (w.heap.size + 1) (noL (noVal acc)) ∧ LBlk wr w.heap.size noZ ∧ Below w.heap.size w wr)
  case atStart => exact ⟨0, none, rfl, rfl, by omega, Lib.hid rfl, hl1, hr1, HB1⟩
  case round =>
    obtain ⟨i, acc, rfl, rfl, hk, HI, hl, hr, hB⟩ := hrel
    clear hl1 hr1 HB1
    by_cases hlt : i < n
    · have hlt' : (i : Int) < (n : Int) := by omega
      have i0' : (0 : Int) ≤ (i : Int) := by omega
      obtain ⟨x, hx⟩ : ∃ x, ns[i]? = some x := ⟨_, List.getElem?_eq_getElem (by rw [HN.out]; exact hlt)⟩
      obtain ⟨g, off, rfl, hat⟩ := HA.out (by intro e0; rw [e0] at hx; cases hx)
      have HLD := Lib.hid (no_load (hat.on hB) hx)
      obtain ⟨w2, hst2, hx2, hb2⟩ := no_laid wr x
      have HST2 := Lib.hid hst2
      have hl2 := hl.below hb2
      have hr2 := hr.below hb2
      have hB2 := hB.trans (hb2.mono hB.size)
      obtain ⟨d0, d8⟩ := no_cells hl2
      obtain ⟨c0, c8⟩ := no_cells hx2
      have HT := Lib.hid (show forN (ns.take (i + 1)) l = keepN l acc x by rw [forN_take hx, HI.out])
      obtain ⟨w3, hst3, hl3, ho3⟩ := no_store hl2 x
      have HST3 := Lib.hid hst3
      have HL3 := Lib.hid (load_blk (P := Try.prog) (ty := 30) hx2 no_wide)
      have hr3 := hr2.only ho3 (by omega)
      have hB3 := ho3.below (Nat.le_succ _) hB2.size
      have hB3' := hB2.trans hB3
      clear hst2 hst3 hx hat hl hr hb2
      by_cases he : x.l = l
      · have he' : (x.l == l) = true := by simpa using he
        by_cases hs2 : x.s = true ∨ (noVal acc).s = false
        · have HE := Lib.hid (show forN (ns.take (i + 1)) l = some x by rw [HT.out, keepN_takes he hs2])
          have hs4 : x.s = true ∨ (x.s = false ∧ (noVal acc).s = false) := by
            cases h : x.s
            · exact Or.inr ⟨rfl, hs2.resolve_left (by rw [h]; simp)⟩
            · exact Or.inl rfl
          clear hs2 he hB2 HT
          rcases hs4 with hs3 | ⟨hs3, hs5⟩
          · rw [hs3] at c8
            clear d8 d0
            go_wp2_with (first | ((with_reducible refine wp_load_at HLD.out ?_ ?_); exact And.intro rfl (And.intro rfl rfl)) | ((with_reducible refine wp_store_at HST2.out ?_ ?_); exact And.intro rfl (And.intro rfl (And.intro rfl rfl))) | ((with_reducible refine wp_load_at HL3.out ?_ ?_); exact And.intro rfl (And.intro rfl rfl)) | ((with_reducible refine wp_store_at HST3.out ?_ ?_); exact And.intro rfl (And.intro rfl (And.intro rfl rfl))))
            go_roundg (n - (i + 1))
            case measure => omega
            case rel => exact ⟨i + 1, some x, rfl, by go_num, by omega, Lib.hid HE.out.symm, hl3, hr3, hB3'⟩
          · rw [hs3] at c8
            rw [hs5] at d8
            clear d0
            go_wp2_with (first | ((with_reducible refine wp_load_at HLD.out ?_ ?_); exact And.intro rfl (And.intro rfl rfl)) | ((with_reducible refine wp_store_at HST2.out ?_ ?_); exact And.intro rfl (And.intro rfl (And.intro rfl rfl))) | ((with_reducible refine wp_load_at HL3.out ?_ ?_); exact And.intro rfl (And.intro rfl rfl)) | ((with_reducible refine wp_store_at HST3.out ?_ ?_); exact And.intro rfl (And.intro rfl (And.intro rfl rfl))))
            go_roundg (n - (i + 1))
            case measure => omega
            case rel => exact ⟨i + 1, some x, rfl, by go_num, by omega, Lib.hid HE.out.symm, hl3, hr3, hB3'⟩
        · have HE := Lib.hid (show forN (ns.take (i + 1)) l = acc by rw [HT.out, keepN_leaves hs2])
          have hs3 : x.s = false := (Bool.eq_false_or_eq_true x.s).resolve_left (fun h => hs2 (Or.inl h))
          have hs5 : (noVal acc).s = true := (Bool.eq_false_or_eq_true (noVal acc).s).resolve_right (fun h => hs2 (Or.inr h))
          rw [hs3] at c8
          rw [hs5] at d8
          clear hs2 he d0 HT hl3 hr3 HL3 HST3 hB3 hB3' ho3
          go_wp2_with (first | ((with_reducible refine wp_load_at HLD.out ?_ ?_); exact And.intro rfl (And.intro rfl rfl)) | ((with_reducible refine wp_store_at HST2.out ?_ ?_); exact And.intro rfl (And.intro rfl (And.intro rfl rfl))))
          go_roundg (n - (i + 1))
          case measure => omega
          case rel => exact ⟨i + 1, acc, rfl, by go_num, by omega, Lib.hid HE.out.symm, hl2, hr2, hB2⟩
      · have he' : (x.l == l) = false := by simpa using he
        have HE := Lib.hid (show forN (ns.take (i + 1)) l = acc by rw [HT.out, keepN_other he])
        clear d0 d8 c8 HT hl3 hr3 HL3 HST3 hB3 hB3' ho3
        go_wp2_with (first | ((with_reducible refine wp_load_at HLD.out ?_ ?_); exact And.intro rfl (And.intro rfl rfl)) | ((with_reducible refine wp_store_at HST2.out ?_ ?_); exact And.intro rfl (And.intro rfl (And.intro rfl rfl))))
        go_roundg (n - (i + 1))
        case measure => omega
        case rel => exact ⟨i + 1, acc, rfl, by go_num, by omega, Lib.hid HE.out.symm, hl2, hr2, hB2⟩
    · have hlt' : ¬ (i : Int) < (n : Int) := by omega
      have HE := Lib.hid (show forN ns l = acc by have := HI.out; rw [List.take_of_length_le (by rw [HN.out]; omega)] at this; exact this.symm)
      have HL := Lib.hid (load_blk (P := Try.prog) (ty := 30) hl no_wide)
      obtain ⟨w3, hst3, hl3, ho3⟩ := HR.out wr (noVal acc) hr
      have HST3 := Lib.hid hst3
      have hB3 := hB.trans (ho3.below (Nat.le_refl _) hB.size)
      clear hst3 HA
      go_wp2_with (first | ((with_reducible refine wp_load_at HL.out ?_ ?_); exact And.intro rfl (And.intro rfl rfl)) | ((with_reducible refine wp_store_at HST3.out ?_ ?_); exact And.intro rfl (And.intro rfl (And.intro rfl rfl))))
      exact bodyPost_ret (results_wide2 (load_blk hl3 no_wide) rfl rfl) rfl ⟨by rw [← HE.out]; rfl, hB3⟩

end Go.Proofs.Ytmcjfjchpclamaa.B9
