/- Chapter 9: the contract of the reference's NoteFor. -/
import Derived.Test.YtmcjfjchpclamaaBase9
namespace Go.Proofs.Ytmcjfjchpclamaa.B9
open Go.Proofs.Ytmcjfjchpclamaa.P1 Go.Proofs.Ytmcjfjchpclamaa.B1 Go.Proofs.Ytmcjfjchpclamaa.B2 Go.Proofs.Ytmcjfjchpclamaa.T1 Go.Proofs.Ytmcjfjchpclamaa.BT Go.Proofs.Ytmcjfjchpclamaa.P5 Go.Proofs.Ytmcjfjchpclamaa.P6 Go.Proofs.Ytmcjfjchpclamaa.P8 Go.Proofs.Ytmcjfjchpclamaa.P9 Go.Proofs.Ytmcjfjchpclamaa.B5 Go.Proofs.Ytmcjfjchpclamaa.B6 Go.Proofs.Ytmcjfjchpclamaa.D1 Go.Proofs.Ytmcjfjchpclamaa.W8 Go.Proofs.Ytmcjfjchpclamaa.RC
open Go.ChangeShapes Go.WideShapes Go.ChangeAt Go.RowKit
set_option linter.unusedVariables false

set_option maxRecDepth 20000 in
set_option maxHeartbeats 4000000 in
theorem NoteFor_spec (ns : List No) (l : Int) (v : Value) (w : World) (h : NoSlc w v ns) (hs : ns.length ≤ 2000000) :
    Calls Try.prog 8 #[v, .int .i64 l] w (Ans (forV ns l) w) := by
  obtain ⟨a, cap, rfl, hnc, hcap, HA⟩ := h.form
  obtain ⟨n, hn⟩ : ∃ n, ns.length = n := ⟨_, rfl⟩
  rw [hn] at hnc hs ⊢
  have HN := Lib.hid hn
  have hnc' : (n : Int) ≤ (cap : Int) := by omega
  have hs' : (n : Int) ≤ 2000000 := by omega
  replace HA := Lib.hid HA
  have hr1 : LBlk ((w.alloc (.cells noZ.toArray 30)).alloc (.cells noZ.toArray 30)) w.heap.size noZ := (LBlk.new w noZ 30).alloc _
  have hl1 : LBlk ((w.alloc (.cells noZ.toArray 30)).alloc (.cells noZ.toArray 30)) (w.heap.size + 1) noZ := by
    have := LBlk.new (w.alloc (.cells noZ.toArray 30)) noZ 30
    rwa [World.size_alloc] at this
  have HB1 : Below w.heap.size w ((w.alloc (.cells noZ.toArray 30)).alloc (.cells noZ.toArray 30)) := ((Below.refl _ _).alloc (Nat.le_refl _) _).alloc (by simp) _
  have HR := Lib.hid (fun (wr : World) (a0 : No) (hr : LBlk wr w.heap.size noZ) => no_store (o := No.zero) hr a0)
  clear h hn hcap
  go_enter Try.func8, Try.ntmps8
  go_wp2_with fail
  go_loopg [7, 8] n (fun kx s7 s8 wr => ∃ (i : Nat) (acc : Option No), s7 = .bool acc.isSome ∧ s8 = .int .i64 (i : Int) ∧ kx + i = n ∧ Hid (acc = forN (ns.take i) l) ∧ LBlk wr (w.heap.size + 1) (noL (noVal acc)) ∧ LBlk wr w.heap.size noZ ∧ Below w.heap.size w wr)
  case atStart => exact ⟨0, none, rfl, rfl, by omega, Lib.hid rfl, hl1, hr1, HB1⟩
  case round =>
    obtain ⟨i, acc, rfl, rfl, hk, HI, hl, hr, hB⟩ := hrel
    clear hl1 hr1 HB1
    by_cases hlt : i < n
    · have hlt' : (i : Int) < (n : Int) := by omega
      have i0' : (0 : Int) ≤ (i : Int) := by omega
      obtain ⟨x, hx⟩ : ∃ x, ns[i]? = some x := ⟨_, List.getElem?_eq_getElem (by rw [HN.out]; exact hlt)⟩
      obtain ⟨g, off, rfl, hat⟩ := HA.out (by intro e0; rw [e0] at hx; cases hx)
      have HLD := Lib.hid (no_load (hat.on hB) hx)
      obtain ⟨c0, c8⟩ := nine_at (hat.on hB) hx
      obtain ⟨d0, d8⟩ := no_cells hl
      have HT := Lib.hid (show forN (ns.take (i + 1)) l = keepN l acc x by rw [forN_take hx, HI.out])
      obtain ⟨w3, hst3, hl3, ho3⟩ := no_store hl x
      have HST3 := Lib.hid hst3
      have hr3 := hr.only ho3 (by omega)
      have hB3 := hB.trans (ho3.below (Nat.le_succ _) hB.size)
      have hacc : acc.isSome = false → (noVal acc).s = false := by
        intro h0
        cases acc with
        | none => rfl
        | some m => cases h0
      obtain ⟨S, eS⟩ : ∃ S, acc.isSome = S := ⟨_, rfl⟩
      obtain ⟨A, eA⟩ : ∃ A, (noVal acc).s = A := ⟨_, rfl⟩
      rw [eA] at d8 hacc
      rw [eS] at hacc ⊢
      clear hst3 hx hat d0
      by_cases he : x.l = l
      · have he' : (x.l == l) = true := by simpa using he
        by_cases hs2 : x.s = true ∨ (noVal acc).s = false
        · have HE := Lib.hid (show forN (ns.take (i + 1)) l = some x by rw [HT.out, keepN_takes he hs2])
          rw [eA] at hs2
          generalize x.s = X at c8 hs2
          clear he HT
          cases S
          · clear hacc hs2 d8 c8
            go_wp2_with (first | ((with_reducible refine wp_load_at HLD.out ?_ ?_); exact And.intro rfl (And.intro rfl rfl)) | ((with_reducible refine wp_store_at HST3.out ?_ ?_); exact And.intro rfl (And.intro rfl (And.intro rfl rfl))))
            go_roundg (n - (i + 1))
            case measure => omega
            case rel => exact ⟨i + 1, some x, rfl, by go_num, by omega, Lib.hid HE.out.symm, hl3, hr3, hB3⟩
          · clear hacc
            cases X
            · obtain rfl : A = false := hs2.resolve_left (by decide)
              clear hs2
              go_wp2_with (first | ((with_reducible refine wp_load_at HLD.out ?_ ?_); exact And.intro rfl (And.intro rfl rfl)) | ((with_reducible refine wp_store_at HST3.out ?_ ?_); exact And.intro rfl (And.intro rfl (And.intro rfl rfl))))
              go_roundg (n - (i + 1))
              case measure => omega
              case rel => exact ⟨i + 1, some x, rfl, by go_num, by omega, Lib.hid HE.out.symm, hl3, hr3, hB3⟩
            · clear hs2 d8
              go_wp2_with (first | ((with_reducible refine wp_load_at HLD.out ?_ ?_); exact And.intro rfl (And.intro rfl rfl)) | ((with_reducible refine wp_store_at HST3.out ?_ ?_); exact And.intro rfl (And.intro rfl (And.intro rfl rfl))))
              go_roundg (n - (i + 1))
              case measure => omega
              case rel => exact ⟨i + 1, some x, rfl, by go_num, by omega, Lib.hid HE.out.symm, hl3, hr3, hB3⟩
        · have HE := Lib.hid (show forN (ns.take (i + 1)) l = acc by rw [HT.out, keepN_leaves hs2])
          have hs3 : x.s = false := (Bool.eq_false_or_eq_true x.s).resolve_left (fun h => hs2 (Or.inl h))
          have hs5 : A = true := (Bool.eq_false_or_eq_true A).resolve_right (fun h => hs2 (Or.inr (by rw [eA, h])))
          subst hs5
          have hS : S = true := (Bool.eq_false_or_eq_true S).resolve_right (fun h => by have := hacc h; cases this)
          subst hS
          rw [hs3] at c8
          clear hs2 he HT hl3 hr3 HST3 hB3 ho3 hacc
          go_wp2_with fail
          go_roundg (n - (i + 1))
          case measure => omega
          case rel => exact ⟨i + 1, acc, by rw [eS], by go_num, by omega, Lib.hid HE.out.symm, hl, hr, hB⟩
      · have he' : (x.l == l) = false := by simpa using he
        have HE := Lib.hid (show forN (ns.take (i + 1)) l = acc by rw [HT.out, keepN_other he])
        clear d8 c8 HT hl3 hr3 HST3 hB3 ho3 hacc
        go_wp2_with fail
        go_roundg (n - (i + 1))
        case measure => omega
        case rel => exact ⟨i + 1, acc, by rw [eS], by go_num, by omega, Lib.hid HE.out.symm, hl, hr, hB⟩
    · have hlt' : ¬ (i : Int) < (n : Int) := by omega
      have HE := Lib.hid (show forN ns l = acc by have := HI.out; rw [List.take_of_length_le (by rw [HN.out]; omega)] at this; exact this.symm)
      have HL := Lib.hid (load_blk (P := Try.prog) (ty := 30) hl no_wide)
      obtain ⟨w3, hst3, hl3, ho3⟩ := HR.out wr (noVal acc) hr
      have HST3 := Lib.hid hst3
      have hB3 := hB.trans (ho3.below (Nat.le_refl _) hB.size)
      clear hst3 HA
      go_wp2_with (first | ((with_reducible refine wp_load_at HL.out ?_ ?_); exact And.intro rfl (And.intro rfl rfl)) | ((with_reducible refine wp_store_at HST3.out ?_ ?_); exact And.intro rfl (And.intro rfl (And.intro rfl rfl))))
      exact bodyPost_ret (results_wide2 (load_blk hl3 no_wide) rfl rfl) rfl ⟨by rw [← HE.out]; rfl, hB3⟩

end Go.Proofs.Ytmcjfjchpclamaa.B9
