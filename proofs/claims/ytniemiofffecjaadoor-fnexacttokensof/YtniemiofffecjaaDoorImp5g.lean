/- Contracts of chapter 5's functions (tokens): the program's TokensOf. -/
import Derived.Test.YtniemiofffecjaaDoorImp5f
namespace Go.Proofs.YtniemiofffecjaaDoor.B5
open Go.Proofs.YtniemiofffecjaaDoor.P1 Go.Proofs.YtniemiofffecjaaDoor.B1 Go.Proofs.YtniemiofffecjaaDoor.B2 Go.Proofs.YtniemiofffecjaaDoor.T1 Go.Proofs.YtniemiofffecjaaDoor.BT Go.Proofs.YtniemiofffecjaaDoor.P5 Go.Proofs.YtniemiofffecjaaDoor.D1
open Go.ChangeShapes Go.WideShapes Go.ChangeAt Go.RowKit
set_option linter.unusedVariables false

set_option maxRecDepth 20000 in
set_option maxHeartbeats 4000000 in
theorem TokensOf_impl (l : List UInt8) (w : World) (hl : l.length ≤ 1048576) :
    Calls Tryd.prog 11 #[.string ⟨l.toArray⟩] w (Tokens l w) := by
  obtain ⟨i0, hi, hz0, hz1, hz2⟩ := info_parts infoTok
  obtain ⟨L, eL⟩ : ∃ L, l.length = L := ⟨_, rfl⟩
  have hlen := fun (w' : World) (t : TypeId) => str_lenN l L eL w' t
  have hL1 : (L : Int) ≤ 1048576 := by omega
  have HLen := Lib.hid eL
  by_cases hbig : 4000 < L
  · have hbig' : (4000 : Int) < (L : Int) := by omega
    have Hx := Lib.hid (show tokensOf l = [] by unfold tokensOf; rw [if_pos (by omega)])
    clear hl eL hbig
    go_enter Tryd.func11, Tryd.ntmps11
    go_wp2
    go_ret
    exact ⟨_, rfl, by rw [Hx.out]; exact World.ownsRow_lit w #[] 0 (Nat.le_refl _) (by decide) rfl, (Below.refl _ _).alloc (Nat.le_refl _) _⟩
  · have hsm : ¬ (4000 : Int) < (L : Int) := by omega
    have HS := Lib.hid (show L ≤ 4000 by omega)
    have HX := Lib.hid (show tokensOf l = toks l by unfold tokensOf; rw [if_neg (by omega)])
    clear hl eL hbig
    go_enter Tryd.func11, Tryd.ntmps11
    go_wp2
    go_loopg [0, 3] L (fun kx s0 s3 wr => ∃ (r : List UInt8) (done : List Tok), s0 = .string ⟨r.toArray⟩ ∧ Hid (r.length = kx ∧ kx ≤ L) ∧ Toks wr s3 w.heap.size done ∧ Hid (toks l = done ++ toks r) ∧ Below w.heap.size w wr)
    case atStart => exact ⟨l, [], rfl, Lib.hid ⟨HLen.out, Nat.le_refl _⟩, World.ownsRow_lit w #[] 0 (Nat.le_refl _) (by decide) rfl, Lib.hid rfl, (Below.refl _ _).alloc (Nat.le_refl _) _⟩
    case round =>
      obtain ⟨r, done, rfl, hk, hown, I, hB⟩ := hrel
      have hrl := hk.out.1
      have hkL := hk.out.2
      have hL4 := HS.out
      have hlenr := fun (w' : World) (t : TypeId) => str_lenN r gk hrl w' t
      by_cases hlt : 0 < gk
      · have hlt' : (0 : Int) < (gk : Int) := by omega
        have hne : r ≠ [] := fun e => by rw [e] at hrl; simp at hrl; omega
        have hn1 := next_pos r
        have hn2 := next_len hne
        have hfew : done.length ≤ 4000 := by
          have h3 := toks_len l.length l (Nat.le_refl _)
          rw [I.out, List.length_append, HLen.out] at h3
          omega
        have HI := Lib.hid (show toks l = (done ++ [(nextTok r).1]) ++ toks (r.drop (nextTok r).2) by
          rw [I.out, toks_cons hne, List.append_assoc]; rfl)
        have HN := Lib.hid (fun w' => first_impl r w' hne (by omega))
        obtain ⟨x, ex⟩ : ∃ x, (nextTok r).1 = x := ⟨_, rfl⟩
        obtain ⟨m, em⟩ : ∃ m, (nextTok r).2 = m := ⟨_, rfl⟩
        unfold Firsts at HN
        rw [ex, em] at HI HN
        rw [em] at hn1 hn2
        obtain ⟨r2, er2⟩ : ∃ r2, r.drop m = r2 := ⟨_, rfl⟩
        have hfrom := str_from r m r2 er2 hn2
        have HK2 := Lib.hid (show r2.length = gk - m ∧ gk - m ≤ L ∧ gk - m < gk by rw [← er2, List.length_drop, hrl]; omega)
        have hm4 : (m : Int) ≤ 4000 := by omega
        rw [er2] at HI
        clear ex em I er2 hne hk hrl hkL hL4 hn1 hn2
        obtain ⟨k, t, n⟩ := x
        unfold tokV at HN
        dsimp only at HN
        go_wp2_with fail
        refine (HN.out _).mono ?_
        rintro e w2 ⟨rfl, g2⟩
        have hown2 := own_below hown g2
        have hB2 := hB.trans (g2.mono hB.size)
        go_wp2_with (at_builtin; refine wpList_append_own _ rfl _ _ 25 rfl w.heap.size 29 i0 _ 3 32 Tryd.underlying25 hi hz0 hz1 hz2 rfl (by decide) _ done.length (toksC done) rfl (World.ownsRow.alloc (World.ownsRow.alloc hown2 _) _) ⟨(w2.alloc (.cells #[.int .i64 k, .string ⟨t.toArray⟩, .int .i64 n] 29)).heap.size, 0, none⟩ 1 1 [.int .i64 k, .string ⟨t.toArray⟩, .int .i64 n] (by rw [World.size_alloc]; rfl) rfl (cell_three_new _ _ _ _ _) (by simp [Value.oneCell']) (by simp [maxLen]; omega) (by omega) (by have := hB2.size; simp; omega) ?_; intro v4 w4 hown4 hgrow4 _)
        go_roundg (gk - m)
        case measure => exact HK2.out.2.2
        case rel => exact ⟨r2, done ++ [⟨k, t, n⟩], rfl, Lib.hid ⟨HK2.out.1, HK2.out.2.1⟩, toks_more hown4, HI, ((hB2.alloc hB2.size _).alloc (hB2.alloc hB2.size _).size _).grown hgrow4 (by have := hB2.size; simp; omega) (fun k hk => (World.ownsRow.lt hown k hk).1)⟩
      · have hlt' : ¬ (0 : Int) < (gk : Int) := by omega
        have hr0 : r = [] := List.length_eq_zero_iff.1 (by omega)
        have HD := Lib.hid (show toks l = done by rw [I.out, hr0, toks_nil, List.append_nil])
        clear I hr0 hk hrl hkL hL4 hlt
        go_wp2
        go_ret
        exact ⟨_, rfl, by rw [HX.out, HD.out]; exact hown, hB⟩

end Go.Proofs.YtniemiofffecjaaDoor.B5
