/- Chapter 9: FnNoHarm's walk. -/
import Derived.Test.YtliihnkonakacaaGreatDoorHarm9
import Derived.Test.YtliihnkonakacaaGreatDoorRead9f
import Derived.Test.YtliihnkonakacaaGreatDoorShow9i
import Derived.Test.YtliihnkonakacaaGreatDoorPlain9h
namespace Go.Proofs.YtliihnkonakacaaGreatDoor.B9
open Go.Proofs.YtliihnkonakacaaGreatDoor.P1 Go.Proofs.YtliihnkonakacaaGreatDoor.B1 Go.Proofs.YtliihnkonakacaaGreatDoor.B2 Go.Proofs.YtliihnkonakacaaGreatDoor.T1 Go.Proofs.YtliihnkonakacaaGreatDoor.BT Go.Proofs.YtliihnkonakacaaGreatDoor.P5 Go.Proofs.YtliihnkonakacaaGreatDoor.P6 Go.Proofs.YtliihnkonakacaaGreatDoor.P8 Go.Proofs.YtliihnkonakacaaGreatDoor.P9 Go.Proofs.YtliihnkonakacaaGreatDoor.B5 Go.Proofs.YtliihnkonakacaaGreatDoor.B6 Go.Proofs.YtliihnkonakacaaGreatDoor.D1 Go.Proofs.YtliihnkonakacaaGreatDoor.D2 Go.Proofs.YtliihnkonakacaaGreatDoor.W8 Go.Proofs.YtliihnkonakacaaGreatDoor.RC Go.Proofs.YtliihnkonakacaaGreatDoor.RI
open Go.ChangeShapes Go.WideShapes Go.ChangeAt Go.RowKit
set_option linter.unusedVariables false

theorem wpList_strip {P : Program} {ops : Array Oper} {Q : Exit → Act → World → Prop} {a : Act} {w : World} {rest : List Oper} {o : Oper}
    (hw : Region.wanted o (yielded ops a.tmps) = true) (h : wpList P ops Q ({ o with guard := none } :: rest) a w) : wpList P ops Q (o :: rest) a w := by
  simp only [wpList] at h ⊢
  rw [if_pos hw]
  rw [if_pos (by simp [Region.wanted])] at h
  exact h

theorem toks_right {s : List UInt8} (h : s.length ≤ 4000) : (∀ x ∈ tokensOf s, TokSm x) ∧ (tokensOf s).length ≤ 4000 ∧ (tokensOf s).all tokOk = true := by
  refine ⟨fun x hx => ?_, ?_, ?_⟩
  · obtain ⟨q1, q2, q3⟩ := D5.tokens_fit (s := s) x hx
    exact ⟨by omega, by omega, by omega⟩
  · unfold tokensOf
    rw [if_neg (by omega)]
    have := toks_len s.length s (Nat.le_refl _)
    omega
  · unfold tokensOf
    rw [if_neg (by omega)]
    exact List.all_eq_true.2 (toks_ok h)

/-- What is read of a text. -/
theorem read_text (s : List UInt8) (hs : s.length ≤ 4000) (u : Value) (B : Nat) (w : World) (L : B5.Pow w) (h : Toks w u B (tokensOf s)) : Calls Tryz.prog 37 #[u] w (NotesOf (readNotes (tokensOf s)) w) := by
  obtain ⟨h1, h2, h3⟩ := toks_right hs
  exact ReadNotes_right (tokensOf s) u w L (Toks.val h).slc h1 (by omega) h3

theorem toks_formH {W : World} {B : Nat} {v : Value} {ts : List Tok} (h : Toks W v B ts) : ∃ a c, v = .slice a ts.length c := by
  rcases h.2 with ⟨rfl, h0⟩ | ⟨g, cap, cur, rfl, _⟩
  · exact ⟨none, 0, by rw [h0]⟩
  · exact ⟨_, _, rfl⟩

theorem notes_blk {w : World} {v : Value} {B : Nat} {ns : List No} (h : Own 56 9 w v B (noRs ns)) (hn : v ≠ .slice none 0 0) : ∃ g cap, v = .slice (some ⟨g, 0, none⟩) ns.length cap := by
  rcases h.row with ⟨rfl, _⟩ | ⟨g, cap, rfl, _⟩
  · exact absurd rfl hn
  · exact ⟨g, cap, by rw [noRs_len]⟩

theorem picked9 {W : World} {b K : Nat} {ls : List (List UInt8)} (h : LBlk W b (wordsV ls)) (hK : K < ls.length) : ∃ s, s ∈ ls ∧ W.cell? ⟨b, K, none⟩ = some (.string ⟨s.toArray⟩) :=
  ⟨ls[K], List.getElem_mem hK, (h.2 K _ (by unfold wordsV; rw [List.getElem?_map, List.getElem?_eq_getElem hK]; rfl)).1⟩

theorem shown_few {ns : List No} (h : ns.length ≤ 6) : (read9 (toks (showNotes ns))).length ≤ 6 := by
  unfold showNotes
  split
  · next hok =>
    have hall : ∀ n ∈ ns, noteOk n = true := (notesOk_len hok).2
    rw [read_join ns hall]
    exact h
  · rw [toks_nil]
    have : read9 [] = [] := by kernel_rfl
    rw [this]
    simp

theorem rows_flat (ns : List No) : ∀ u ∈ (noRs ns).flatten, u.oneCell' = true := fun u hu => by
  obtain ⟨r, hr, hu⟩ := List.mem_flatten.1 hu
  obtain ⟨n, _, rfl⟩ := List.mem_map.1 hr
  exact List.all_eq_true.1 (noL_one n) u hu

set_option maxRecDepth 100000 in
set_option maxHeartbeats 8000000 in
theorem harm_walk (A0 : Option Addr) (len0 cap0 : Nat) (w : World) (w0 : len0 ≤ 4096 → Bytes w w.heap.size A0 len0) (L : B5.Pow w) :
    Calls Tryz.prog 10 #[.slice A0 len0 cap0] w (Ans (.bool true) w) := by
  obtain ⟨i0, hi', hz0, hz1, hz2⟩ := info_parts infoN9
  by_cases hbig : 4096 < len0
  · go_enter Tryz.func10, Tryz.ntmps10
    go_wp2
    go_ret
    exact ⟨rfl, Below.refl _ _⟩
  · have hb := w0 (by omega)
    have HBY := Lib.hid (fun w' (g : Below w.heap.size w w') => hb.below g)
    have HL := Lib.hid L
    clear w0 L
    go_enter Tryz.func10, Tryz.ntmps10
    go_wp2_with (first | (go_at_call 11; go_in) | fail)
    refine (ShowNotes_draw _ A0 len0 cap0 hb).mono ?_
    rintro e w1 ⟨v, ns, rfl, hv, hnd, hlen, g1⟩
    have HSS := Lib.hid (ShowNotes_spec ns v w1 hv (by omega) (fun n hn => by have := (hnd n hn).2.2; omega))
    have HFEW := Lib.hid (fun (h : ns.length ≤ 6) => shown_few h)
    have hsl := notes_len ns
    obtain ⟨av, cv, ev, _⟩ := hv.form
    obtain ⟨n, hn⟩ : ∃ n, ns.length = n := ⟨_, rfl⟩
    rw [hn] at ev HFEW
    subst ev
    obtain ⟨s, es⟩ : ∃ s, showNotes ns = s := ⟨_, rfl⟩
    rw [es] at HSS HFEW hsl
    have HSL := Lib.hid hsl
    clear hb hv hnd hn es hsl hlen
    go_wp2_with fail
    refine HSS.out.mono ?_
    rintro e w2 ⟨rfl, g2⟩
    have gb2 := g1.trans (g2.mono g1.size)
    clear g2 HSS
    by_cases h6 : 6 < n
    · have h6' : (6 : Int) < (n : Int) := by omega
      go_wp2_with fail
      go_ret
      exact ⟨rfl, gb2⟩
    · have h6' : ¬ (6 : Int) < (n : Int) := by omega
      have HA := Lib.hid (HFEW.out (by omega))
      have hla : LBlk (w2.alloc (.cells #[.string ⟨#[119, 104, 97, 116, 58, 32, 53]⟩, .string ⟨#[119, 105, 100, 101, 32, 55, 112, 120]⟩, .string ⟨#[99, 111, 108, 111, 114, 58, 32, 35, 102, 102]⟩, .string ⟨#[125]⟩, .string ⟨#[102, 111, 114, 109, 58, 32, 97, 32, 98]⟩, .string ⟨#[]⟩, .string ⟨#[99, 108, 101, 97, 114, 58, 32, 49, 48, 48, 49]⟩, .string ⟨#[108, 101, 102, 116, 58, 32, 53, 112, 120, 32, 33, 32, 115, 116, 114, 111, 110, 103]⟩, .string ⟨#[115, 104, 111, 119, 58, 32, 114, 111, 117, 110, 100]⟩] 9)) w2.heap.size (wordsV bads) := LBlk.new w2 (wordsV bads) 9
      have gb2a := gb2.alloc gb2.size (.cells #[.string ⟨#[119, 104, 97, 116, 58, 32, 53]⟩, .string ⟨#[119, 105, 100, 101, 32, 55, 112, 120]⟩, .string ⟨#[99, 111, 108, 111, 114, 58, 32, 35, 102, 102]⟩, .string ⟨#[125]⟩, .string ⟨#[102, 111, 114, 109, 58, 32, 97, 32, 98]⟩, .string ⟨#[]⟩, .string ⟨#[99, 108, 101, 97, 114, 58, 32, 49, 48, 48, 49]⟩, .string ⟨#[108, 101, 102, 116, 58, 32, 53, 112, 120, 32, 33, 32, 115, 116, 114, 111, 110, 103]⟩, .string ⟨#[115, 104, 111, 119, 58, 32, 114, 111, 117, 110, 100]⟩] 9)
      clear HFEW h6
      go_wp2_with fail
      refine (Pick_laws _ _ A0 len0 cap0 1 9 (HBY.out _ gb2a) (by omega) (by omega) (by omega) (by omega)).mono ?_
      rintro e w3 ⟨l1, hl10, hl11, rfl, rfl⟩
      obtain ⟨K, rfl⟩ : ∃ K : Nat, l1 = (K : Int) := ⟨l1.toNat, by omega⟩
      obtain ⟨bd, hbd, cs⟩ := picked9 hla (K := K) (by show K < 9; omega)
      have hbl : bd.length ≤ 20 := (show ∀ x ∈ bads, x.length ≤ 20 by decide) bd hbd
      have HBD := Lib.hid hbd
      have hK9 : (K : Int) < 9 := by omega
      have hK0 : (0 : Int) ≤ (K : Int) := by omega
      clear hla hbd hl10 hl11
      generalize w2.alloc (.cells #[.string ⟨#[119, 104, 97, 116, 58, 32, 53]⟩, .string ⟨#[119, 105, 100, 101, 32, 55, 112, 120]⟩, .string ⟨#[99, 111, 108, 111, 114, 58, 32, 35, 102, 102]⟩, .string ⟨#[125]⟩, .string ⟨#[102, 111, 114, 109, 58, 32, 97, 32, 98]⟩, .string ⟨#[]⟩, .string ⟨#[99, 108, 101, 97, 114, 58, 32, 49, 48, 48, 49]⟩, .string ⟨#[108, 101, 102, 116, 58, 32, 53, 112, 120, 32, 33, 32, 115, 116, 114, 111, 110, 103]⟩, .string ⟨#[115, 104, 111, 119, 58, 32, 114, 111, 117, 110, 100]⟩] 9) = W3 at *
      have hlg : LBlk (W3.alloc (.cells #[.string ⟨#[119, 105, 100, 101, 58, 32, 55, 112, 120]⟩, .string ⟨#[99, 108, 101, 97, 114, 58, 32, 57, 32, 33, 115, 116, 114, 111, 110, 103]⟩, .string ⟨#[102, 111, 114, 109, 58, 32, 114, 111, 117, 110, 100]⟩] 9)) W3.heap.size (wordsV goods) := LBlk.new W3 (wordsV goods) 9
      have gb3a := gb2a.alloc gb2a.size (.cells #[.string ⟨#[119, 105, 100, 101, 58, 32, 55, 112, 120]⟩, .string ⟨#[99, 108, 101, 97, 114, 58, 32, 57, 32, 33, 115, 116, 114, 111, 110, 103]⟩, .string ⟨#[102, 111, 114, 109, 58, 32, 114, 111, 117, 110, 100]⟩] 9)
      go_wp2_with fail
      refine (Pick_laws _ _ A0 len0 cap0 2 3 (HBY.out _ gb3a) (by omega) (by omega) (by omega) (by omega)).mono ?_
      rintro e w4 ⟨l2, hl20, hl21, rfl, rfl⟩
      obtain ⟨J, rfl⟩ : ∃ J : Nat, l2 = (J : Int) := ⟨l2.toNat, by omega⟩
      obtain ⟨gd, hgd, cg⟩ := picked9 hlg (K := J) (by show J < 3; omega)
      have hgl : gd.length ≤ 20 := (show ∀ x ∈ goods, x.length ≤ 20 by decide) gd hgd
      have hJ9 : (J : Int) < 3 := by omega
      have hJ0 : (0 : Int) ≤ (J : Int) := by omega
      have hsl := HSL.out
      have hfew := HA.out
      obtain ⟨T, eT⟩ : ∃ T, s ++ 59 :: (bd ++ 59 :: 32 :: gd) = T := ⟨_, rfl⟩
      have hTl : T.length ≤ 1000 := by rw [← eT]; simp; omega
      obtain ⟨s1, e1⟩ : ∃ s1, s ++ [59] = s1 := ⟨_, rfl⟩
      obtain ⟨s2, e2⟩ : ∃ s2, s1 ++ bd = s2 := ⟨_, rfl⟩
      obtain ⟨s3, e3⟩ : ∃ s3, s2 ++ [59, 32] = s3 := ⟨_, rfl⟩
      have e4 : s3 ++ gd = T := by rw [← e3, ← e2, ← e1, ← eT]; simp
      have l1 : s1.length ≤ 700 := by rw [← e1]; simp; omega
      have l2 : s2.length ≤ 800 := by rw [← e2]; simp; omega
      have l3 : s3.length ≤ 900 := by rw [← e3]; simp; omega
      have p1 := str_addT s [59] s1 e1 (by omega)
      have p2 := str_addT s1 bd s2 e2 (by omega)
      have p3 := str_addT s2 [59, 32] s3 e3 (by omega)
      have p4 := str_addT s3 gd T e4 (by omega)
      obtain ⟨hnh, hone⟩ := no_harm hfew HBD.out hgd (by rw [eT]; omega)
      rw [eT] at hnh
      have HTT := Lib.hid (fun w' => TokensOf_spec T w' (by omega))
      have HTS := Lib.hid (fun w' => TokensOf_spec s w' (by omega))
      have HTG := Lib.hid (fun w' => TokensOf_spec gd w' (by omega))
      have HRT := Lib.hid (fun u B w' (hb : Below w.heap.size w w') (h : Toks w' u B (tokensOf T)) => read_text T (by omega) u B w' (HL.out.on hb) h)
      have HRS := Lib.hid (fun u B w' (hb : Below w.heap.size w w') (h : Toks w' u B (tokensOf s)) => read_text s (by omega) u B w' (HL.out.on hb) h)
      have HRG := Lib.hid (fun u B w' (hb : Below w.heap.size w w') (h : Toks w' u B (tokensOf gd)) => read_text gd (by omega) u B w' (HL.out.on hb) h)
      have hyl : (readNotes (tokensOf s)).length ≤ 12 := by rw [read_short (by omega), List.length_take]; omega
      unfold B5.Tokens at HTT HTS HTG
      unfold NotesOf at HRT HRS HRG
      rw [hnh] at HRT
      obtain ⟨ys, hys⟩ : ∃ ys, readNotes (tokensOf s) = ys := ⟨_, rfl⟩
      obtain ⟨zs, hzs⟩ : ∃ zs, readNotes (tokensOf gd) = zs := ⟨_, rfl⟩
      rw [hys] at HRT HRS hyl
      rw [hzs] at HRT HRG hone
      obtain ⟨tT, etT⟩ : ∃ t, tokensOf T = t := ⟨_, rfl⟩
      obtain ⟨tS, etS⟩ : ∃ t, tokensOf s = t := ⟨_, rfl⟩
      obtain ⟨tG, etG⟩ : ∃ t, tokensOf gd = t := ⟨_, rfl⟩
      rw [etT] at HTT HRT
      rw [etS] at HTS HRS
      rw [etG] at HTG HRG
      obtain ⟨ny, hny⟩ : ∃ ny, ys.length = ny := ⟨_, rfl⟩
      have HNY := Lib.hid hny
      have HNZ := Lib.hid hone
      have hny12 : ny ≤ 12 := by omega
      clear hlg hgd hl20 hl21 hsl hfew eT hTl e1 e2 e3 e4 l1 l2 l3 hnh hys hzs etT etS etG hyl HSL HA HBD hbl hgl hny hone gb2 gb2a g1
      generalize W3.alloc (.cells #[.string ⟨#[119, 105, 100, 101, 58, 32, 55, 112, 120]⟩, .string ⟨#[99, 108, 101, 97, 114, 58, 32, 57, 32, 33, 115, 116, 114, 111, 110, 103]⟩, .string ⟨#[102, 111, 114, 109, 58, 32, 114, 111, 117, 110, 100]⟩] 9) = W4 at *
      go_wp2_with fail
      refine (HTT.out _).mono ?_
      rintro e w5 ⟨u5, rfl, hu5, g5⟩
      have gb5 := gb3a.trans (g5.mono gb3a.size)
      obtain ⟨a5, c5, e5⟩ := toks_formH hu5
      have HX5 := Lib.hid (HRT.out _ _ _ gb5 hu5)
      obtain ⟨n5, hn5⟩ : ∃ n5, tT.length = n5 := ⟨_, rfl⟩
      rw [hn5] at e5
      subst e5
      clear hu5 hn5 g5 HTT HRT p1 p2 p3 p4 cg cs
      go_wp2_with fail
      refine HX5.out.mono ?_
      rintro e w6 ⟨vx, rfl, hx, hxn, g6⟩
      have gb6 := gb5.trans (g6.mono gb5.size)
      obtain ⟨gx, cx, ex⟩ := notes_blk hx hxn
      obtain ⟨nx, hnx⟩ : ∃ nx, (ys ++ zs).length = nx := ⟨_, rfl⟩
      rw [hnx] at ex
      subst ex
      have HX := Lib.hid hx
      clear hx hxn hnx g6 HX5
      go_wp2_with fail
      refine (HTS.out _).mono ?_
      rintro e w7 ⟨u7, rfl, hu7, g7⟩
      have gb7 := gb6.trans (g7.mono gb6.size)
      obtain ⟨a7, c7, e7⟩ := toks_formH hu7
      have HX7 := Lib.hid (HRS.out _ _ _ gb7 hu7)
      have HXb := Lib.hid (HX.out.on g7)
      obtain ⟨n7, hn7⟩ : ∃ n7, tS.length = n7 := ⟨_, rfl⟩
      rw [hn7] at e7
      subst e7
      clear hu7 hn7 g7 HTS HRS HX
      go_wp2_with fail
      refine HX7.out.mono ?_
      rintro e w8 ⟨vy, rfl, hy, hyn, g8⟩
      have gb8 := gb7.trans (g8.mono gb7.size)
      have HXc := Lib.hid (HXb.out.on g8)
      obtain ⟨gy, cy, ey⟩ := notes_blk hy hyn
      rw [HNY.out] at ey
      subst ey
      have HY := Lib.hid hy
      clear hy hyn g8 HX7 HXb
      go_wp2_with fail
      refine (HTG.out _).mono ?_
      rintro e w9 ⟨u9, rfl, hu9, g9⟩
      have gb9 := gb8.trans (g9.mono gb8.size)
      obtain ⟨a9, c9, e9⟩ := toks_formH hu9
      have HX9 := Lib.hid (HRG.out _ _ _ gb9 hu9)
      have HXd := Lib.hid (HXc.out.on g9)
      have HYb := Lib.hid (HY.out.on g9)
      obtain ⟨n9, hn9⟩ : ∃ n9, tG.length = n9 := ⟨_, rfl⟩
      rw [hn9] at e9
      subst e9
      clear hu9 hn9 g9 HTG HRG HXc HY
      go_wp2_with fail
      refine HX9.out.mono ?_
      rintro e wr ⟨vz, rfl, hz, hzn, gr⟩
      have gbr := gb9.trans (gr.mono gb9.size)
      have HXe := Lib.hid (HXd.out.on gr)
      have HYc := Lib.hid (HYb.out.on gr)
      obtain ⟨gz, cz, ez⟩ := notes_blk hz hzn
      rw [HNZ.out] at ez
      subst ez
      have HZ := Lib.hid hz
      clear hz hzn gr HX9 HXd HYb
      have hfr : (wr.alloc (.cells #[] 56)).ownsRow wr.heap.size 56 9 (.slice (some ⟨wr.heap.size, 0, none⟩) 0 0) 0 [] := World.ownsRow_lit wr #[] 0 (Nat.le_refl _) (by decide) rfl
      have hGa : Below wr.heap.size wr (wr.alloc (.cells #[] 56)) := (Below.refl _ _).alloc (Nat.le_refl _) _
      have hya := (HYc.out.on hGa).1
      rw [noRs_len, HNY.out] at hya
      go_wp2_with (at_builtin; first
        | (refine wpList_strip rfl ?_
           refine wpList_append_own _ rfl _ _ 49 rfl wr.heap.size 56 i0 _ 9 80 Tryz.underlying49 hi' hz0 hz1 hz2 rfl (by decide) _ 0 [] rfl hfr ⟨gy, 0, none⟩ ny cy (noRs ys).flatten rfl hya.1 (World.ownsRow.cells hya (g := gy) rfl) (rows_flat ys) (by unfold maxLen; omega) (by omega) hGa.size ?_
           intro v7 w7 hown7 hgr7 _
           rw [Nat.zero_add, List.nil_append] at hown7
           have hG7 := hGa.grown hgr7 hGa.size (fun k' hk' => (World.ownsRow.lt hfr k' hk').1)
           have hz7 := (HZ.out.on hG7).1
           rw [noRs_len, HNZ.out] at hz7)
        | (refine wpList_strip rfl ?_
           refine wpList_append_own _ rfl _ _ 49 rfl wr.heap.size 56 i0 _ 9 80 Tryz.underlying49 hi' hz0 hz1 hz2 rfl (by decide) _ ny (noRs ys).flatten rfl hown7 ⟨gz, 0, none⟩ 1 cz (noRs zs).flatten rfl hz7.1 (World.ownsRow.cells hz7 (g := gz) rfl) (rows_flat zs) (by unfold maxLen; omega) (by omega) hG7.size ?_
           intro v8 wq hown8 hgr8 _
           have h8 : Own 56 9 wq v8 wr.heap.size (noRs (ys ++ zs)) := ⟨by rw [noRs_len, List.length_append, HNY.out, HNZ.out]; unfold noRs; rw [List.map_append, List.flatten_append]; exact hown8, noRs_nine _⟩
           have hG8 := hG7.grown hgr8 hG7.size (fun k' hk' => (World.ownsRow.lt hown7 k' hk').1)
           have HC := Lib.hid (likeNotes_same (ys ++ zs) _ _ _ (D9.noSlc_own (HXe.out.on hG8)) (D9.noSlc_own h8) (by rw [List.length_append, HNY.out, HNZ.out]; omega))
           obtain ⟨a8, c8, e8⟩ := own_form9 h8
           obtain ⟨M, hM⟩ : ∃ M, (noRs (ys ++ zs)).length = M := ⟨_, rfl⟩
           rw [hM] at e8
           subst e8
           clear hM h8))
      refine HC.out.mono ?_
      rintro e wt ⟨rfl, gt⟩
      go_wp2_with fail
      go_ret
      exact ⟨rfl, (gbr.trans (hG8.mono gbr.size)).trans (gt.mono (gbr.trans (hG8.mono gbr.size)).size)⟩

end Go.Proofs.YtliihnkonakacaaGreatDoor.B9
