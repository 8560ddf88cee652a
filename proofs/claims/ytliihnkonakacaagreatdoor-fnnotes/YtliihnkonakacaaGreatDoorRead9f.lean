/- Chapter 9: the program's ReadNotes. -/
import Derived.Test.YtliihnkonakacaaGreatDoorRead9e
namespace Go.Proofs.YtliihnkonakacaaGreatDoor.B9
open Go.Proofs.YtliihnkonakacaaGreatDoor.P1 Go.Proofs.YtliihnkonakacaaGreatDoor.B1 Go.Proofs.YtliihnkonakacaaGreatDoor.B2 Go.Proofs.YtliihnkonakacaaGreatDoor.T1 Go.Proofs.YtliihnkonakacaaGreatDoor.BT Go.Proofs.YtliihnkonakacaaGreatDoor.P5 Go.Proofs.YtliihnkonakacaaGreatDoor.P6 Go.Proofs.YtliihnkonakacaaGreatDoor.P8 Go.Proofs.YtliihnkonakacaaGreatDoor.P9 Go.Proofs.YtliihnkonakacaaGreatDoor.B5 Go.Proofs.YtliihnkonakacaaGreatDoor.B6 Go.Proofs.YtliihnkonakacaaGreatDoor.V6 Go.Proofs.YtliihnkonakacaaGreatDoor.B8 Go.Proofs.YtliihnkonakacaaGreatDoor.D1 Go.Proofs.YtliihnkonakacaaGreatDoor.W8 Go.Proofs.YtliihnkonakacaaGreatDoor.RC Go.Proofs.YtliihnkonakacaaGreatDoor.RI
open Go.ChangeShapes Go.WideShapes Go.ChangeAt Go.RowKit
set_option linter.unusedVariables false

/-- Notes of the call's own. -/
def NotesOf (ns : List No) (w : World) (e : Ending) (w' : World) : Prop := ∃ v, e = .returned v ∧ Own 56 9 w' v w.heap.size (noRs ns) ∧ v ≠ .slice none 0 0 ∧ Below w.heap.size w w'

theorem infoN9 : (Tryz.prog.info? 56).map (fun i => (i.zero, i.size, i.bytes)) = some (some (.agg #[.int .i64 0, .int .i64 0, .int .i64 0, .int .i64 0, .int .i64 0, .int .i64 0, .int .i64 0, .string ⟨#[]⟩, .bool false]), 9, 80) := by kernel_rfl

theorem own_start (w : World) : Own 56 9 (w.alloc (.cells #[] 56)) (.slice (some ⟨w.heap.size, 0, none⟩) 0 0) w.heap.size (noRs []) :=
  ⟨World.ownsRow_lit w #[] 0 (Nat.le_refl _) (by decide) rfl, fun r hr => by cases hr⟩

theorem take_done {ns done : List No} {more : Bool} {r : List No} (h : ns.take 12 = (done ++ if more = true then r else []).take 12) (hd : done.length ≤ 12) (he : more = false ∨ done.length = 12) : done = ns.take 12 := by
  rw [h]
  rcases he with rfl | he
  · simp [List.take_of_length_le hd]
  · rw [List.take_append_of_le_length (by omega), List.take_of_length_le (by omega)]

set_option maxRecDepth 20000 in
set_option maxHeartbeats 2000000 in
theorem ReadNotes_not (ts : List Tok) (v : Value) (w : World) (L : Pow w) (h : TokSlc w v ts) (hf : ∀ x ∈ ts, TokSm x) (hs : ts.length ≤ 1000000) (hno : ts.all tokOk = false) :
    Calls Tryz.prog 37 #[v] w (NotesOf (readNotes ts) w) := by
  have hB0 : Below w.heap.size w (w.alloc (.cells #[] 56)) := (Below.refl _ _).alloc (Nat.le_refl _) _
  have ho0 := own_start w
  have HA := Lib.hid (allOk_slc ts v _ (L.on hB0) (h.on hB0) (fun x hx => fit_of_sm (hf x hx)) (by omega))
  rw [all_sm hf, hno] at HA
  have HE := Lib.hid (show readNotes ts = [] by unfold readNotes; rw [hno]; rfl)
  obtain ⟨a0, cap0, rfl, _⟩ := h.form
  generalize ts.length = n0 at HA ⊢
  clear h hf L hs hno
  go_enter Tryz.func37, Tryz.ntmps37
  go_wp2_with (go_at_call 78; refine HA.out.mono ?_; rintro e w1 ⟨rfl, g1⟩)
  go_ret
  exact ⟨_, rfl, by rw [HE.out]; exact ⟨own_below ho0.1 g1, ho0.2⟩, (fun e => by cases e), hB0.trans (g1.mono hB0.size)⟩

theorem own_form9 {e : TypeId} {w : World} {v : Value} {B m : Nat} {rs : List (List Value)} (h : Own e m w v B rs) : ∃ a c, v = .slice a rs.length c := by
  rcases h.row with ⟨rfl, rfl⟩ | ⟨g, cap, rfl, _⟩
  · exact ⟨_, _, rfl⟩
  · exact ⟨_, _, rfl⟩

theorem cut_len {c : UInt8} {ts p q : List Tok} (h : cutT c ts = some (p, q)) : q.length + 1 ≤ ts.length := by
  unfold cutT placeT at h
  split at h
  · cases h
  · next i hi =>
    cases h
    rw [List.findIdx?_eq_some_iff_getElem] at hi
    obtain ⟨hl, _⟩ := hi
    rw [List.length_drop]
    omega

theorem no_ldE {w : World} {b : Nat} {n : No} (h : LBlk w b (noL n)) : (loadVar 56 ⟨b, 0, none⟩).run Tryz.prog w = .ok (.agg #[.int .i64 n.l, .int .i64 n.v.k, .int .i64 n.v.n, .int .i64 n.v.r, .int .i64 n.v.g, .int .i64 n.v.b, .int .i64 n.v.c, .string ⟨n.v.w.toArray⟩, .bool n.s]) w := load_blk h no_wide

theorem news9 {w : World} {b : Nat} {vs : List Value} (h : LBlk w b vs) : ∀ j u, vs[j]? = some u → w.cell? ((⟨b, 0, none⟩ : Addr).add j) = some u := fun j u hu => by
  rw [add_lit, Nat.zero_add]
  exact (h.2 j u hu).1

theorem own_snoc {w : World} {v : Value} {B d : Nat} {ns : List No} {x : No} (hd : ns.length = d) (h : w.ownsRow B 56 9 v (d + 1) ((noRs ns).flatten ++ noL x)) : Own 56 9 w v B (noRs (ns ++ [x])) := by
  have e : noRs (ns ++ [x]) = noRs ns ++ [noL x] := by unfold noRs; rw [List.map_append]; rfl
  rw [e]
  exact Own.more (noRs_nine ns) rfl (by rw [noRs_len, hd]; exact h)

set_option maxRecDepth 20000 in
set_option maxHeartbeats 4000000 in
theorem ReadNotes_right (ts : List Tok) (v : Value) (w : World) (L : Pow w) (h : TokSlc w v ts) (hf : ∀ x ∈ ts, TokSm x) (hs : ts.length ≤ 1000000) (hok : ts.all tokOk = true) :
    Calls Tryz.prog 37 #[v] w (NotesOf (readNotes ts) w) := by
  obtain ⟨i0, hi, hz0, hz1, hz2⟩ := info_parts infoN9
  have hB0 : Below w.heap.size w (w.alloc (.cells #[] 56)) := (Below.refl _ _).alloc (Nat.le_refl _) _
  have ho0 := own_start w
  have HA := Lib.hid (allOk_slc ts v _ (L.on hB0) (h.on hB0) (fun x hx => fit_of_sm (hf x hx)) (by omega))
  rw [all_sm hf, hok] at HA
  have HE := Lib.hid (show readNotes ts = (read9 ts).take 12 by unfold readNotes; rw [hok]; rfl)
  have HP := Lib.hid L
  have hR0 : ∀ x ∈ ts, TokR x := fun x hx => ⟨List.all_eq_true.1 hok x hx, hf x hx⟩
  have hsl0 := h
  obtain ⟨a0, cap0, rfl, _⟩ := h.form
  generalize hn0 : ts.length = n0 at HA hsl0 hs ⊢
  have HN0 := Lib.hid hn0
  clear h hf L hok hn0
  go_enter Tryz.func37, Tryz.ntmps37
  go_wp2_with (go_at_call 78; refine HA.out.mono ?_; rintro e w1 ⟨rfl, g1⟩)
  have hB1 := hB0.trans (g1.mono hB0.size)
  have ho1 : Own 56 9 w1 (.slice (some ⟨w.heap.size, 0, none⟩) 0 0) w.heap.size (noRs []) := ⟨own_below ho0.1 g1, ho0.2⟩
  clear HA ho0 hB0 g1
  go_loopg [0, 3, 4] (n0 + 1) (fun kx s0 s3 s4 wr => ∃ (rest : List Tok) (dn : List No) (more : Bool), TokSlc w s0 rest ∧ Own 56 9 wr s3 w.heap.size (noRs dn) ∧ s4 = .bool more ∧ dn.length ≤ 12 ∧ (∀ x ∈ rest, TokR x) ∧ Hid ((read9 ts).take 12 = (dn ++ if more = true then read9 rest else []).take 12) ∧ rest.length ≤ 1000000 ∧ (more = true → rest.length + 1 ≤ kx) ∧ s3 ≠ .slice none 0 0 ∧ Below w.heap.size w wr)
  case atStart => exact ⟨ts, [], true, hsl0, ho1, rfl, by decide, hR0, Lib.hid (by simp), by rw [HN0.out]; exact hs, fun _ => by rw [HN0.out]; exact Nat.le_refl _, (fun e => by cases e), hB1⟩
  case round =>
    obtain ⟨rest, dn, more, hsl, hown, rfl, hd12, hRR, HINV, hRL, hmk, hnn, hB⟩ := hrel
    have HRL := Lib.hid hRL
    clear ho1 hB1 hsl0 hR0 hRL
    obtain ⟨ar, cr, rfl, _⟩ := hsl.form
    obtain ⟨d, hd⟩ : ∃ d, dn.length = d := ⟨_, rfl⟩
    obtain ⟨a3, c3, rfl⟩ := own_form9 hown
    rw [noRs_len] at hown hnn ⊢
    have hnd : Value.slice a3 d c3 ≠ .slice none 0 0 := by rw [← hd]; exact hnn
    cases more
    · have HD := Lib.hid (take_done HINV.out hd12 (Or.inl rfl))
      go_wp2_with fail
      go_ret
      exact ⟨_, rfl, by rw [HE.out, ← HD.out]; exact hown, (by first | exact hnn | exact hnd), hB⟩
    · by_cases h12 : d = 12
      · have HD := Lib.hid (take_done HINV.out hd12 (Or.inr (hd.trans h12)))
        subst h12
        rw [hd]
        go_wp2_with fail
        go_ret
        exact ⟨_, rfl, by rw [HE.out, ← HD.out]; rw [hd] at hown; exact hown, (by first | exact hnn | exact hnd), hB⟩
      · have hlt : (d : Int) < 12 := by omega
        have hkx := hmk rfl
        have hrl : rest.length ≤ 1000000 := HRL.out
        have HC := Lib.hid (fun (W : World) (hW : Below wr.heap.size wr W) => cutAt_all 59 rest _ W ((hsl.on hB).on hW) (by omega))
        unfold Cuts2 at HC
        have hownd : wr.ownsRow w.heap.size 56 9 (.slice a3 d c3) d (noRs dn).flatten := by
          have := hown.1
          rw [noRs_len, hd] at this
          exact this
        rw [hd]
        generalize hrn : rest.length = rn at hsl HC hkx ⊢
        cases hc : cutT 59 rest with
        | none =>
          rw [hc] at HC
          have HQ := Lib.hid (read9_last hc (fun x hx => (hRR x hx).1))
          have HRP := Lib.hid hRR
          have HLP := Lib.hid hrl
          have HRR := Lib.hid (show ∀ x ∈ ([] : List Tok), TokR x from fun x hx => by cases hx)
          have hpW0 := hsl
          clear hc hmk hown hsl hRR hrl
          go_wp2_with (go_at_call 81; refine (sign_impl 59 _).mono ?_; rintro e ws ⟨rfl, gs⟩)
          refine (HC.out _ gs).mono ?_
          rintro e w1 ⟨p1, b1, is1, rfl, g1', rfl, rfl, rfl⟩
          have g1 := gs.trans (g1'.mono gs.size)
          clear g1' gs
          have hB1 := hB.trans (g1.mono hB.size)
          have hpW := hpW0
          clear HC hpW0
          have HRN := Lib.hid (readNote_impl rest _ w1 (HP.out.on hB1) (hpW.on hB1) HRP.out HLP.out)
          unfold ReadIs at HRN
          rw [piece_is (fun x hx => (HRP.out x hx).1) (fun x hx => mem_squeeze hx)] at HRN
          have HSL := Lib.hid (nil_slc w)
          have hown1 := own_below hownd g1
          clear hpW hownd
          cases hpc : piece rest with
          | none =>
            rw [hpc] at HRN
            have HT := Lib.hid (show (read9 ts).take 12 = (dn ++ if false = true then read9 ([] : List Tok) else []).take 12 by
              rw [HINV.out]; simp [HQ.out, hpc])
            clear hpc
            go_wp2_with fail
            refine HRN.out.mono ?_
            rintro e w2 ⟨rfl, g2⟩
            have hB2 := hB1.trans (g2.mono hB1.size)
            obtain ⟨w3, hst, hl3, g3⟩ := no_laid w2 (noVal none)
            have HST := Lib.hid hst
            have hB3 := hB2.trans (g3.mono hB2.size)
            have hown3 := own_below (own_below hown1 g2) g3
            clear hst hown1
            go_wp2_with ((with_reducible refine wp_store_at HST.out ?_ ?_); exact And.intro rfl (And.intro rfl (And.intro rfl rfl)))
            go_roundg 0
            case measure => omega
            case rel => exact ⟨([] : List Tok), dn, false, HSL.out, ⟨by rw [noRs_len, hd]; exact hown3, noRs_nine dn⟩, rfl, by omega, HRR.out, HT, by simp, (fun h => by cases h), (by first | exact hnd | exact hnn), hB3⟩
          | some nn =>
            rw [hpc] at HRN
            have HT := Lib.hid (show (read9 ts).take 12 = ((dn ++ [nn]) ++ if false = true then read9 ([] : List Tok) else []).take 12 by
              rw [HINV.out]; simp [HQ.out, hpc])
            clear hpc
            go_wp2_with fail
            refine HRN.out.mono ?_
            rintro e w2 ⟨rfl, g2⟩
            have hB2 := hB1.trans (g2.mono hB1.size)
            obtain ⟨w3, hst, hl3, g3⟩ := no_laid w2 (noVal (some nn))
            have HST := Lib.hid hst
            have hB3 := hB2.trans (g3.mono hB2.size)
            have hown3 := own_below (own_below hown1 g2) g3
            have HL3 := Lib.hid (no_ldE (n := nn) hl3)
            have hn6 := news9 (LBlk.new w3 (noL nn) 56)
            have hB4 := hB3.alloc hB3.size (.cells (noL nn).toArray 56)
            have hown4 := World.ownsRow.alloc hown3 (.cells (noL nn).toArray 56)
            have hmx : d + 1 ≤ maxLen := by unfold maxLen; omega
            clear hst hown1 hown3
            go_wp2_with (first | ((with_reducible refine wp_store_at HST.out ?_ ?_); exact And.intro rfl (And.intro rfl (And.intro rfl rfl))) | ((with_reducible refine wp_load_at HL3.out ?_ ?_); exact And.intro rfl (And.intro rfl rfl)) | (at_builtin; refine wpList_append_own _ rfl _ _ 49 rfl w.heap.size 56 i0 _ 9 80 Tryz.underlying49 hi hz0 hz1 hz2 rfl (by decide) _ d (noRs dn).flatten rfl hown4 ⟨w3.heap.size, 0, none⟩ 1 1 (noL nn) rfl rfl hn6 (fun u hu => List.all_eq_true.1 (noL_one nn) u hu) hmx (by omega) hB4.size ?_; intro v7 w7 hown7 hgrow7 hnil7))
            go_roundg 0
            case measure => omega
            case rel => exact ⟨([] : List Tok), dn ++ [nn], false, HSL.out, own_snoc hd hown7, rfl, by rw [List.length_append, hd]; simp; omega, HRR.out, HT, by simp, (fun h => by cases h), (fun e => by have := (hnil7.1 e).2; omega), hB4.grown hgrow7 hB4.size (fun k hk => (World.ownsRow.lt hown4 k hk).1)⟩
        | some xy =>
          obtain ⟨x1, y1⟩ := xy
          rw [hc] at HC
          have HQ := Lib.hid (read9_step hc (fun x hx => (hRR x hx).1))
          have hsub := cut_sub hc
          have hlen := cut_len hc
          have HRP := Lib.hid (fun x (hx : x ∈ x1) => hRR x (hsub.1 x hx))
          have HLP := Lib.hid (show x1.length ≤ 1000000 by have := hsub.2.2.1; omega)
          have HRR := Lib.hid (fun x (hx : x ∈ y1) => hRR x (hsub.2.1 x hx))
          have HLY := Lib.hid (show y1.length ≤ 1000000 by have := hsub.2.2.2; omega)
          have hyk : y1.length + 1 ≤ gk - 1 := by omega
          clear hc hmk hown hRR hrl hsub hlen
          go_wp2_with (go_at_call 81; refine (sign_impl 59 _).mono ?_; rintro e ws ⟨rfl, gs⟩)
          refine (HC.out _ gs).mono ?_
          rintro e w1 ⟨p1, b1, is1, rfl, g1', rfl, hW⟩
          have g1 := gs.trans (g1'.mono gs.size)
          clear g1' gs
          have hB1 := hB.trans (g1.mono hB.size)
          obtain ⟨hpW, hbW⟩ := hW w hsl
          clear HC hW hsl
          have hbW2 := hbW
          obtain ⟨ab, cb, rfl, _⟩ := hbW.form
          have HYK := Lib.hid hyk
          generalize y1.length = ny at hbW2 ⊢
          clear hbW hyk
          have HRN := Lib.hid (readNote_impl x1 p1 w1 (HP.out.on hB1) (hpW.on hB1) HRP.out HLP.out)
          unfold ReadIs at HRN
          rw [piece_is (fun x hx => (HRP.out x hx).1) (fun x hx => mem_squeeze hx)] at HRN
          have HSL := Lib.hid hbW2
          obtain ⟨ap, cp, rfl, _⟩ := hpW.form
          have hown1 := own_below hownd g1
          generalize x1.length = np at HRN ⊢
          clear hpW hownd
          cases hpc : piece x1 with
          | none =>
            rw [hpc] at HRN
            have HT := Lib.hid (show (read9 ts).take 12 = (dn ++ if true = true then read9 y1 else []).take 12 by
              rw [HINV.out]; simp [HQ.out, hpc])
            clear hpc
            go_wp2_with fail
            refine HRN.out.mono ?_
            rintro e w2 ⟨rfl, g2⟩
            have hB2 := hB1.trans (g2.mono hB1.size)
            obtain ⟨w3, hst, hl3, g3⟩ := no_laid w2 (noVal none)
            have HST := Lib.hid hst
            have hB3 := hB2.trans (g3.mono hB2.size)
            have hown3 := own_below (own_below hown1 g2) g3
            clear hst hown1
            go_wp2_with ((with_reducible refine wp_store_at HST.out ?_ ?_); exact And.intro rfl (And.intro rfl (And.intro rfl rfl)))
            go_roundg (gk - 1)
            case measure => omega
            case rel => exact ⟨y1, dn, true, HSL.out, ⟨by rw [noRs_len, hd]; exact hown3, noRs_nine dn⟩, rfl, by omega, HRR.out, HT, HLY.out, fun _ => HYK.out, (by first | exact hnd | exact hnn), hB3⟩
          | some nn =>
            rw [hpc] at HRN
            have HT := Lib.hid (show (read9 ts).take 12 = ((dn ++ [nn]) ++ if true = true then read9 y1 else []).take 12 by
              rw [HINV.out]; simp [HQ.out, hpc])
            clear hpc
            go_wp2_with fail
            refine HRN.out.mono ?_
            rintro e w2 ⟨rfl, g2⟩
            have hB2 := hB1.trans (g2.mono hB1.size)
            obtain ⟨w3, hst, hl3, g3⟩ := no_laid w2 (noVal (some nn))
            have HST := Lib.hid hst
            have hB3 := hB2.trans (g3.mono hB2.size)
            have hown3 := own_below (own_below hown1 g2) g3
            have HL3 := Lib.hid (no_ldE (n := nn) hl3)
            have hn6 := news9 (LBlk.new w3 (noL nn) 56)
            have hB4 := hB3.alloc hB3.size (.cells (noL nn).toArray 56)
            have hown4 := World.ownsRow.alloc hown3 (.cells (noL nn).toArray 56)
            have hmx : d + 1 ≤ maxLen := by unfold maxLen; omega
            clear hst hown1 hown3
            go_wp2_with (first | ((with_reducible refine wp_store_at HST.out ?_ ?_); exact And.intro rfl (And.intro rfl (And.intro rfl rfl))) | ((with_reducible refine wp_load_at HL3.out ?_ ?_); exact And.intro rfl (And.intro rfl rfl)) | (at_builtin; refine wpList_append_own _ rfl _ _ 49 rfl w.heap.size 56 i0 _ 9 80 Tryz.underlying49 hi hz0 hz1 hz2 rfl (by decide) _ d (noRs dn).flatten rfl hown4 ⟨w3.heap.size, 0, none⟩ 1 1 (noL nn) rfl rfl hn6 (fun u hu => List.all_eq_true.1 (noL_one nn) u hu) hmx (by omega) hB4.size ?_; intro v7 w7 hown7 hgrow7 hnil7))
            go_roundg (gk - 1)
            case measure => omega
            case rel => exact ⟨y1, dn ++ [nn], true, HSL.out, own_snoc hd hown7, rfl, by rw [List.length_append, hd]; simp; omega, HRR.out, HT, HLY.out, fun _ => HYK.out, (fun e => by have := (hnil7.1 e).2; omega), hB4.grown hgrow7 hB4.size (fun k hk => (World.ownsRow.lt hown4 k hk).1)⟩

end Go.Proofs.YtliihnkonakacaaGreatDoor.B9
