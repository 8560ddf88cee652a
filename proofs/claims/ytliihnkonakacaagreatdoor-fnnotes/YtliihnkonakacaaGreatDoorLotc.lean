/- Chapter 9: the draws DrawReadNotes and DrawNoteOk. Chapter 9: the program's ShowNotes. Chapter 9: FnNotes' walk. From what a row lists of the package's variables to what the walks of chapters 9 and 10 ask of them. -/
import Derived.Test.YtliihnkonakacaaGreatDoorHarm9
import Derived.Test.YtliihnkonakacaaGreatDoorLotb
import Derived.Test.YtliihnkonakacaaGreatDoorDraw5
import Derived.Deep.DeepCutAuto
import Derived.Test.YtliihnkonakacaaGreatDoorSpec9b
import Derived.Test.YtliihnkonakacaaGreatDoorNote9
import Derived.Deep.RegionWith
import Derived.Test.YtliihnkonakacaaGreatDoorRows
import Derived.Test.YtliihnkonakacaaGreatDoorImp5f
import Derived.LaidLaws
import Derived.OpenShut
import Derived.Lib.LaidTab
import Derived.Shelf.Vars
import Derived.Stop.Joined
import Derived.MakeChecks
namespace Go.Proofs.YtliihnkonakacaaGreatDoor.B9
open Go.Proofs.YtliihnkonakacaaGreatDoor.P1 Go.Proofs.YtliihnkonakacaaGreatDoor.B1 Go.Proofs.YtliihnkonakacaaGreatDoor.B2 Go.Proofs.YtliihnkonakacaaGreatDoor.T1 Go.Proofs.YtliihnkonakacaaGreatDoor.BT Go.Proofs.YtliihnkonakacaaGreatDoor.P5 Go.Proofs.YtliihnkonakacaaGreatDoor.P6 Go.Proofs.YtliihnkonakacaaGreatDoor.P8 Go.Proofs.YtliihnkonakacaaGreatDoor.P9 Go.Proofs.YtliihnkonakacaaGreatDoor.B5 Go.Proofs.YtliihnkonakacaaGreatDoor.B6 Go.Proofs.YtliihnkonakacaaGreatDoor.D1 Go.Proofs.YtliihnkonakacaaGreatDoor.D2 Go.Proofs.YtliihnkonakacaaGreatDoor.W8 Go.Proofs.YtliihnkonakacaaGreatDoor.RC Go.Proofs.YtliihnkonakacaaGreatDoor.RI Go.Proofs.YtliihnkonakacaaGreatDoor.DB
open Go.ChangeShapes Go.WideShapes Go.ChangeAt Go.RowKit
set_option linter.unusedVariables false

/-- What the draw puts behind a text. -/
def tailWords : List (List UInt8) := [
  [59, 32, 119, 104, 97, 116, 58, 32, 53],
  [59, 59, 32],
  [59, 32, 119, 105, 100, 101, 32, 58, 32, 55, 112, 120, 32],
  [59, 32, 119, 105, 100, 101, 58, 32, 55],
  [59, 32, 99, 111, 108, 111, 114, 58, 35, 102, 102, 48, 48, 48, 48, 33, 115, 116, 114, 111, 110, 103],
  [59, 32, 102, 111, 114, 109, 58, 32, 97, 32, 98],
  [59, 32, 108, 101, 102, 116, 58, 32, 53, 112, 120, 32, 33, 32, 115, 116, 114, 111, 110, 103],
  [125]]

theorem tail_pick {W : World} {b K : Nat} {ls : List (List UInt8)} (h : LBlk W b (wordsV ls)) (hK : K < ls.length) : ∃ s, s ∈ ls ∧ W.cell? ⟨b, K, none⟩ = some (.string ⟨s.toArray⟩) :=
  ⟨ls[K], List.getElem_mem hK, (h.2 K _ (by unfold wordsV; rw [List.getElem?_map, List.getElem?_eq_getElem hK]; rfl)).1⟩

set_option maxRecDepth 20000 in
set_option maxHeartbeats 4000000 in
theorem l9DrawText_draw (w : World) (c : Nat) (a : Option Addr) (len cap : Nat) (h : Cur w c a len cap) :
    Calls Tryz.prog 77 #[.pointer (some ⟨c, 0, none⟩)] w (DrawnText 700 c a len cap w) := by
  have hF0 := Fr.refl h
  clear h
  go_enter Tryz.func77, Tryz.ntmps77
  go_wp2_with fail
  refine (D9.l9Draw_draw _ c a len cap 4 (by decide) (by decide) hF0.cur).mono ?_
  rintro e w2 ⟨v, ns, rfl, hv, hnd, hlen, hc2, ho2⟩
  have hF2 := hF0.call hc2 ho2
  have hSP := ShowNotes_spec ns v w2 (D9.noSlc_own hv) (by omega) (fun n hn => by have := (hnd n hn).2.2; omega)
  obtain ⟨ad, cp, rfl⟩ : ∃ a c, v = .slice a (noRs ns).length c := by
    rcases hv.row with ⟨rfl, h0⟩ | ⟨g, cap, rfl, _⟩
    · exact ⟨none, 0, by rw [h0]; rfl⟩
    · exact ⟨_, _, rfl⟩
  clear hF0 hc2 ho2
  generalize (noRs ns).length = nn at *
  go_wp2_with fail
  refine hSP.mono ?_
  rintro e w3 ⟨rfl, hb3⟩
  have hF3 := D5.fr_below hF2 hb3
  have hsh := notes_len ns
  generalize showNotes ns = s at *
  clear hF2 hb3 hSP hv hlen hnd
  go_wp2_with fail
  refine (Once_draw _ c a len cap 3 hF3.cur).mono ?_
  rintro e w4 ⟨q, rfl, hc4, ho4⟩
  have hF4 := hF3.call hc4 ho4
  clear hF3 hc4 ho4
  go_upto_if 8 with (fail)
  go_cut [3] (fun s3 wx => ∃ t : List UInt8, s3 = .string ⟨t.toArray⟩ ∧ t.length ≤ 660 ∧ Fr c a len cap w wx)
  case first =>
    cases q
    · go_wp2_with fail
      go_meet
      exact ⟨s, rfl, by omega, hF4⟩
    · have hFa := hF4.alloc (.cells #[.string ⟨#[59, 32, 119, 104, 97, 116, 58, 32, 53]⟩, .string ⟨#[59, 59, 32]⟩, .string ⟨#[59, 32, 119, 105, 100, 101, 32, 58, 32, 55, 112, 120, 32]⟩, .string ⟨#[59, 32, 119, 105, 100, 101, 58, 32, 55]⟩, .string ⟨#[59, 32, 99, 111, 108, 111, 114, 58, 35, 102, 102, 48, 48, 48, 48, 33, 115, 116, 114, 111, 110, 103]⟩, .string ⟨#[59, 32, 102, 111, 114, 109, 58, 32, 97, 32, 98]⟩, .string ⟨#[59, 32, 108, 101, 102, 116, 58, 32, 53, 112, 120, 32, 33, 32, 115, 116, 114, 111, 110, 103]⟩, .string ⟨#[125]⟩] 9)
      have hla : LBlk (w4.alloc (.cells #[.string ⟨#[59, 32, 119, 104, 97, 116, 58, 32, 53]⟩, .string ⟨#[59, 59, 32]⟩, .string ⟨#[59, 32, 119, 105, 100, 101, 32, 58, 32, 55, 112, 120, 32]⟩, .string ⟨#[59, 32, 119, 105, 100, 101, 58, 32, 55]⟩, .string ⟨#[59, 32, 99, 111, 108, 111, 114, 58, 35, 102, 102, 48, 48, 48, 48, 33, 115, 116, 114, 111, 110, 103]⟩, .string ⟨#[59, 32, 102, 111, 114, 109, 58, 32, 97, 32, 98]⟩, .string ⟨#[59, 32, 108, 101, 102, 116, 58, 32, 53, 112, 120, 32, 33, 32, 115, 116, 114, 111, 110, 103]⟩, .string ⟨#[125]⟩] 9)) w4.heap.size (wordsV tailWords) := LBlk.new w4 (wordsV tailWords) 9
      have hcr : w4.heap.size ≠ c := Nat.ne_of_gt hF4.cur.lt
      go_wp2_with fail
      refine (Below_draw _ c a len cap 8 hFa.cur).mono ?_
      rintro e w5 ⟨l, ⟨hl0, hl1, _⟩, rfl, hc5, ho5⟩
      have hl1' := hl1 (by omega)
      obtain ⟨K, rfl⟩ : ∃ K : Nat, l = (K : Int) := ⟨l.toNat, by omega⟩
      have hF5 := hFa.call hc5 ho5
      obtain ⟨t, htm, ct⟩ := tail_pick (hla.only ho5 hcr) (K := K) (by show K < 8; omega)
      have ht : t.length ≤ 30 := by
        have : ∀ x ∈ tailWords, x.length ≤ 30 := by decide
        exact this t htm
      have hK3 : (K : Int) < 8 := by omega
      have hK0 : (0 : Int) ≤ (K : Int) := by omega
      obtain ⟨u, hu⟩ : ∃ u, s ++ t = u := ⟨_, rfl⟩
      have hul : u.length ≤ 660 := by rw [← hu, List.length_append]; omega
      have hadd := str_addT s t u hu (by omega)
      clear hF4 hFa hla hcr hc5 ho5 hl0 hl1 hl1' htm hu
      go_wp2_with fail
      go_meet
      exact ⟨u, rfl, hul, hF5⟩
  case rest =>
    obtain ⟨t, rfl, ht, hF⟩ := hcut
    clear hF4 hsh
    go_wp2_with fail
    refine (Once_draw _ c a len cap 5 hF.cur).mono ?_
    rintro e w6 ⟨q, rfl, hc6, ho6⟩
    have hF6 := hF.call hc6 ho6
    clear hF hc6 ho6
    cases q
    · go_wp2_with fail
      go_ret
      exact ⟨t, by omega, rfl, hF6.cur, hF6.only⟩
    · go_wp2_with fail
      refine (Bend_draw _ c a len cap hF6.cur t [59, 58, 53, 112, 120, 32, 33] (by omega) (by decide) (by decide)).mono ?_
      rintro e w7 ⟨u, hu, rfl, hc7, ho7⟩
      have hF7 := hF6.call hc7 ho7
      go_wp2_with fail
      go_ret
      exact ⟨u, by omega, rfl, hF7.cur, hF7.only⟩

/-- Some tokens, drawn or of a short text. -/
def GivenT9 (w : World) (e : Ending) (w' : World) : Prop := ∃ v ts, e = .returned v ∧ TokVal w' v ts ∧ (∀ x ∈ ts, TokSm x) ∧ ts.length ≤ 1000 ∧ Below w.heap.size w w'

set_option maxRecDepth 20000 in
set_option maxHeartbeats 2000000 in
theorem ReadNotes_draw (w : World) (a : Option Addr) (len cap : Nat) (h : Bytes w w.heap.size a len) :
    Calls Tryz.prog 36 #[.slice a len cap] w (GivenT9 w) := by
  go_enter Tryz.func36, Tryz.ntmps36
  go_wp2_with fail
  refine (New_draw _ a len cap h).mono ?_
  rintro e w1 ⟨rfl, hc1, ho1⟩
  have hF1 : Fr w.heap.size a len cap w w1 := ⟨hc1, ho1, h⟩
  clear hc1 ho1 h
  go_wp2_with fail
  refine (Once_draw _ w.heap.size a len cap 8 hF1.cur).mono ?_
  rintro e w2 ⟨q, rfl, hc2, ho2⟩
  have hF2 := hF1.call hc2 ho2
  clear hF1 hc2 ho2
  cases q
  · go_wp2_with fail
    refine (l9DrawText_draw _ w.heap.size a len cap hF2.cur).mono ?_
    rintro e w3 ⟨t, ht, rfl, hc3, ho3⟩
    have hF3 := hF2.call hc3 ho3
    have hB3 := hF3.only.below (Nat.le_refl _) (Nat.le_refl _)
    have hTS := TokensOf_spec t w3 (by omega)
    clear hF2 hc3 ho3
    go_wp2_with fail
    refine hTS.mono ?_
    rintro e w4 ⟨v, rfl, hv, g4⟩
    have hv' := Toks.val hv
    have hfit : ∀ x ∈ tokensOf t, TokSm x := fun x hx => by
      obtain ⟨q1, q2, q3⟩ := D5.tokens_fit (s := t) x hx
      exact ⟨by omega, by omega, by omega⟩
    have hfew : (tokensOf t).length ≤ 1000 := by
      unfold tokensOf
      rw [if_neg (by omega)]
      have := toks_len t.length t (Nat.le_refl _)
      omega
    obtain ⟨av, cv, rfl, _⟩ := hv'.form
    clear hv hTS hF3
    generalize tokensOf t = ts at *
    generalize hnt : ts.length = n at *
    go_wp2_with fail
    go_ret
    exact ⟨_, ts, rfl, hv', hfit, by omega, hB3.trans (g4.mono hB3.size)⟩
  · go_wp2_with fail
    refine (D5.l5DrawTokens_draw _ w.heap.size a len cap hF2.cur).mono ?_
    rintro e w3 ⟨v, ts, rfl, hv, htd, hlen, _, hc3, ho3⟩
    have hF3 := hF2.call hc3 ho3
    have hB3 := hF3.only.below (Nat.le_refl _) (Nat.le_refl _)
    have hfit : ∀ x ∈ ts, TokSm x := fun x hx => by
      obtain ⟨q1, q2, q3⟩ := htd x hx
      exact ⟨by omega, by omega, by omega⟩
    obtain ⟨av, cv, rfl, _⟩ := hv.form
    clear hF2 hF3 hc3 ho3
    generalize hnt : ts.length = n at *
    go_wp2_with fail
    go_ret
    exact ⟨_, ts, rfl, hv, hfit, by omega, hB3⟩

/-- A note that is small. -/
def GivenNt (w : World) (e : Ending) (w' : World) : Prop := ∃ n, e = .returned (noV n) ∧ D9.NoD n ∧ Below w.heap.size w w'

set_option maxRecDepth 20000 in
set_option maxHeartbeats 2000000 in
theorem NoteOk_draw (w : World) (a : Option Addr) (len cap : Nat) (h : Bytes w w.heap.size a len) :
    Calls Tryz.prog 38 #[.slice a len cap] w (GivenNt w) := by
  have hr0 : LBlk (w.alloc (.cells #[.int .i64 0, .int .i64 0, .int .i64 0, .int .i64 0, .int .i64 0, .int .i64 0, .int .i64 0, .string ⟨#[]⟩, .bool false] 56)) w.heap.size (noL No.zero) := LBlk.new w _ _
  have hB0 : Below w.heap.size w (w.alloc (.cells #[.int .i64 0, .int .i64 0, .int .i64 0, .int .i64 0, .int .i64 0, .int .i64 0, .int .i64 0, .string ⟨#[]⟩, .bool false] 56)) := (Below.refl _ _).alloc (Nat.le_refl _) _
  have hb0 := h.below hB0
  clear h
  go_enter Tryz.func38, Tryz.ntmps38
  go_wp2_with fail
  generalize w.alloc (.cells #[.int .i64 0, .int .i64 0, .int .i64 0, .int .i64 0, .int .i64 0, .int .i64 0, .int .i64 0, .string ⟨#[]⟩, .bool false] 56) = W0 at *
  refine (New_draw _ a len cap hb0).mono ?_
  rintro e w1 ⟨rfl, hc1, ho1⟩
  have hF1 : Fr W0.heap.size a len cap W0 w1 := ⟨hc1, ho1, hb0⟩
  clear hc1 ho1 hb0
  go_wp2_with fail
  refine (D9.l9DrawAny_draw _ W0.heap.size a len cap hF1.cur).mono ?_
  rintro e w2 ⟨v, ns, rfl, hv, hnd, hlen, _, hc2, ho2⟩
  have hF2 := hF1.call hc2 ho2
  have hB2 : Below W0.heap.size W0 w2 := hF2.only.below (Nat.le_refl _) (Nat.le_refl _)
  have hB := hB0.trans (hB2.mono hB0.size)
  have hr2 := hr0.below hB2
  obtain ⟨a3, c3, rfl, hnc, _, HA⟩ := hv.form
  clear hF1 hF2 hc2 ho2 hr0 hB0 hB2
  cases ns with
  | nil =>
    obtain ⟨w9, hst9, hl9, ho9⟩ := no_store (o := No.zero) hr2 No.zero
    have HST9 := Lib.hid hst9
    clear hst9
    go_wp2_with ((with_reducible refine wp_store_at HST9.out ?_ ?_); exact And.intro rfl (And.intro rfl (And.intro rfl rfl)))
    exact bodyPost_ret (results_wide (load_blk hl9 no_wide) rfl rfl) rfl ⟨No.zero, rfl, ⟨by decide, by decide, by decide⟩, hB.trans (ho9.below (Nat.le_refl _) hB.size)⟩
  | cons n rest =>
    obtain ⟨g, off, rfl, hat⟩ := HA (by simp)
    have HLD := Lib.hid (show (loadVar 56 ⟨g, off, none⟩).run Tryz.prog w2 = .ok (noV n) w2 by have := no_load hat (i := 0) (n := n) rfl; rwa [Nat.zero_mul, Nat.add_zero] at this)
    obtain ⟨w9, hst9, hl9, ho9⟩ := no_store (o := No.zero) hr2 n
    have HST9 := Lib.hid hst9
    have hn := hnd n (by simp)
    obtain ⟨d, hd⟩ : ∃ d, (n :: rest).length = d := ⟨_, rfl⟩
    rw [hd] at hlen hnc ⊢
    have hd0 : ((d : Int) == 0) = false := by rw [List.length_cons] at hd; simp; omega
    have hd1 : (0 : Int) < (d : Int) := by rw [List.length_cons] at hd; omega
    clear hst9 hat HA hv hnd hd
    go_wp2_with (first | ((with_reducible refine wp_load_at HLD.out ?_ ?_); exact And.intro rfl (And.intro rfl rfl)) | ((with_reducible refine wp_store_at HST9.out ?_ ?_); exact And.intro rfl (And.intro rfl (And.intro rfl rfl))))
    exact bodyPost_ret (results_wide (load_blk hl9 no_wide) rfl rfl) rfl ⟨n, rfl, hn, hB.trans (ho9.below (Nat.le_refl _) hB.size)⟩

end Go.Proofs.YtliihnkonakacaaGreatDoor.B9

namespace Go.Proofs.YtliihnkonakacaaGreatDoor.B9
open Go.Proofs.YtliihnkonakacaaGreatDoor.P1 Go.Proofs.YtliihnkonakacaaGreatDoor.B1 Go.Proofs.YtliihnkonakacaaGreatDoor.B2 Go.Proofs.YtliihnkonakacaaGreatDoor.T1 Go.Proofs.YtliihnkonakacaaGreatDoor.BT Go.Proofs.YtliihnkonakacaaGreatDoor.P5 Go.Proofs.YtliihnkonakacaaGreatDoor.P6 Go.Proofs.YtliihnkonakacaaGreatDoor.P8 Go.Proofs.YtliihnkonakacaaGreatDoor.P9 Go.Proofs.YtliihnkonakacaaGreatDoor.B5 Go.Proofs.YtliihnkonakacaaGreatDoor.B6 Go.Proofs.YtliihnkonakacaaGreatDoor.V6 Go.Proofs.YtliihnkonakacaaGreatDoor.B8 Go.Proofs.YtliihnkonakacaaGreatDoor.D1 Go.Proofs.YtliihnkonakacaaGreatDoor.W8 Go.Proofs.YtliihnkonakacaaGreatDoor.RC Go.Proofs.YtliihnkonakacaaGreatDoor.RI
open Go.ChangeShapes Go.WideShapes Go.ChangeAt Go.RowKit
set_option linter.unusedVariables false

/-- strings.Join with a sign and a blank, over a row of texts. -/
theorem join9_at (ls : List (List UInt8)) (n bk cap : Nat) (w : World) (hn : ls.length = n) (hcells : ∀ k l, ls[k]? = some l → w.cell? ⟨bk, k, none⟩ = some (.string ⟨l.toArray⟩)) (hbk : bk < w.heap.size) (hcap : n ≤ cap) (hs : n ≤ 100) (hlen : (joinBy [59, 32] ls).length ≤ 1000) :
    Calls Tryz.prog 47 #[.slice (some ⟨bk, 0, none⟩) n cap, .string ⟨#[59, 32]⟩] w (Ans (.string ⟨(joinBy [59, 32] ls).toArray⟩) w) := by
  subst hn
  have e1 : (ls.map fun l => (⟨l.toArray⟩ : ByteArray)).map (·.data.toList) = ls := by simp [Function.comp_def]
  have e2 : (ls.map fun l => (⟨l.toArray⟩ : ByteArray)).length = ls.length := by simp
  rw [← joinBy_is] at hlen ⊢
  have h := Tryz.strings_Join bk 0 cap (ls.map fun l => (⟨l.toArray⟩ : ByteArray)) ⟨#[59, 32]⟩ w (fun k x hx => by
      rw [List.getElem?_map] at hx
      cases hl : ls[k]? with
      | none => rw [hl] at hx; cases hx
      | some l =>
        rw [hl] at hx
        cases hx
        rw [Nat.zero_add]
        exact hcells k l hl) hbk (by rw [e2]; omega) (by rw [e2]; exact hcap) (by rw [e1]; exact Nat.le_trans hlen (by decide))
  rw [e1, e2] at h
  exact h

set_option maxRecDepth 20000 in
set_option maxHeartbeats 2000000 in
theorem ShowNotes_impl (ns : List No) (v : Value) (w : World) (L : Pow w) (h : NoSlc w v ns) (hs : ns.length ≤ 2000000) (hx : ∀ n ∈ ns, NoF n) :
    Calls Tryz.prog 35 #[v] w (Ans (.string ⟨(showNotes ns).toArray⟩) w) := by
  obtain ⟨i0, hi, hz0, hz1, hz2⟩ := info_parts infoStr
  have HK := Lib.hid (notesOk_impl ns v w L h hs hx)
  have HV := Lib.hid h
  have HP := Lib.hid L
  have HX := Lib.hid hx
  obtain ⟨a, cap, rfl, hnc, hcap, HA⟩ := h.form
  obtain ⟨n, hn⟩ : ∃ n, ns.length = n := ⟨_, rfl⟩
  rw [hn] at HK HV hnc ⊢
  have HN := Lib.hid hn
  replace HA := Lib.hid HA
  have hnc' : (n : Int) ≤ (cap : Int) := by omega
  clear h hs hx hn L hcap
  cases ho : notesOk ns
  · have HE := Lib.hid (show showNotes ns = [] by unfold showNotes; rw [ho]; rfl)
    rw [ho] at HK
    clear ho
    go_enter Tryz.func35, Tryz.ntmps35
    go_wp2_with (go_at_call 73; refine HK.out.mono ?_; rintro e w1 ⟨rfl, g1⟩)
    go_ret
    exact ⟨by rw [HE.out]; rfl, g1⟩
  · have HE := Lib.hid (show showNotes ns = joinBy [59, 32] (ns.map showNote) by unfold showNotes; rw [ho]; rfl)
    have HOK := Lib.hid (notesOk_len ho)
    have hn12 : n ≤ 12 := by have := HOK.out.1; rw [HN.out] at this; exact this
    have h12' : (n : Int) ≤ 12 := by omega
    rw [ho] at HK
    clear ho
    go_enter Tryz.func35, Tryz.ntmps35
    go_wp2_with (go_at_call 73; refine HK.out.mono ?_; rintro e w1 ⟨rfl, g1⟩)
    have ho1 : Words (w1.alloc (.cells #[] 9)) (.slice (some ⟨w1.heap.size, 0, none⟩) 0 0) w1.heap.size [] := World.ownsRow_lit w1 #[] 0 (Nat.le_refl _) (by decide) rfl
    have hB1 : Below w1.heap.size w1 (w1.alloc (.cells #[] 9)) := (Below.refl _ _).alloc (Nat.le_refl _) _
    go_loopg [3, 12] n (fun kx s3 s12 wr => ∃ i : Nat, s12 = .int .i64 (i : Int) ∧ kx + i = n ∧ Words wr s3 w1.heap.size ((ns.take i).map showNote) ∧ (i = 0 → s3 = .slice (some ⟨w1.heap.size, 0, none⟩) 0 0) ∧ w1.heap.size < wr.heap.size ∧ Below w1.heap.size w1 wr)
    case atStart => exact ⟨0, rfl, by omega, ho1, fun _ => rfl, by simp, hB1⟩
    case round =>
      obtain ⟨i, rfl, hk, hown, hz, hlt1, hB⟩ := hrel
      clear ho1 hB1
      by_cases hlt : i < n
      · have hlt' : (i : Int) < (n : Int) := by omega
        have i0' : (0 : Int) ≤ (i : Int) := by omega
        obtain ⟨x, hx⟩ : ∃ x, ns[i]? = some x := ⟨_, List.getElem?_eq_getElem (by rw [HN.out]; exact hlt)⟩
        obtain ⟨g, off, rfl, hat⟩ := HA.out (by intro e0; rw [e0] at hx; cases hx)
        have hBw := g1.trans (hB.mono g1.size)
        have HLD := Lib.hid (no_load (hat.on hBw) hx)
        obtain ⟨w2, hst, hl2, g2⟩ := no_laid wr x
        have HST := Lib.hid hst
        have hB2 := hB.trans (g2.mono hB.size)
        have hBw2 := hBw.trans (g2.mono hBw.size)
        have HL2 := Lib.hid (show (loadVar 56 ⟨wr.heap.size, 0, none⟩).run Tryz.prog w2 = .ok (noV x) w2 from load_blk hl2 no_wide)
        have HT := Lib.hid (noteText_impl x w2 (HP.out.on hBw2) (HX.out x (List.mem_of_getElem? hx)) (HOK.out.2 x (List.mem_of_getElem? hx)))
        have HTK := Lib.hid (show (ns.take i).map showNote ++ [showNote x] = (ns.take (i + 1)).map showNote by rw [List.take_add_one, hx, List.map_append]; rfl)
        have ht1 : ((ns.take i).map showNote).length = i := by rw [List.length_map, List.length_take, HN.out]; omega
        obtain ⟨a3, c3, rfl, _⟩ := words_form hown
        rw [ht1]
        have hown' : w2.ownsRow w1.heap.size 9 1 (.slice a3 i c3) i (wordsV ((ns.take i).map showNote)) := by
          have := hown
          unfold Words at this
          rw [ht1] at this
          exact own_below this g2
        have HT1 := Lib.hid ht1
        clear hx hat hst hl2 hown hz ht1
        go_wp2_with (first | (go_at_call 74; refine HT.out.mono ?_; rintro e w3 ⟨rfl, g3⟩; have hown3 := own_below hown' g3; have hB3 := hB2.trans (g3.mono hB2.size)) | (at_builtin; refine wpList_append_own _ rfl _ _ 35 rfl w1.heap.size 9 i0 _ 1 16 Tryz.underlying35 hi hz0 hz1 hz2 rfl (by decide) _ i (wordsV ((ns.take i).map showNote)) rfl (World.ownsRow.alloc hown3 _) ⟨w3.heap.size, 0, none⟩ 1 1 [.string ⟨(showNote x).toArray⟩] rfl rfl (cell_one_new _ _ _) (by simp [Value.oneCell']) (by simp [maxLen]; omega) (by omega) (by have := hB3.size; simp; omega) ?_; intro v4 w4 hown4 hgrow4 _) | ((with_reducible refine wp_load_at HLD.out ?_ ?_); exact And.intro rfl (And.intro rfl rfl)) | ((with_reducible refine wp_load_at HL2.out ?_ ?_); exact And.intro rfl (And.intro rfl rfl)) | ((with_reducible refine wp_store_at HST.out ?_ ?_); exact And.intro rfl (And.intro rfl (And.intro rfl rfl))))
        go_roundg (n - (i + 1))
        case measure => omega
        case rel => exact ⟨i + 1, by go_num, by omega, by rw [← HTK.out]; exact words_more (by rw [HT1.out]; exact hown4), fun h0 => absurd h0 (Nat.succ_ne_zero i), by have h1 := hgrow4.size; have h2 := g3.size; have h3 := g2.size; simp at h1; omega, (hB3.alloc hB3.size _).grown hgrow4 (by have := hB3.size; simp; omega) (fun k hk => (World.ownsRow.lt hown3 k hk).1)⟩
      · have hlt' : ¬ (i : Int) < (n : Int) := by omega
        have hin : i = n := by omega
        have hD : (ns.take i).map showNote = ns.map showNote := by rw [List.take_of_length_le (by rw [HN.out]; omega)]
        have ht1 : (ns.map showNote).length = n := by rw [List.length_map, HN.out]
        rw [hD] at hown
        have hlen : (joinBy [59, 32] (ns.map showNote)).length ≤ 1000 := by
          have := join_len (m := 50) (b := [59, 32]) (xs := ns.map showNote) (fun l hl => by
            obtain ⟨y, hy, rfl⟩ := List.mem_map.1 hl
            exact note_len (HOK.out.2 y hy))
          rw [ht1] at this
          have h2 : n * (50 + [59, 32].length) ≤ 12 * 52 := Nat.mul_le_mul hn12 (by decide)
          omega
        obtain ⟨a3, c3, rfl, hc3, h3⟩ := words_form hown
        rw [ht1] at hz hc3 ⊢
        have hj : ∃ bk, a3 = some ⟨bk, 0, none⟩ ∧ Calls Tryz.prog 47 #[.slice (some ⟨bk, 0, none⟩) n c3, .string ⟨#[59, 32]⟩] wr (Ans (.string ⟨(joinBy [59, 32] (ns.map showNote)).toArray⟩) wr) := by
          by_cases h0 : n = 0
          · have hv := hz (by omega)
            injection hv with q1 q2 q3
            exact ⟨w1.heap.size, q1, join9_at (ns.map showNote) n w1.heap.size c3 wr ht1 (fun k l hkl => by
              rw [List.length_eq_zero_iff.1 (ht1.trans h0)] at hkl; simp at hkl) hlt1 hc3 (by omega) hlen⟩
          · obtain ⟨gk, rfl, hgk, hcell⟩ := h3 (by intro e0; rw [e0] at ht1; simp at ht1; omega)
            exact ⟨gk, rfl, join9_at (ns.map showNote) n gk c3 wr ht1 hcell hgk hc3 (by omega) hlen⟩
        obtain ⟨bk, rfl, hjoin⟩ := hj
        have HJ := Lib.hid hjoin
        have hBw := g1.trans (hB.mono g1.size)
        clear hjoin hown hz hlen ht1 hD h3 hc3
        go_wp2_with (go_at_call 47; refine HJ.out.mono ?_; rintro e w2 ⟨rfl, g2⟩)
        go_ret
        exact ⟨by rw [HE.out]; rfl, hBw.trans (g2.mono hBw.size)⟩

end Go.Proofs.YtliihnkonakacaaGreatDoor.B9

namespace Go.Proofs.YtliihnkonakacaaGreatDoor.B9
open Go.Proofs.YtliihnkonakacaaGreatDoor.P1 Go.Proofs.YtliihnkonakacaaGreatDoor.B1 Go.Proofs.YtliihnkonakacaaGreatDoor.B2 Go.Proofs.YtliihnkonakacaaGreatDoor.T1 Go.Proofs.YtliihnkonakacaaGreatDoor.BT Go.Proofs.YtliihnkonakacaaGreatDoor.P5 Go.Proofs.YtliihnkonakacaaGreatDoor.P6 Go.Proofs.YtliihnkonakacaaGreatDoor.P8 Go.Proofs.YtliihnkonakacaaGreatDoor.P9 Go.Proofs.YtliihnkonakacaaGreatDoor.B5 Go.Proofs.YtliihnkonakacaaGreatDoor.B6 Go.Proofs.YtliihnkonakacaaGreatDoor.D1 Go.Proofs.YtliihnkonakacaaGreatDoor.D2 Go.Proofs.YtliihnkonakacaaGreatDoor.W8 Go.Proofs.YtliihnkonakacaaGreatDoor.RC Go.Proofs.YtliihnkonakacaaGreatDoor.RI
open Go.ChangeShapes Go.WideShapes Go.ChangeAt Go.RowKit
set_option linter.unusedVariables false

theorem nine_cells {w : World} {b : Nat} {n : No} (h : LBlk w b (noL n)) : w.cell? ⟨b, 0, none⟩ = some (.int .i64 n.l) ∧ w.cell? ⟨b, 1, none⟩ = some (.int .i64 n.v.k) ∧ w.cell? ⟨b, 2, none⟩ = some (.int .i64 n.v.n) ∧ w.cell? ⟨b, 3, none⟩ = some (.int .i64 n.v.r) ∧ w.cell? ⟨b, 4, none⟩ = some (.int .i64 n.v.g) ∧ w.cell? ⟨b, 5, none⟩ = some (.int .i64 n.v.b) ∧ w.cell? ⟨b, 6, none⟩ = some (.int .i64 n.v.c) ∧ w.cell? ⟨b, 7, none⟩ = some (.string ⟨n.v.w.toArray⟩) ∧ w.cell? ⟨b, 8, none⟩ = some (.bool n.s) :=
  ⟨(h.2 0 _ rfl).1, (h.2 1 _ rfl).1, (h.2 2 _ rfl).1, (h.2 3 _ rfl).1, (h.2 4 _ rfl).1, (h.2 5 _ rfl).1, (h.2 6 _ rfl).1, (h.2 7 _ rfl).1, (h.2 8 _ rfl).1⟩

theorem notes_blk9 {w : World} {v : Value} {B : Nat} {ns : List No} (h : Own 56 9 w v B (noRs ns)) (hn : v ≠ .slice none 0 0) : ∃ g cap, v = .slice (some ⟨g, 0, none⟩) ns.length cap := by
  rcases h.row with ⟨rfl, _⟩ | ⟨g, cap, rfl, _⟩
  · exact absurd rfl hn
  · exact ⟨g, cap, by rw [noRs_len]⟩

theorem read_notes_ok {ts : List Tok} : (readNotes ts).length ≤ 12 ∧ ∀ n ∈ readNotes ts, noteOk n = true := by
  unfold readNotes
  split
  · refine ⟨by rw [List.length_take]; omega, fun n hn => ?_⟩
    have h1 := List.mem_of_mem_take hn
    unfold read9 at h1
    obtain ⟨p, _, hp⟩ := List.mem_filterMap.1 h1
    exact piece_ok hp
  · exact ⟨by simp, fun n hn => by cases hn⟩

theorem ok_nof {n : No} (h : noteOk n = true) : NoF n := by
  have h1 := look_iff.1 (fits_look h)
  have h2 := value_short (fits_ok h)
  exact ⟨⟨by omega, by omega⟩, by omega⟩

theorem d_nof {n : No} (h : D9.NoD n) : NoF n := by
  obtain ⟨h1, h2, h3⟩ := h
  exact ⟨⟨by omega, by omega⟩, by omega⟩

theorem ReadNotes_any (ts : List Tok) (v : Value) (w : World) (L : Pow w) (h : TokSlc w v ts) (hf : ∀ x ∈ ts, TokSm x) (hs : ts.length ≤ 1000000) : Calls Tryz.prog 37 #[v] w (NotesOf (readNotes ts) w) := by
  cases ha : ts.all tokOk
  · exact ReadNotes_not ts v w L h hf hs ha
  · exact ReadNotes_right ts v w L h hf hs ha

theorem shown_none {ns : List No} (h : notesOk ns = false) : showNotes ns = [] := by
  unfold showNotes
  rw [if_neg (by rw [h]; decide)]

theorem not_notes {ns : List No} {n : No} (hn : n ∈ ns) (h : noteOk n = false) : notesOk ns = false := by
  cases hk : notesOk ns
  · rfl
  · have := (notesOk_len hk).2 n hn
    rw [h] at this; cases this

theorem long_notes {ns : List No} (h : 12 < ns.length) : notesOk ns = false := by
  cases hk : notesOk ns
  · rfl
  · have := (notesOk_len hk).1
    omega

theorem are_notes {ns : List No} (h : ∀ n ∈ ns, noteOk n = true) (hl : ns.length ≤ 12) : notesOk ns = true := by
  unfold notesOk
  rw [Bool.and_eq_true, decide_eq_true_eq, List.all_eq_true]
  exact ⟨h, hl⟩

theorem short_right {s : List UInt8} (h : s.length ≤ 4000) : (∀ x ∈ tokensOf s, TokSm x) ∧ (tokensOf s).length ≤ 4000 := by
  refine ⟨fun x hx => ?_, ?_⟩
  · obtain ⟨q1, q2, q3⟩ := D5.tokens_fit (s := s) x hx
    exact ⟨by omega, by omega, by omega⟩
  · unfold tokensOf
    rw [if_neg (by omega)]
    have := toks_len s.length s (Nat.le_refl _)
    omega

theorem slc_load9 {W : World} {a : Option Addr} {m c i : Nat} {ns : List No} {x : No} (h : NoSlc W (.slice a m c) ns) (hx : ns[i]? = some x) : ∃ g off, a = some ⟨g, off, none⟩ ∧ (loadVar 56 ⟨g, off + i * 9, none⟩).run Tryz.prog W = .ok (noV x) W := by
  obtain ⟨a', c', e, _, _, HA⟩ := h.form
  obtain ⟨g, off, ea, hat⟩ := HA (by intro e0; rw [e0] at hx; cases hx)
  injection e with e1
  exact ⟨g, off, by rw [e1, ea], no_load hat hx⟩

theorem toks_formN {W : World} {B : Nat} {v : Value} {ts : List Tok} (h : Toks W v B ts) : ∃ a c, v = .slice a ts.length c := by
  rcases h.2 with ⟨rfl, h0⟩ | ⟨g, cap, cur, rfl, _⟩
  · exact ⟨none, 0, by rw [h0]⟩
  · exact ⟨_, _, rfl⟩

set_option maxRecDepth 100000 in
set_option maxHeartbeats 16000000 in
theorem notes_walk (A0 : Option Addr) (len0 cap0 : Nat) (w : World) (w0 : len0 ≤ 4096 → Bytes w w.heap.size A0 len0) (L : B5.Pow w) :
    Calls Tryz.prog 9 #[.slice A0 len0 cap0] w (Ans (.bool true) w) := by
  by_cases hbig : 4096 < len0
  · go_enter Tryz.func9, Tryz.ntmps9
    go_wp2
    go_ret
    exact ⟨rfl, Below.refl _ _⟩
  · have hb := w0 (by omega)
    have HBY := Lib.hid (fun w' (g : Below w.heap.size w w') => hb.below g)
    have HL := Lib.hid L
    clear w0 L
    go_enter Tryz.func9, Tryz.ntmps9
    go_wp2_with (first | (go_at_call 11; go_in) | fail)
    refine (ShowNotes_draw _ A0 len0 cap0 hb).mono ?_
    rintro e w1 ⟨v, ns, rfl, hv, hnd, hlen, g1⟩
    have HSI := Lib.hid (ShowNotes_impl ns v w1 (HL.out.on g1) hv (by omega) (fun n hn => d_nof (hnd n hn)))
    have HSS := Lib.hid (fun w' (hw : Below w1.heap.size w1 w') => ShowNotes_spec ns v w' (hv.on hw) (by omega) (fun n hn => (d_nof (hnd n hn)).2))
    have HV := Lib.hid (fun w' (hw : Below w1.heap.size w1 w') => hv.on hw)
    have HND := Lib.hid hnd
    obtain ⟨av, cv, ev, hncv, _⟩ := hv.form
    obtain ⟨n, hn⟩ : ∃ n, ns.length = n := ⟨_, rfl⟩
    rw [hn] at ev hlen hncv
    subst ev
    have HN := Lib.hid hn
    obtain ⟨s, es⟩ : ∃ s, showNotes ns = s := ⟨_, rfl⟩
    have HES := Lib.hid es
    have HSL := Lib.hid (show s.length ≤ 624 by rw [← es]; exact notes_len ns)
    rw [es] at HSI HSS
    have h11 := Below.refl w1.heap.size w1
    clear hb hv hnd hn es
    go_wp2_with fail
    refine HSI.out.mono ?_
    rintro e w2 ⟨rfl, g2⟩
    have gb2 := g1.trans (g2.mono g1.size)
    have h12 := g2
    clear g2 HSI h11
    go_wp2_with fail
    refine (ReadNotes_draw _ A0 len0 cap0 (HBY.out _ gb2)).mono ?_
    rintro e w3 ⟨vt, ts, rfl, ht, htm, htl, g3⟩
    have gb3 := gb2.trans (g3.mono gb2.size)
    have h13 := h12.trans (g3.mono h12.size)
    have HRI := Lib.hid (ReadNotes_any ts vt w3 (HL.out.on gb3) ht.slc htm (by omega))
    have HRS := Lib.hid (fun w' (hw : Below w3.heap.size w3 w') => ReadNotes_spec ts vt w' (ht.on hw) (fun x hx => fit_of_sm (htm x hx)) (by omega))
    have HXO := Lib.hid (read_notes_ok (ts := ts))
    unfold NotesOf at HRI HRS
    obtain ⟨xs, exs⟩ : ∃ xs, readNotes ts = xs := ⟨_, rfl⟩
    rw [exs] at HRI HRS HXO
    obtain ⟨at_, ct, et, _⟩ := ht.form
    obtain ⟨nt, hnt⟩ : ∃ nt, ts.length = nt := ⟨_, rfl⟩
    rw [hnt] at et
    subst et
    clear ht htm htl exs hnt g3
    go_wp2_with fail
    refine HRI.out.mono ?_
    rintro e w4 ⟨vx, rfl, hx, hxn, g4⟩
    have gb4 := gb3.trans (g4.mono gb3.size)
    have h14 := h13.trans (g4.mono h13.size)
    have h34 := g4
    obtain ⟨gx, cx, ex⟩ := notes_blk9 hx hxn
    obtain ⟨nx, hnx⟩ : ∃ nx, xs.length = nx := ⟨_, rfl⟩
    have HNX := Lib.hid hnx
    rw [hnx] at ex
    subst ex
    have HX := Lib.hid (fun w' (hw : Below w4.heap.size w4 w') => D9.noSlc_own (hx.on hw))
    have hnx12 : nx ≤ 12 := by rw [← hnx]; exact HXO.out.1
    clear hx hxn hnx g4 HRI
    go_wp2_with fail
    refine (NoteOk_draw _ A0 len0 cap0 (HBY.out _ gb4)).mono ?_
    rintro e w5 ⟨k, rfl, hk, g5⟩
    have gb50 := gb4.trans (g5.mono gb4.size)
    have h150 := h14.trans (g5.mono h14.size)
    have h350 := h34.trans (g5.mono h34.size)
    have h450 := g5
    have hlk := no_new w5 k 56
    have gk : Below w5.heap.size w5 (w5.alloc (.cells #[.int .i64 k.l, .int .i64 k.v.k, .int .i64 k.v.n, .int .i64 k.v.r, .int .i64 k.v.g, .int .i64 k.v.b, .int .i64 k.v.c, .string ⟨k.v.w.toArray⟩, .bool k.s] 56)) := (Below.refl _ _).alloc (Nat.le_refl _) _
    rw [noV_is]
    obtain ⟨wk, hwk⟩ : ∃ wk, w5.alloc (.cells #[.int .i64 k.l, .int .i64 k.v.k, .int .i64 k.v.n, .int .i64 k.v.r, .int .i64 k.v.g, .int .i64 k.v.b, .int .i64 k.v.c, .string ⟨k.v.w.toArray⟩, .bool k.s] 56) = wk := ⟨_, rfl⟩
    rw [hwk] at hlk gk
    have HWK := Lib.hid hwk
    clear hwk
    have gb5 := gb50.trans (gk.mono gb50.size)
    have h15 := h150.trans (gk.mono h150.size)
    have h35 := h350.trans (gk.mono h350.size)
    have h45 := h450.trans (gk.mono h450.size)
    have HKC := Lib.hid (fun W (hW : Below wk.heap.size wk W) => nine_cells (hlk.below hW))
    have HNI := Lib.hid (fun w' (hw : Below w.heap.size w w') => NoteOk_impl k (d_nof hk).1 (d_nof hk).2 w' (HL.out.on hw))
    have HNS := Lib.hid (fun w' => NoteOk_spec k (d_nof hk).2 w')
    have HLK := Lib.hid (fun (u : Value) (w' : World) (B : Nat) (hw : Below wk.heap.size wk w') (hu : Own 56 9 w' u B (noRs xs)) => likeNotes_same xs (.slice (some ⟨gx, 0, none⟩) nx cx) u w' (HX.out _ (h45.trans (hw.mono h45.size))) (D9.noSlc_own hu) (by rw [HNX.out]; omega))
    obtain ⟨bk, hbk⟩ : ∃ q, w5.heap.size = q := ⟨_, rfl⟩
    obtain ⟨K, hK⟩ : ∃ q, noteOk k = q := ⟨_, rfl⟩
    rw [hK] at HNI HNS
    have hKK : (K != K) = false := by simp
    have hss : (s != s) = false := by simp
    have hnx' : ¬ (12 : Int) < (nx : Int) := by omega
    have HBK := Lib.hid hbk
    clear hlk gk hk hbk hK gb50 h150 h350 h450 g5
    go_upto_region 8 with fail
    rw [HWK.out]
    rw [HBK.out] at HKC ⊢
    clear HBK HWK
    rw [noV_is] at HNI HNS
    go_cut [44] (fun s44 wx => s44 = .bool false ∧ Below wk.heap.size wk wx)
    case first =>
      have hb : Below wk.heap.size wk wk.drew := ⟨rfl, rfl, rfl, Nat.le_refl _, fun k' hk' => rfl⟩
      obtain ⟨c0, c1, c2, c3, c4, c5, c6, c7, c8⟩ := HKC.out _ hb
      go_region_with (first | (go_at_call 40; refine (HRS.out _ (h35.trans (hb.mono h35.size))).mono ?_; rintro e wa ⟨ua, rfl, hua, huan, gX⟩; have HLA := Lib.hid (HLK.out _ wa _ (hb.trans (gX.mono hb.size)) hua); obtain ⟨aa, ca, ea⟩ := own_form9 hua; obtain ⟨na, ena⟩ : ∃ q, (noRs xs).length = q := ⟨_, rfl⟩; rw [ena] at ea; subst ea; clear ena; have hb := hb.trans (gX.mono hb.size); obtain ⟨c0, c1, c2, c3, c4, c5, c6, c7, c8⟩ := HKC.out _ hb) | (go_at_call 39; refine HLA.out.mono ?_; rintro e wb ⟨rfl, gX⟩; have hb := hb.trans (gX.mono hb.size); obtain ⟨c0, c1, c2, c3, c4, c5, c6, c7, c8⟩ := HKC.out _ hb) | (go_at_call 41; refine (HSS.out _ (h15.trans (hb.mono h15.size))).mono ?_; rintro e wc ⟨rfl, gX⟩; have hb := hb.trans (gX.mono hb.size); obtain ⟨c0, c1, c2, c3, c4, c5, c6, c7, c8⟩ := HKC.out _ hb) | (go_at_call 42; refine (HNI.out _ (gb5.trans (hb.mono gb5.size))).mono ?_; rintro e wd ⟨rfl, gX⟩; have hb := hb.trans (gX.mono hb.size); obtain ⟨c0, c1, c2, c3, c4, c5, c6, c7, c8⟩ := HKC.out _ hb) | (go_at_call 43; refine (HNS.out _).mono ?_; rintro e we ⟨rfl, gX⟩; have hb := hb.trans (gX.mono hb.size); obtain ⟨c0, c1, c2, c3, c4, c5, c6, c7, c8⟩ := HKC.out _ hb))
      all_goals
        go_wp2_with fail
        go_meet
        exact ⟨congrArg Value.bool (decide_eq_false (by omega)), hb⟩
    case rest =>
      obtain ⟨rfl, hC⟩ := hcut
      have h4C := h45.trans (hC.mono h45.size)
      have h1C := h15.trans (hC.mono h15.size)
      have gbC := gb5.trans (hC.mono gb5.size)
      clear hC HNI HNS HLK HKC HRS HSS h34 h35 h45 h15 gb5 h12 h13 h14 gb2 gb3 gb4 hKK hss g1
      have hs4 := HSL.out
      go_wp2_with fail
      go_loopg [8] nx (fun kx s8 wr => ∃ i : Nat, s8 = .int .i64 (i : Int) ∧ kx + i = nx ∧ Below wc.heap.size wc wr)
      case atStart => exact ⟨0, rfl, by omega, Below.refl _ _⟩
      case round =>
        obtain ⟨i, rfl, hki, hB⟩ := hrel
        have h4r := h4C.trans (hB.mono h4C.size)
        have h1r := h1C.trans (hB.mono h1C.size)
        have gbr := gbC.trans (hB.mono gbC.size)
        by_cases hlt : i < nx
        · have hlt' : (i : Int) < (nx : Int) := by omega
          have i0' : (0 : Int) ≤ (i : Int) := by omega
          obtain ⟨y, hy⟩ : ∃ y, xs[i]? = some y := ⟨_, List.getElem?_eq_getElem (by rw [HNX.out]; exact hlt)⟩
          have hok := HXO.out.2 y (List.mem_of_getElem? hy)
          obtain ⟨g', off', eg, hld⟩ := slc_load9 (HX.out wr h4r) hy
          injection eg with eg
          injection eg with e1 e2
          subst e1 e2
          rw [Nat.zero_add, noV_is] at hld
          have HLD := Lib.hid hld
          have HNI := Lib.hid (NoteOk_impl y (ok_nof hok).1 (ok_nof hok).2 wr (HL.out.on gbr))
          rw [hok, noV_is] at HNI
          clear hld hok hy h4r h1r
          go_wp2_with (first | ((with_reducible refine wp_load_at HLD.out ?_ ?_); exact And.intro rfl (And.intro rfl rfl)))
          refine HNI.out.mono ?_
          rintro e w6 ⟨rfl, g6⟩
          go_wp2_with fail
          go_roundg (nx - (i + 1))
          case measure => omega
          case rel => exact ⟨i + 1, by go_num, by omega, hB.trans (g6.mono hB.size)⟩
        · have hlt' : ¬ (i : Int) < (nx : Int) := by omega
          have hlen' : (n : Int) ≤ 13 := by omega
          clear h4r h4C h1C gbC hB HX HXO HNX
          go_wp2_with fail
          go_loopg [9] n (fun kx s9 wq => ∃ i : Nat, s9 = .int .i64 (i : Int) ∧ kx + i = n ∧ Hid (∀ j y, j < i → ns[j]? = some y → noteOk y = true) ∧ Below wr.heap.size wr wq)
          case atStart => exact ⟨0, rfl, by omega, Lib.hid (fun j y hj => absurd hj (Nat.not_lt_zero _)), Below.refl _ _⟩
          case round =>
            obtain ⟨i, rfl, hki, HI, hB⟩ := hrel
            have h1q := h1r.trans (hB.mono h1r.size)
            have gbq := gbr.trans (hB.mono gbr.size)
            by_cases hlt : i < n
            · have hlt' : (i : Int) < (n : Int) := by omega
              have i0' : (0 : Int) ≤ (i : Int) := by omega
              obtain ⟨y, hy⟩ : ∃ y, ns[i]? = some y := ⟨_, List.getElem?_eq_getElem (by rw [HN.out]; exact hlt)⟩
              have hym := List.mem_of_getElem? hy
              obtain ⟨g', off', rfl, hld⟩ := slc_load9 (HV.out wr h1q) hy
              rw [noV_is] at hld
              have HLD := Lib.hid hld
              have HNS := Lib.hid (NoteOk_spec y (d_nof (HND.out y hym)).2 wr)
              have HY := Lib.hid hy
              cases hok : noteOk y
              · rw [hok, noV_is] at HNS
                have hs0 : s = [] := by rw [← HES.out]; exact shown_none (not_notes hym hok)
                have hs1 : (s == []) = true := by rw [hs0]; rfl
                clear hs0 hld hok hy hym h1q
                go_wp2_with (first | ((with_reducible refine wp_load_at HLD.out ?_ ?_); exact And.intro rfl (And.intro rfl rfl)))
                refine HNS.out.mono ?_
                rintro e w6 ⟨rfl, g6⟩
                go_wp2_with fail
                go_ret
                exact ⟨rfl, gbq.trans (g6.mono gbq.size)⟩
              · have HI2 := Lib.hid (show ∀ j z, j < i + 1 → ns[j]? = some z → noteOk z = true from fun j z hj hz => by
                  rcases Nat.lt_or_eq_of_le (Nat.le_of_lt_succ hj) with h3 | h3
                  · exact HI.out j z h3 hz
                  · subst h3
                    rw [HY.out] at hz
                    injection hz with hz
                    rw [← hz]; exact hok)
                rw [hok, noV_is] at HNS
                clear hld hok hy hym h1q
                go_wp2_with (first | ((with_reducible refine wp_load_at HLD.out ?_ ?_); exact And.intro rfl (And.intro rfl rfl)))
                refine HNS.out.mono ?_
                rintro e w6 ⟨rfl, g6⟩
                go_wp2_with fail
                go_roundg (n - (i + 1))
                case measure => omega
                case rel => exact ⟨i + 1, by go_num, by omega, HI2, hB.trans (g6.mono hB.size)⟩
            · have hlt' : ¬ (i : Int) < (n : Int) := by omega
              have HALL := Lib.hid (show ∀ y ∈ ns, noteOk y = true from fun y hy => by
                obtain ⟨j, hj, e⟩ := List.mem_iff_getElem.1 hy
                exact HI.out j y (by have := HN.out; omega) (by rw [List.getElem?_eq_getElem hj, e]))
              by_cases h12 : 12 < n
              · have h12' : (12 : Int) < (n : Int) := by omega
                have hs0 : s = [] := by rw [← HES.out]; exact shown_none (long_notes (by rw [HN.out]; exact h12))
                have hs1 : (s == []) = true := by rw [hs0]; rfl
                clear hs0
                go_wp2_with fail
                go_ret
                exact ⟨rfl, gbq⟩
              · have h12' : ¬ (12 : Int) < (n : Int) := by omega
                have HRD := Lib.hid (show readNotes (tokensOf s) = ns by rw [← HES.out]; exact P9.read_show (are_notes HALL.out (by rw [HN.out]; omega)))
                have HTS := Lib.hid (TokensOf_spec s wr (by omega))
                have HSM := Lib.hid (short_right (s := s) (by omega))
                unfold B5.Tokens at HTS
                clear hs4
                go_wp2_with fail
                refine HTS.out.mono ?_
                rintro e w6 ⟨u, rfl, hu, g6⟩
                have gb6 := gbq.trans (g6.mono gbq.size)
                have h16 := h1q.trans (g6.mono h1q.size)
                have HRN := Lib.hid (ReadNotes_any (tokensOf s) u w6 (HL.out.on gb6) (Toks.val hu).slc HSM.out.1 (by have := HSM.out.2; omega))
                rw [HRD.out] at HRN
                unfold NotesOf at HRN
                obtain ⟨au, cu, eu⟩ := toks_formN hu
                obtain ⟨mu, hmu⟩ : ∃ mu, (tokensOf s).length = mu := ⟨_, rfl⟩
                rw [hmu] at eu
                subst eu
                clear hu hmu g6 HSM HRD HTS
                go_wp2_with fail
                refine HRN.out.mono ?_
                rintro e w7 ⟨vz, rfl, hz, hzn, g7⟩
                have gb7 := gb6.trans (g7.mono gb6.size)
                have h17 := h16.trans (g7.mono h16.size)
                have HLZ := Lib.hid (likeNotes_same ns vz _ w7 (D9.noSlc_own hz) (HV.out w7 h17) (by rw [HN.out]; omega))
                obtain ⟨az, cz, ez⟩ := own_form9 hz
                obtain ⟨mz, hmz⟩ : ∃ mz, (noRs ns).length = mz := ⟨_, rfl⟩
                rw [hmz] at ez
                subst ez
                clear hz hzn hmz g7 HRN
                go_wp2_with fail
                refine HLZ.out.mono ?_
                rintro e w8 ⟨rfl, g8⟩
                go_wp2_with fail
                go_ret
                exact ⟨rfl, gb7.trans (g8.mono gb7.size)⟩

end Go.Proofs.YtliihnkonakacaaGreatDoor.B9

namespace Go.Proofs.YtliihnkonakacaaGreatDoor.B10
open Go.Proofs.YtliihnkonakacaaGreatDoor.B5
open Go.ChangeShapes Go.WideShapes Go.ChangeAt Go.RowKit
set_option linter.unusedVariables false
set_option maxRecDepth 100000

theorem laid_picks {W : World} (h : laidMetH Tryz.prog Rows.fnPicksRow.laid W) : Pow W := by
  have _hf : Nat := 3
  rw [MakeChecks.laidMetH_plain _ _ _ (by kernel_rfl)] at h
  obtain ⟨ps, ⟨ga, ta, csa, fa, pa, qa, hga, hta, hva, hda, ⟨gb, tb, csb, fb, pb, qb, hgb, htb, hvb, hdb, ⟨gc, tc, csc, fc, pc, qc, hgc, htc, hvc, hdc, _, _⟩, _⟩, _⟩, _, _⟩ := h
  obtain rfl := Option.some.inj (name_pow.symm.trans hgc)
  obtain rfl := Option.some.inj ((show (Tryz.prog.globals[3]?).map (·.type) = some 251 by kernel_rfl).symm.trans htc)
  unfold B5.Pow Lib.TabIs
  rw [hvc, ← Lib.cells_of_tab (zs := Lib.pow10Tab) Tryz.underlying251 Tryz.underlying207 (by kernel_rfl) (by kernel_rfl) hdc]

theorem laid_weights {W : World} (h : laidMetH Tryz.prog Rows.fnWeightsRow.laid W) : Pow W := by
  have _hf : Nat := 4
  rw [MakeChecks.laidMetH_plain _ _ _ (by kernel_rfl)] at h
  obtain ⟨ps, ⟨ga, ta, csa, fa, pa, qa, hga, hta, hva, hda, ⟨gb, tb, csb, fb, pb, qb, hgb, htb, hvb, hdb, ⟨gc, tc, csc, fc, pc, qc, hgc, htc, hvc, hdc, _, _⟩, _⟩, _⟩, _, _⟩ := h
  obtain rfl := Option.some.inj (name_pow.symm.trans hgc)
  obtain rfl := Option.some.inj ((show (Tryz.prog.globals[3]?).map (·.type) = some 251 by kernel_rfl).symm.trans htc)
  unfold B5.Pow Lib.TabIs
  rw [hvc, ← Lib.cells_of_tab (zs := Lib.pow10Tab) Tryz.underlying251 Tryz.underlying207 (by kernel_rfl) (by kernel_rfl) hdc]

theorem laid_exactPickOk {W : World} (h : laidMetH Tryz.prog Rows.fnExactPickOkRow.laid W) : Pow W := by
  have _hf : Nat := 5
  rw [MakeChecks.laidMetH_plain _ _ _ (by kernel_rfl)] at h
  obtain ⟨ps, ⟨ga, ta, csa, fa, pa, qa, hga, hta, hva, hda, ⟨gb, tb, csb, fb, pb, qb, hgb, htb, hvb, hdb, ⟨gc, tc, csc, fc, pc, qc, hgc, htc, hvc, hdc, _, _⟩, _⟩, _⟩, _, _⟩ := h
  obtain rfl := Option.some.inj (name_pow.symm.trans hgc)
  obtain rfl := Option.some.inj ((show (Tryz.prog.globals[3]?).map (·.type) = some 251 by kernel_rfl).symm.trans htc)
  unfold B5.Pow Lib.TabIs
  rw [hvc, ← Lib.cells_of_tab (zs := Lib.pow10Tab) Tryz.underlying251 Tryz.underlying207 (by kernel_rfl) (by kernel_rfl) hdc]

theorem laid_exactShowPick {W : World} (h : laidMetH Tryz.prog Rows.fnExactShowPickRow.laid W) : Pow W := by
  have _hf : Nat := 6
  rw [MakeChecks.laidMetH_plain _ _ _ (by kernel_rfl)] at h
  obtain ⟨ps, ⟨ga, ta, csa, fa, pa, qa, hga, hta, hva, hda, ⟨gb, tb, csb, fb, pb, qb, hgb, htb, hvb, hdb, ⟨gc, tc, csc, fc, pc, qc, hgc, htc, hvc, hdc, _, _⟩, _⟩, _⟩, _, _⟩ := h
  obtain rfl := Option.some.inj (name_pow.symm.trans hgc)
  obtain rfl := Option.some.inj ((show (Tryz.prog.globals[3]?).map (·.type) = some 251 by kernel_rfl).symm.trans htc)
  unfold B5.Pow Lib.TabIs
  rw [hvc, ← Lib.cells_of_tab (zs := Lib.pow10Tab) Tryz.underlying251 Tryz.underlying207 (by kernel_rfl) (by kernel_rfl) hdc]

theorem laid_exactReadPick {W : World} (h : laidMetH Tryz.prog Rows.fnExactReadPickRow.laid W) : Pow W := by
  have _hf : Nat := 7
  rw [MakeChecks.laidMetH_plain _ _ _ (by kernel_rfl)] at h
  obtain ⟨ps, ⟨ga, ta, csa, fa, pa, qa, hga, hta, hva, hda, ⟨gb, tb, csb, fb, pb, qb, hgb, htb, hvb, hdb, ⟨gc, tc, csc, fc, pc, qc, hgc, htc, hvc, hdc, _, _⟩, _⟩, _⟩, _, _⟩ := h
  obtain rfl := Option.some.inj (name_pow.symm.trans hgc)
  obtain rfl := Option.some.inj ((show (Tryz.prog.globals[3]?).map (·.type) = some 251 by kernel_rfl).symm.trans htc)
  unfold B5.Pow Lib.TabIs
  rw [hvc, ← Lib.cells_of_tab (zs := Lib.pow10Tab) Tryz.underlying251 Tryz.underlying207 (by kernel_rfl) (by kernel_rfl) hdc]

theorem laid_exactWeightOf {W : World} (h : laidMetH Tryz.prog Rows.fnExactWeightOfRow.laid W) : Pow W := by
  have _hf : Nat := 8
  rw [MakeChecks.laidMetH_plain _ _ _ (by kernel_rfl)] at h
  obtain ⟨ps, ⟨ga, ta, csa, fa, pa, qa, hga, hta, hva, hda, ⟨gb, tb, csb, fb, pb, qb, hgb, htb, hvb, hdb, ⟨gc, tc, csc, fc, pc, qc, hgc, htc, hvc, hdc, _, _⟩, _⟩, _⟩, _, _⟩ := h
  obtain rfl := Option.some.inj (name_pow.symm.trans hgc)
  obtain rfl := Option.some.inj ((show (Tryz.prog.globals[3]?).map (·.type) = some 251 by kernel_rfl).symm.trans htc)
  unfold B5.Pow Lib.TabIs
  rw [hvc, ← Lib.cells_of_tab (zs := Lib.pow10Tab) Tryz.underlying251 Tryz.underlying207 (by kernel_rfl) (by kernel_rfl) hdc]

theorem laid_notes {W : World} (h : laidMetH Tryz.prog Rows.fnNotesRow.laid W) : Pow W := by
  have _hf : Nat := 9
  rw [MakeChecks.laidMetH_plain _ _ _ (by kernel_rfl)] at h
  obtain ⟨ps, ⟨ga, ta, csa, fa, pa, qa, hga, hta, hva, hda, ⟨gb, tb, csb, fb, pb, qb, hgb, htb, hvb, hdb, ⟨gc, tc, csc, fc, pc, qc, hgc, htc, hvc, hdc, _, _⟩, _⟩, _⟩, _, _⟩ := h
  obtain rfl := Option.some.inj (name_pow.symm.trans hgc)
  obtain rfl := Option.some.inj ((show (Tryz.prog.globals[3]?).map (·.type) = some 251 by kernel_rfl).symm.trans htc)
  unfold B5.Pow Lib.TabIs
  rw [hvc, ← Lib.cells_of_tab (zs := Lib.pow10Tab) Tryz.underlying251 Tryz.underlying207 (by kernel_rfl) (by kernel_rfl) hdc]

theorem laid_noHarm {W : World} (h : laidMetH Tryz.prog Rows.fnNoHarmRow.laid W) : Pow W := by
  have _hf : Nat := 10
  rw [MakeChecks.laidMetH_plain _ _ _ (by kernel_rfl)] at h
  obtain ⟨ps, ⟨ga, ta, csa, fa, pa, qa, hga, hta, hva, hda, ⟨gb, tb, csb, fb, pb, qb, hgb, htb, hvb, hdb, ⟨gc, tc, csc, fc, pc, qc, hgc, htc, hvc, hdc, _, _⟩, _⟩, _⟩, _, _⟩ := h
  obtain rfl := Option.some.inj (name_pow.symm.trans hgc)
  obtain rfl := Option.some.inj ((show (Tryz.prog.globals[3]?).map (·.type) = some 251 by kernel_rfl).symm.trans htc)
  unfold B5.Pow Lib.TabIs
  rw [hvc, ← Lib.cells_of_tab (zs := Lib.pow10Tab) Tryz.underlying251 Tryz.underlying207 (by kernel_rfl) (by kernel_rfl) hdc]

end Go.Proofs.YtliihnkonakacaaGreatDoor.B10
