/- Draws of chapter 9: l9Draw, l9DrawAny, DrawNoteFor and their kin. -/
import Derived.Test.YtgaggpnlimchkaaGreatDoorDraw8
import Derived.Test.YtgaggpnlimchkaaGreatDoorBase9
import Derived.Test.YtgaggpnlimchkaaGreatDoorBase8
namespace Go.Proofs.YtgaggpnlimchkaaGreatDoor.D9
open Go.Proofs.YtgaggpnlimchkaaGreatDoor.P1 Go.Proofs.YtgaggpnlimchkaaGreatDoor.B1 Go.Proofs.YtgaggpnlimchkaaGreatDoor.B2 Go.Proofs.YtgaggpnlimchkaaGreatDoor.T1 Go.Proofs.YtgaggpnlimchkaaGreatDoor.BT Go.Proofs.YtgaggpnlimchkaaGreatDoor.P5 Go.Proofs.YtgaggpnlimchkaaGreatDoor.P6 Go.Proofs.YtgaggpnlimchkaaGreatDoor.P8 Go.Proofs.YtgaggpnlimchkaaGreatDoor.P9 Go.Proofs.YtgaggpnlimchkaaGreatDoor.B5 Go.Proofs.YtgaggpnlimchkaaGreatDoor.B6 Go.Proofs.YtgaggpnlimchkaaGreatDoor.B8 Go.Proofs.YtgaggpnlimchkaaGreatDoor.B9 Go.Proofs.YtgaggpnlimchkaaGreatDoor.D1 Go.Proofs.YtgaggpnlimchkaaGreatDoor.D2 Go.Proofs.YtgaggpnlimchkaaGreatDoor.D5 Go.Proofs.YtgaggpnlimchkaaGreatDoor.D6 Go.Proofs.YtgaggpnlimchkaaGreatDoor.D8 Go.Proofs.YtgaggpnlimchkaaGreatDoor.DB Go.Proofs.YtgaggpnlimchkaaGreatDoor.W8 Go.Proofs.YtgaggpnlimchkaaGreatDoor.RC Go.Proofs.YtgaggpnlimchkaaGreatDoor.RI
open Go.ChangeShapes Go.WideShapes Go.ChangeAt Go.RowKit
set_option linter.unusedVariables false

theorem own_only {w w' : World} {B e size n c : Nat} {v : Value} {xs : List Value} (h : w.ownsRow B e size v n xs) (ho : Only c w w') (hc : c < B) : w'.ownsRow B e size v n xs := by
  have hne : v.ownBlock ≠ some c := fun e0 => by
    have := (World.ownsRow.lt h c e0).1
    omega
  exact h.kept (row := some c) ⟨ho.os, ho.tape, ho.output, ho.size, fun k hk hn => ho.block k (fun e0 => hn (by rw [e0])) hk⟩ (Or.inr hne)

theorem news_of {w : World} {b : Nat} {vs : List Value} (h : LBlk w b vs) : ∀ j u, vs[j]? = some u → w.cell? ((⟨b, 0, none⟩ : Addr).add j) = some u := fun j u hu => by
  rw [add_lit, Nat.zero_add]
  exact (h.2 j u hu).1

theorem infoN : (Tryz.prog.info? 107).map (fun i => (i.zero, i.size, i.bytes)) = some (some (.agg #[.int .i64 0, .int .i64 0, .int .i64 0, .int .i64 0, .int .i64 0, .int .i64 0, .int .i64 0, .string ⟨#[]⟩, .bool false]), 9, 80) := by kernel_rfl

/-- A note as a draw makes it. -/
def NoD (x : No) : Prop := -1 ≤ x.l ∧ x.l ≤ 6 ∧ x.v.w.length ≤ 100

/-- Some notes of the call's own. -/
def DrawnNs (m : Nat) (c : Nat) (a : Option Addr) (len cap : Nat) (w : World) (e : Ending) (w' : World) : Prop :=
  ∃ v ns, e = .returned v ∧ Own 107 9 w' v w.heap.size (noRs ns) ∧ (∀ x ∈ ns, NoD x) ∧ ns.length ≤ m ∧ Cur w' c a len cap ∧ Only c w w'

theorem own_form {e : TypeId} {w : World} {v : Value} {B m : Nat} {rs : List (List Value)} (h : Own e m w v B rs) : ∃ a c, v = .slice a rs.length c := by
  rcases h.row with ⟨rfl, rfl⟩ | ⟨g, cap, rfl, _⟩
  · exact ⟨_, _, rfl⟩
  · exact ⟨_, _, rfl⟩

theorem ownN {w : World} {v : Value} {B d : Nat} {ns : List No} (h : Own 107 9 w v B (noRs ns)) (hd : ns.length = d) : w.ownsRow B 107 9 v d (noRs ns).flatten := by
  have := h.1
  rwa [noRs_len, hd] at this

theorem own_more9 {w : World} {v : Value} {B d : Nat} {ns : List No} {x : No} (hd : ns.length = d) (h : w.ownsRow B 107 9 v (d + 1) ((noRs ns).flatten ++ noL x)) : Own 107 9 w v B (noRs (ns ++ [x])) := by
  have e : noRs (ns ++ [x]) = noRs ns ++ [noL x] := by unfold noRs; rw [List.map_append]; rfl
  rw [e]
  exact Own.more (noRs_nine ns) rfl (by rw [noRs_len, hd]; exact h)

theorem own_none (w : World) : Own 107 9 (w.alloc (.cells #[] 107)) (.slice (some ⟨w.heap.size, 0, none⟩) 0 0) w.heap.size (noRs []) :=
  ⟨World.ownsRow_lit w #[] 0 (Nat.le_refl _) (by decide) rfl, fun r hr => by cases hr⟩

set_option maxRecDepth 20000 in
set_option maxHeartbeats 4000000 in
theorem l9Draw_draw (w : World) (c : Nat) (a : Option Addr) (len cap : Nat) (K : Nat) (hK0 : 1 ≤ K) (hK1 : K ≤ 10) (h : Cur w c a len cap) :
    Calls Tryz.prog 79 #[.pointer (some ⟨c, 0, none⟩), .int .i64 (K : Int)] w (DrawnNs K c a len cap w) := by
  obtain ⟨i0, hi, hz0, hz1, hz2⟩ := info_parts infoN
  have hF1 := (Fr.refl h).alloc (.cells #[] 107)
  have hcw := h.lt
  have ho1 := own_none w
  clear h
  go_enter Tryz.func79, Tryz.ntmps79
  go_wp2_with fail
  refine (Below_draw _ c a len cap (K : Int) hF1.cur).mono ?_
  rintro e w2 ⟨x, ⟨hx0, hx1, _⟩, rfl, hc2, hon2⟩
  have hx1' := hx1 (by omega)
  obtain ⟨N, rfl⟩ : ∃ N : Nat, x = (N : Int) := ⟨x.toNat, by omega⟩
  have hF2 := hF1.call hc2 hon2
  have ho2 : Own 107 9 w2 (.slice (some ⟨w.heap.size, 0, none⟩) 0 0) w.heap.size (noRs []) := ⟨own_only ho1.1 hon2 hcw, ho1.2⟩
  have hN : N < K := by omega
  clear hF1 hc2 hon2 ho1 hx0 hx1 hx1'
  go_wp2_with fail
  go_loopg [5, 6] N (fun kx s5 s6 wr => ∃ (k : Nat) (ns : List No), s6 = .int .i64 (k : Int) ∧ k ≤ kx ∧ ns.length + k ≤ K ∧ Own 107 9 wr s5 w.heap.size (noRs ns) ∧ (∀ x ∈ ns, NoD x) ∧ Fr c a len cap w wr)
  case atStart => exact ⟨N, [], rfl, Nat.le_refl _, by simp; omega, ho2, (fun x hx => by cases hx), hF2⟩
  case round =>
    obtain ⟨k, ns, rfl, hkk, hlen, hown, hnd, hF⟩ := hrel
    clear ho2 hF2
    obtain ⟨a5, c5, rfl⟩ := own_form hown
    obtain ⟨d, hd⟩ : ∃ d, ns.length = d := ⟨_, rfl⟩
    have hownd := ownN hown hd
    rw [noRs_len, hd] at hownd ⊢
    rw [hd] at hlen
    clear hown
    by_cases hk0 : k = 0
    · subst hk0
      go_wp2_with fail
      go_ret
      exact ⟨_, ns, rfl, ⟨by rw [noRs_len, hd]; exact hownd, noRs_nine ns⟩, hnd, by omega, hF.cur, hF.only⟩
    · have hk1 : (0 : Int) < (k : Int) := by omega
      go_wp2_with fail
      refine (Below_draw _ c a len cap 6 hF.cur).mono ?_
      rintro e w3 ⟨l, ⟨hl0, hl1, _⟩, rfl, hc3, hon3⟩
      have hl1' := hl1 (by omega)
      have hF3 := hF.call hc3 hon3
      have hown3 := own_only hownd hon3 hcw
      clear hF hc3 hon3 hownd hl1
      go_wp2_with fail
      refine (l8DrawValue_draw _ c a len cap l hF3.cur).mono ?_
      rintro e w4 ⟨y, rfl, hy, hc4, hon4⟩
      have hF4 := hF3.call hc4 hon4
      have hown4 := own_only hown3 hon4 hcw
      clear hF3 hc4 hon4 hown3
      go_wp2_with fail
      refine (Once_draw _ c a len cap 8 hF4.cur).mono ?_
      rintro e w5 ⟨q, rfl, hc5, hon5⟩
      have hF5 := hF4.call hc5 hon5
      have hown5 := own_only hown4 hon5 hcw
      have hF6 := hF5.alloc (.cells #[.int .i64 l, .int .i64 y.k, .int .i64 y.n, .int .i64 y.r, .int .i64 y.g, .int .i64 y.b, .int .i64 y.c, .string ⟨y.w.toArray⟩, .bool q] 107)
      have hown6 := World.ownsRow.alloc hown5 (.cells #[.int .i64 l, .int .i64 y.k, .int .i64 y.n, .int .i64 y.r, .int .i64 y.g, .int .i64 y.b, .int .i64 y.c, .string ⟨y.w.toArray⟩, .bool q] 107)
      have hn6 := news_of (LBlk.new w5 (noL ⟨l, y, q⟩) 107)
      have hdn : NoD ⟨l, y, q⟩ := ⟨by show -1 ≤ l; omega, by show l ≤ 6; omega, hy⟩
      have hmx : d + 1 ≤ maxLen := by unfold maxLen; omega
      have hsz : w.heap.size ≤ (w5.alloc (.cells #[.int .i64 l, .int .i64 y.k, .int .i64 y.n, .int .i64 y.r, .int .i64 y.g, .int .i64 y.b, .int .i64 y.c, .string ⟨y.w.toArray⟩, .bool q] 107)).heap.size := by have := hF5.only.size; simp; omega
      clear hF4 hc5 hon5 hown4 hF5 hown5
      unfold valV
      go_wp2_with (at_builtin; refine wpList_append_own _ rfl _ _ 26 rfl w.heap.size 107 i0 _ 9 80 Tryz.underlying26 hi hz0 hz1 hz2 rfl (by decide) _ d (noRs ns).flatten rfl hown6 ⟨w5.heap.size, 0, none⟩ 1 1 (noL ⟨l, y, q⟩) rfl rfl hn6 (fun u hu => List.all_eq_true.1 (noL_one ⟨l, y, q⟩) u hu) hmx (by omega) hsz ?_; intro v7 w7 hown7 hgrow7 _)
      go_roundg (k - 1)
      case measure => omega
      case rel => exact ⟨k - 1, ns ++ [⟨l, y, q⟩], by go_num, by omega, by rw [List.length_append]; simp; omega, own_more9 hd hown7, (fun x hx => by
        rcases List.mem_append.1 hx with hx | hx
        · exact hnd x hx
        · obtain rfl : x = ⟨l, y, q⟩ := by simpa using hx
          exact hdn), fr_grown hF6 hcw hgrow7 (fun k' hk' => (World.ownsRow.lt hown6 k' hk').1)⟩

theorem own_blk {e : TypeId} {m : Nat} {w : World} {a : Option Addr} {d cap B : Nat} {rs : List (List Value)} (h : Own e m w (.slice a d cap) B rs) (hne : rs ≠ []) : ∃ g, a = some ⟨g, 0, none⟩ ∧ B ≤ g ∧ LBlk w g rs.flatten ∧ rs.length ≤ cap ∧ cap ≤ 9223372036854775807 := by
  have h' := h.1
  rcases h'.2 with ⟨hv, hn⟩ | ⟨g, cp, cur, hv, hb, hg, hnc, hm, _⟩
  · exact absurd (List.length_eq_zero_iff.1 hn) hne
  · obtain ⟨rfl, rfl, rfl⟩ : a = some ⟨g, 0, none⟩ ∧ d = rs.length ∧ cap = cp := by simpa using hv
    refine ⟨g, rfl, hb, ⟨(Array.getElem?_eq_some_iff.1 hg).1, fun i v hv => ⟨?_, Joins.unfrozen_of_block hg i⟩⟩, hnc, by unfold maxLen at hm; omega⟩
    rw [World.ownsRow.cellAt h' i (by rw [← flat_len h.2]; exact (List.getElem?_eq_some_iff.1 hv).1)]
    exact hv

theorem noSlc_blk {w : World} {g cap : Nat} {ns : List No} (h : LBlk w g (noRs ns).flatten) (h1 : ns.length ≤ cap) (h2 : cap ≤ 9223372036854775807) : NoSlc w (.slice (some ⟨g, 0, none⟩) ns.length cap) ns :=
  ⟨some ⟨g, 0, none⟩, cap, by rw [noRs_len], by rw [noRs_len]; exact h1, h2, fun _ => ⟨g, 0, rfl, at_of_blk h (noRs_nine ns)⟩⟩

theorem noSlc_own {w : World} {v : Value} {B : Nat} {ns : List No} (h : Own 107 9 w v B (noRs ns)) : NoSlc w v ns := h.val.slc

/-- Some notes, wherever they lie. -/
def DrawnNo (m : Nat) (c : Nat) (a : Option Addr) (len cap : Nat) (w : World) (e : Ending) (w' : World) : Prop :=
  ∃ v ns, e = .returned v ∧ NoSlc w' v ns ∧ (∀ x ∈ ns, NoD x) ∧ ns.length ≤ m ∧ (∀ g, v.ownBlock = some g → w.heap.size ≤ g) ∧ Cur w' c a len cap ∧ Only c w w'

theorem slc_only {w w' : World} {v : Value} {ns : List No} {c : Nat} (h : NoSlc w v ns) (ho : Only c w w') (hb : ∀ g, v.ownBlock = some g → g ≠ c) : NoSlc w' v ns := by
  obtain ⟨a, cap, rfl, h1, h2, h3⟩ := h
  refine ⟨a, cap, rfl, h1, h2, fun hne => ?_⟩
  obtain ⟨g, off, rfl, hat⟩ := h3 hne
  have hg : g ≠ c := hb g rfl
  exact ⟨g, off, rfl, fun i r hr j u hu => (ho.cell (p := ⟨g, off + i * 9 + j, none⟩) hg hat.lt).trans (hat.cells i r hr j u hu), Nat.lt_of_lt_of_le hat.lt ho.size⟩

/-- The cells of a value. -/
def vaC (x : Va) : List Value := [.int .i64 x.k, .int .i64 x.n, .int .i64 x.r, .int .i64 x.g, .int .i64 x.b, .int .i64 x.c, .string ⟨x.w.toArray⟩]

theorem vaC_wide : wideT Tryz.prog 105 7 = true := by kernel_rfl

theorem only_far {c g : Nat} {w0 w w' : World} (h : Only c w0 w) (ho : Only g w w') (hg : w0.heap.size ≤ g) : Only c w0 w' :=
  ⟨ho.os.trans h.os, ho.tape.trans h.tape, ho.output.trans h.output, Nat.le_trans h.size ho.size, fun k hk hs => (ho.block k (by omega) (Nat.lt_of_lt_of_le hs h.size)).trans (h.block k hk hs)⟩

theorem fr_far {c : Nat} {a : Option Addr} {len cap g : Nat} {w w' w2 : World} (h : Fr c a len cap w w') (ho : Only g w' w2) (hg : w.heap.size ≤ g) (hc : c < w.heap.size) : Fr c a len cap w w2 := by
  have hcur := h.cur
  have hgc : c ≠ g := by omega
  have hb : w2.heap[c]? = w'.heap[c]? := ho.block c hgc hcur.lt
  have hon := only_far h.only ho hg
  obtain ⟨hl, c0, ⟨i, hi, c1⟩, ⟨hh, c2⟩, f1, f2, hbt⟩ := hcur
  have cc : ∀ o, w2.cell? ⟨c, o, none⟩ = w'.cell? ⟨c, o, none⟩ := fun o => ho.cell (p := ⟨c, o, none⟩) hgc hl
  have ff : ∀ o, w2.frozen? ⟨c, o, none⟩ = w'.frozen? ⟨c, o, none⟩ := fun o => ho.frozen (p := ⟨c, o, none⟩) hgc hl
  exact ⟨⟨Nat.lt_of_lt_of_le hl ho.size, by rw [cc]; exact c0, ⟨i, hi, by rw [cc]; exact c1⟩, ⟨hh, by rw [cc]; exact c2⟩, by rw [ff]; exact f1, by rw [ff]; exact f2, h.bytes.only hon⟩, hon, h.bytes⟩

/-- Some notes and a look. -/
def GivenNs (w : World) (e : Ending) (w' : World) : Prop := ∃ v ns l, e = .returned (.tuple #[v, .int .i64 l]) ∧ NoSlc w' v ns ∧ (∀ x ∈ ns, NoD x) ∧ ns.length ≤ 13 ∧ Below w.heap.size w w'

def nfD (i : Nat) : Option Nat := match i with
  | 0 => some 19
  | 1 => some 20
  | 2 => some 21
  | 3 => some 22
  | 4 => some 23
  | 5 => some 24
  | 6 => some 25
  | 7 => some 26
  | 8 => some 2
  | 9 => some 3
  | _ => none

def nfF (sl : Value) (c g off d : Nat) (i : Nat) (v : Value) (W : World) : Prop := match i with
  | 0 => v = sl
  | 1 => v = sl
  | 2 => v = .pointer (some ⟨c, 0, none⟩)
  | 3 => v = .int .i64 (d : Int)
  | 4 => ∃ Z : Nat, Z < d ∧ v = .int .i64 (Z : Int)
  | 5 => ∃ Z : Nat, Z < d ∧ v = .pointer (some ⟨g, off + Z * 9, none⟩)
  | 6 => ∃ Z : Nat, Z < d ∧ v = .pointer (some ⟨g, off + Z * 9, none⟩)
  | 7 => ∃ l : Int, v = .int .i64 l
  | 8 => v = sl
  | 9 => ∃ l : Int, v = .int .i64 l
  | _ => True

theorem nfF_keep {sl : Value} {c g off d : Nat} {w w' : World} (j : Nat) (v : Value) (hj : j < 10) (h : nfF sl c g off d j v w) : nfF sl c g off d j v w' := h

end Go.Proofs.YtgaggpnlimchkaaGreatDoor.D9
