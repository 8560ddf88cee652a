/- A law on a region that draws its order: as Free10, where what an operation leaves is told by what is done (a block that is made and then stored into). -/
import Derived.Test.YtgaggpnlimchkaaGreatDoorFree10
import Derived.Test.YtgaggpnlimchkaaGreatDoorBase11
import Derived.Test.YtgaggpnlimchkaaGreatDoorDraw9
import Derived.Test.YtgaggpnlimchkaaGreatDoorDraw10
namespace Go.Proofs.YtgaggpnlimchkaaGreatDoor.B11
open Go.Proofs.YtgaggpnlimchkaaGreatDoor.RI Go.Proofs.YtgaggpnlimchkaaGreatDoor.B10
open Go.ChangeShapes Go.WideShapes Go.ChangeAt Go.RowKit
set_option linter.unusedVariables false

section
variable {P : Program} {ops : Array Oper} {Q : Exit → Act → World → Prop} {a : Act} {w : World}

/-- What holds while a region's operations are done, whatever they answer. -/
structure Free5 (ops : Array Oper) (a : Act) (F : Array Bool → Nat → Value → World → Prop) (B : Array Bool → World → Prop) (L : Array Bool) (A : Act) (W : World) : Prop where
  sz : A.tmps.size = a.tmps.size
  rs : A = { a with tmps := A.tmps }
  st : ∀ k, apart ops k = true → A.tmps[k]?.getD undef = a.tmps[k]?.getD undef
  on : ∀ j d, dstOf ops j = some d → L[j]?.getD false = true → F L j (A.tmps[d]?.getD undef) W
  un : ∀ j d, dstOf ops j = some d → L[j]?.getD false = false → A.tmps[d]?.getD undef = a.tmps[d]?.getD undef
  cl : ∀ j i, L[j]?.getD false = true → behind ops j i = true → L[i]?.getD false = true
  bs : B L W

theorem region_free5 {id : Nat} (hm : P.follows .mixedOrders = true) (F : Array Bool → Nat → Value → World → Prop) (B : Array Bool → World → Prop) (ms : List (Option Nat))
    (hok : okD ops a.tmps.size = true) (hms : okM ops ms = true) (hB : B (Array.replicate ops.size false) w.drew)
    (hs : ∀ i, i < ops.size → ∀ L A W, B L W → L.size = ops.size → L[i]?.getD false = false → (∀ j, behind ops j i = true → L[j]?.getD false = false) → (∀ j, behind ops i j = true → L[j]?.getD false = true) → (∀ j k, L[j]?.getD false = true → behind ops j k = true → L[k]?.getD false = true) → (∀ k, apart ops k = true → A.tmps[k]?.getD undef = a.tmps[k]?.getD undef) → (∀ j d, dstOf ops j = some d → behind ops j i = true → A.tmps[d]?.getD undef = a.tmps[d]?.getD undef) → (∀ j d, dstOf ops j = some d → L[j]?.getD false = true → F L j (A.tmps[d]?.getD undef) W) →
      wpOp P ops Q i (fun A' W' => ∃ v, A' = A.put (dstOf ops i) v ∧ B (L.setIfInBounds i true) W' ∧ F (L.setIfInBounds i true) i v W' ∧ ∀ j d, dstOf ops j = some d → j ≠ i → L[j]?.getD false = true → F L j (A.tmps[d]?.getD undef) W → F (L.setIfInBounds i true) j (A.tmps[d]?.getD undef) W') A W)
    (he : ∀ L W vs, (∀ j, j < ops.size → L[j]?.getD false = true) → B L W → (∀ j d, dstOf ops j = some d → F L j (vs[j]?.getD undef) W) → Q .normal { a with tmps := (mergeL vs ms a.tmps.toList).toArray } W) : (Code.region id ops true).wp P Q a w := by
  refine region_inv hm (fun L => Free5 ops a F B L) ⟨rfl, rfl, fun _ _ => rfl, fun j d _ hl => ?_, fun _ _ _ _ => rfl, fun j i hl _ => ?_, hB⟩ (fun L A W hL hJ i hi => ?_) (fun L A W hL hJ hr => ?_)
  · rw [Array.getElem?_replicate] at hl
    split at hl <;> cases hl
  · rw [Array.getElem?_replicate] at hl
    split at hl <;> cases hl
  · have hin : i < ops.size := by
      unfold Region.ready at hi
      rw [List.mem_filter] at hi
      simpa using hi.1
    obtain ⟨o, ho⟩ : ∃ o, ops[i]? = some o := ⟨_, Array.getElem?_eq_getElem hin⟩
    obtain ⟨hnot, hdep⟩ := ready_of hL ho hi
    have hbeh : ∀ j, behind ops j i = true → L[j]?.getD false = false := fun j hb => by
      cases hl : L[j]?.getD false
      · rfl
      · have := hJ.cl j i hl hb
        have hn : L[i]?.getD false = false := hnot
        rw [hn] at this; cases this
    refine wpOp_mono (fun A' W' hh => ?_) (hs i hin L A W hJ.bs hL hnot hbeh (fun j hb => behind_dep ho hdep hb) hJ.cl hJ.st (fun j d hd hb => hJ.un j d hd (hbeh j hb)) hJ.on)
    · obtain ⟨v, rfl, hB', hF, hK⟩ := hh
      have hlen : (valsOf ops A).length = ops.size := by unfold valsOf; simp
      have hi2 : ((valsOf ops A).set i v)[i]?.getD undef = v := by
        rw [List.getElem?_set_self (by omega)]; rfl
      have hne : ∀ j, j ≠ i → ((valsOf ops A).set i v)[j]?.getD undef = (valsOf ops A)[j]?.getD undef := fun j hj => by
        rw [List.getElem?_set_ne (Ne.symm hj)]
      have hD : Det ops ((valsOf ops A).set i v) a (fun _ => True) (fun j => j ≠ i) A W := ⟨hJ.sz, hJ.rs, hJ.st, fun j d hd hj => by rw [hne j hj, valsOf_at hd], trivial⟩
      have hP := hD.put (D' := fun _ => True) (w' := W') hok hin trivial (fun j _ => by
        by_cases e : j = i
        · exact Or.inl e
        · exact Or.inr e)
      rw [hi2] at hP
      have hset : (L.setIfInBounds i true)[i]?.getD false = true := by
        rw [Array.getElem?_setIfInBounds_self_of_lt (by omega)]; rfl
      refine ⟨hP.sz, hP.rs, hP.st, fun j d hd hl => ?_, fun j d hd hl => ?_, fun j k hl hb => ?_, hB'⟩
      · rw [hP.on j d hd trivial]
        by_cases e : j = i
        · subst e
          rw [hi2]; exact hF
        · rw [hne j e, valsOf_at hd]
          rw [Array.getElem?_setIfInBounds_ne (Ne.symm e)] at hl
          exact hK j d hd e hl (hJ.on j d hd hl)
      · by_cases e : j = i
        · subst e
          rw [hset] at hl; cases hl
        · rw [hP.on j d hd trivial, hne j e, valsOf_at hd]
          refine hJ.un j d hd ?_
          rwa [Array.getElem?_setIfInBounds_ne (Ne.symm e)] at hl
      · have hk : L[k]?.getD false = true := by
          by_cases e : j = i
          · subst e
            exact behind_dep ho hdep hb
          · rw [Array.getElem?_setIfInBounds_ne (Ne.symm e)] at hl
            exact hJ.cl j k hl hb
        by_cases e : k = i
        · subst e; exact hset
        · rw [Array.getElem?_setIfInBounds_ne (Ne.symm e)]; exact hk
  · have hall := ready_all (List.all_eq_true.2 fun i hi => by
      have := List.all_eq_true.1 hok i hi
      simp only [Bool.and_eq_true] at this
      exact this.1) hL hr
    have hD : Det ops (valsOf ops A) a (fun _ => True) (fun _ => True) A W := ⟨hJ.sz, hJ.rs, hJ.st, fun j d hd _ => (valsOf_at hd).symm, trivial⟩
    rw [hD.frame hok hms (fun _ _ => trivial)]
    exact he L W (valsOf ops A) hall hJ.bs (fun j d hd => by rw [valsOf_at hd]; exact hJ.on j d hd (hall j (dst_lt hd)))
end

end Go.Proofs.YtgaggpnlimchkaaGreatDoor.B11

namespace Go.Proofs.YtgaggpnlimchkaaGreatDoor.B11
open Go.Proofs.YtgaggpnlimchkaaGreatDoor.P1 Go.Proofs.YtgaggpnlimchkaaGreatDoor.B1 Go.Proofs.YtgaggpnlimchkaaGreatDoor.B2 Go.Proofs.YtgaggpnlimchkaaGreatDoor.T1 Go.Proofs.YtgaggpnlimchkaaGreatDoor.BT Go.Proofs.YtgaggpnlimchkaaGreatDoor.P5 Go.Proofs.YtgaggpnlimchkaaGreatDoor.B5 Go.Proofs.YtgaggpnlimchkaaGreatDoor.P6 Go.Proofs.YtgaggpnlimchkaaGreatDoor.P9 Go.Proofs.YtgaggpnlimchkaaGreatDoor.B6 Go.Proofs.YtgaggpnlimchkaaGreatDoor.B9 Go.Proofs.YtgaggpnlimchkaaGreatDoor.D1 Go.Proofs.YtgaggpnlimchkaaGreatDoor.D2 Go.Proofs.YtgaggpnlimchkaaGreatDoor.D5 Go.Proofs.YtgaggpnlimchkaaGreatDoor.DB Go.Proofs.YtgaggpnlimchkaaGreatDoor.D9 Go.Proofs.YtgaggpnlimchkaaGreatDoor.W8 Go.Proofs.YtgaggpnlimchkaaGreatDoor.RC Go.Proofs.YtgaggpnlimchkaaGreatDoor.RI Go.Proofs.YtgaggpnlimchkaaGreatDoor.P10 Go.Proofs.YtgaggpnlimchkaaGreatDoor.B10 Go.Proofs.YtgaggpnlimchkaaGreatDoor.P11
open Go.ChangeShapes Go.WideShapes Go.ChangeAt Go.RowKit
set_option linter.unusedVariables false

/-- A figure as a draw makes it. -/
def FiD (f : Fi) : Prop := (-1000 ≤ f.above ∧ f.above ≤ 1000) ∧ f.tag.length ≤ 100 ∧ f.id.length ≤ 100 ∧ f.bs.length ≤ 10 ∧ (∀ s ∈ f.bs, s.length ≤ 100) ∧ f.ns.length ≤ 10 ∧ ∀ x ∈ f.ns, NoD x

/-- Its badges and notes in rows of the call's own. -/
def OwnF (W : World) (B : Nat) (x : Fv) : Prop := Words W x.u B x.f.bs ∧ RC.Own 107 9 W x.n B (noRs x.f.ns)

theorem ownN_only {W W' : World} {B b : Nat} {v : Value} {ns : List No} (h : RC.Own 107 9 W v B (noRs ns)) (ho : Only b W W') (hne : some b ≠ v.ownBlock) : RC.Own 107 9 W' v B (noRs ns) := ⟨own_otherA h.1 ho hne, h.2⟩

theorem ownN_far {W W' : World} {B c : Nat} {v : Value} {ns : List No} (h : RC.Own 107 9 W v B (noRs ns)) (ho : Only c W W') (hc : c < B) : RC.Own 107 9 W' v B (noRs ns) := ⟨own_onlyA h.1 ho hc, h.2⟩

theorem ownN_alloc {W : World} {B : Nat} {v : Value} {ns : List No} (h : RC.Own 107 9 W v B (noRs ns)) (o : Obj) : RC.Own 107 9 (W.alloc o) v B (noRs ns) := ⟨World.ownsRow.alloc h.1 o, h.2⟩

theorem row_low {w : World} {B B' e s n : Nat} {v : Value} {xs : List Value} (h : w.ownsRow B e s v n xs) (hb : B' ≤ B) : w.ownsRow B' e s v n xs := ⟨h.1, by
  rcases h.2 with hn | ⟨g, cap, cur, hv, hbg, rest⟩
  · exact .inl hn
  · exact .inr ⟨g, cap, cur, hv, Nat.le_trans hb hbg, rest⟩⟩

/-- Between the parts of a draw: the figure that is being made lies in block bp, the result's block is w.heap.size. -/
structure InF (c : Nat) (a : Option Addr) (len cap : Nat) (w : World) (bp : Nat) (u n : Value) (ss : List (List UInt8)) (ns : List No) (W : World) : Prop where
  fr : Fr c a len cap w W
  z : LBlk W w.heap.size fiZ
  blk : ∃ abv tag id, (-1000 ≤ abv ∧ abv ≤ 1000) ∧ tag.length ≤ 100 ∧ id.length ≤ 100 ∧ LBlk W bp [.int .i64 abv, .string ⟨(tag : List UInt8).toArray⟩, .string ⟨(id : List UInt8).toArray⟩, u, n]
  bs : Words W u w.heap.size ss
  nt : RC.Own 107 9 W n w.heap.size (noRs ns)
  lo : w.heap.size < bp
  n1 : some bp ≠ u.ownBlock
  n2 : some bp ≠ n.ownBlock
  z1 : some w.heap.size ≠ u.ownBlock
  z2 : some w.heap.size ≠ n.ownBlock
  hc : c < w.heap.size
  okS : (∀ s ∈ ss, s.length ≤ 100) ∧ ss.length ≤ 10
  okN : (∀ x ∈ ns, NoD x) ∧ ns.length ≤ 10

theorem InF.call {c : Nat} {a : Option Addr} {len cap : Nat} {w : World} {bp : Nat} {u n : Value} {ss : List (List UInt8)} {ns : List No} {W W' : World} (h : InF c a len cap w bp u n ss ns W) (hc : Cur W' c a len cap) (ho : Only c W W') : InF c a len cap w bp u n ss ns W' := by
  obtain ⟨abv, tag, id, h0, h1, h2, hl⟩ := h.blk
  have := h.lo
  have := h.hc
  exact ⟨h.fr.call hc ho, h.z.only ho (by omega), ⟨abv, tag, id, h0, h1, h2, hl.only ho (by omega)⟩, own_onlyA h.bs ho h.hc, ownN_far h.nt ho h.hc, h.lo, h.n1, h.n2, h.z1, h.z2, h.hc, h.okS, h.okN⟩

theorem InF.alloc {c : Nat} {a : Option Addr} {len cap : Nat} {w : World} {bp : Nat} {u n : Value} {ss : List (List UInt8)} {ns : List No} {W : World} (h : InF c a len cap w bp u n ss ns W) (o : Obj) : InF c a len cap w bp u n ss ns (W.alloc o) := by
  obtain ⟨abv, tag, id, h0, h1, h2, hl⟩ := h.blk
  exact ⟨h.fr.alloc o, h.z.alloc o, ⟨abv, tag, id, h0, h1, h2, hl.alloc o⟩, World.ownsRow.alloc h.bs o, ownN_alloc h.nt o, h.lo, h.n1, h.n2, h.z1, h.z2, h.hc, h.okS, h.okN⟩

theorem InF.drew {c : Nat} {a : Option Addr} {len cap : Nat} {w : World} {bp : Nat} {u n : Value} {ss : List (List UInt8)} {ns : List No} {W : World} (h : InF c a len cap w bp u n ss ns W) : InF c a len cap w bp u n ss ns W.drew := h.call h.fr.cur.drew (Only.refl _ _).drew

theorem InF.put {c : Nat} {a : Option Addr} {len cap : Nat} {w : World} {bp : Nat} {u n : Value} {ss : List (List UInt8)} {ns : List No} {W : World} (h : InF c a len cap w bp u n ss ns W) (j : Nat) (x : Value) (hb : ∃ abv tag id, (-1000 ≤ abv ∧ abv ≤ 1000) ∧ tag.length ≤ 100 ∧ id.length ≤ 100 ∧ LBlk (W.setCell ⟨bp, j, none⟩ x) bp [.int .i64 abv, .string ⟨(tag : List UInt8).toArray⟩, .string ⟨(id : List UInt8).toArray⟩, u, n]) : InF c a len cap w bp u n ss ns (W.setCell ⟨bp, j, none⟩ x) := by
  have ho := only_set W bp j x
  have := h.lo
  have := h.hc
  exact ⟨h.fr.set (Nat.le_of_lt h.lo) (by omega) j _, h.z.only ho (by omega), hb, own_otherA h.bs ho h.n1, ownN_only h.nt ho h.n2, h.lo, h.n1, h.n2, h.z1, h.z2, h.hc, h.okS, h.okN⟩

theorem InF.abv {c : Nat} {a : Option Addr} {len cap : Nat} {w : World} {bp : Nat} {u n : Value} {ss : List (List UInt8)} {ns : List No} {W : World} (h : InF c a len cap w bp u n ss ns W) {z : Int} (hz : -1000 ≤ z ∧ z ≤ 1000) : InF c a len cap w bp u n ss ns (W.setCell ⟨bp, 0, none⟩ (.int .i64 z)) := by
  obtain ⟨abv, tag, id, h0, h1, h2, hl⟩ := h.blk
  exact h.put 0 _ ⟨z, tag, id, hz, h1, h2, hl.set 0 _ (by simp)⟩

theorem InF.ident {c : Nat} {a : Option Addr} {len cap : Nat} {w : World} {bp : Nat} {u n : Value} {ss : List (List UInt8)} {ns : List No} {W : World} (h : InF c a len cap w bp u n ss ns W) {s : List UInt8} (hs : s.length ≤ 100) : InF c a len cap w bp u n ss ns (W.setCell ⟨bp, 2, none⟩ (.string ⟨s.toArray⟩)) := by
  obtain ⟨abv, tag, id, h0, h1, h2, hl⟩ := h.blk
  exact h.put 2 _ ⟨abv, tag, s, h0, h1, hs, hl.set 2 _ (by simp)⟩

theorem InF.notes {c : Nat} {a : Option Addr} {len cap : Nat} {w : World} {bp : Nat} {u n n' : Value} {ss : List (List UInt8)} {ns ns' : List No} {W : World} (h : InF c a len cap w bp u n ss ns W) (hn : RC.Own 107 9 W n' w.heap.size (noRs ns')) (h1 : some bp ≠ n'.ownBlock) (h2 : some w.heap.size ≠ n'.ownBlock) (hok : (∀ x ∈ ns', NoD x) ∧ ns'.length ≤ 10) : InF c a len cap w bp u n' ss ns' (W.setCell ⟨bp, 4, none⟩ n') := by
  obtain ⟨abv, tag, id, k0, k1, k2, hl⟩ := h.blk
  have ho := only_set W bp 4 n'
  have := h.lo
  have := h.hc
  exact ⟨h.fr.set (Nat.le_of_lt h.lo) (by omega) 4 _, h.z.only ho (by omega), ⟨abv, tag, id, k0, k1, k2, hl.set 4 n' (by simp)⟩, own_otherA h.bs ho h.n1, ownN_only hn ho h1, h.lo, h.n1, h1, h.z1, h2, h.hc, h.okS, hok⟩

/-! ### The region that makes the figure -/

def FullF (w : World) (z : Int) (b : Nat) (W : World) : Prop := ∃ s u ss, s ∈ tagWords ∧ LBlk W b [.int .i64 z, .string ⟨(s : List UInt8).toArray⟩, .string ⟨#[]⟩, u, .slice none 0 0] ∧ Words W u w.heap.size ss ∧ some b ≠ u.ownBlock ∧ some w.heap.size ≠ u.ownBlock ∧ (∀ s ∈ ss, s.length ≤ 100) ∧ ss.length ≤ 10

def fD (w : World) (c : Nat) (nn : Int) (L : Array Bool) (i : Nat) (v : Value) (W : World) : Prop := match i with
  | 0 => v = .int .i64 nn
  | 1 => v = .int .i64 (nn - 1)
  | 2 => ∃ b, v = .slice (some ⟨b, 0, none⟩) 3 3 ∧ w.heap.size ≤ b ∧ LBlk W b (wordsV tagWords)
  | 3 => v = .pointer (some ⟨c, 0, none⟩)
  | 4 => ∃ K : Nat, v = .int .i64 (K : Int) ∧ K < 3
  | 5 => ∃ b K, v = .pointer (some ⟨b, K, none⟩) ∧ w.heap.size ≤ b ∧ LBlk W b (wordsV tagWords) ∧ K < 3
  | 6 => ∃ s, v = .string ⟨(s : List UInt8).toArray⟩ ∧ s ∈ tagWords
  | 7 => v = .pointer (some ⟨c, 0, none⟩)
  | 8 => ∃ ss, Words W v w.heap.size ss ∧ some w.heap.size ≠ v.ownBlock ∧ (∀ s ∈ ss, s.length ≤ 100) ∧ ss.length ≤ 10
  | 9 => ∃ s u ss, v = .agg #[.int .i64 (nn - 1), .string ⟨(s : List UInt8).toArray⟩, .string ⟨#[]⟩, u, .slice none 0 0] ∧ s ∈ tagWords ∧ Words W u w.heap.size ss ∧ some w.heap.size ≠ u.ownBlock ∧ (∀ s ∈ ss, s.length ≤ 100) ∧ ss.length ≤ 10
  | 10 => ∃ b, v = .pointer (some ⟨b, 0, none⟩) ∧ w.heap.size < b ∧ (if L[11]?.getD false = true then FullF w (nn - 1) b W else LBlk W b fiZ ∧ ∃ cs z, W.heap[b]? = some (.cells cs 28 z))
  | _ => True

theorem fD_keep9 {w : World} {c : Nat} {nn : Int} {L L' : Array Bool} {W W' : World} (hl : ∀ b, w.heap.size ≤ b → LBlk W b (wordsV tagWords) → LBlk W' b (wordsV tagWords)) (hw : ∀ v ss, Words W v w.heap.size ss → Words W' v w.heap.size ss) (i : Nat) (hi : i ≠ 10) (v : Value) (h : fD w c nn L i v W) : fD w c nn L' i v W' := by
  unfold fD at h ⊢
  split <;> first
    | exact h
    | trivial
    | (obtain ⟨b, e, hb, hx⟩ := h; exact ⟨b, e, hb, hl _ hb hx⟩)
    | (obtain ⟨b, K, e, hb, hx, hk⟩ := h; exact ⟨b, K, e, hb, hl _ hb hx, hk⟩)
    | (obtain ⟨ss, hx, h2⟩ := h; exact ⟨ss, hw _ _ hx, h2⟩)
    | (obtain ⟨s, u, ss, e, hs, hx, h2⟩ := h; exact ⟨s, u, ss, e, hs, hw _ _ hx, h2⟩)
    | exact absurd rfl hi

/-- What a step that writes no block of ours but the cursor's keeps. -/
theorem fD_keep {w : World} {c : Nat} {nn : Int} {L L' : Array Bool} {W W' : World} (hL : L'[11]?.getD false = L[11]?.getD false) (hl : ∀ b vs, w.heap.size ≤ b → LBlk W b vs → LBlk W' b vs) (hw : ∀ v ss, Words W v w.heap.size ss → Words W' v w.heap.size ss) (hh : ∀ b o, w.heap.size ≤ b → W.heap[b]? = some o → W'.heap[b]? = some o) (i : Nat) (v : Value) (h : fD w c nn L i v W) : fD w c nn L' i v W' := by
  by_cases hi : i = 10
  · subst hi
    obtain ⟨b, e, hb, hx⟩ := h
    refine ⟨b, e, hb, ?_⟩
    rw [hL]
    by_cases h11 : L[11]?.getD false = true
    · rw [if_pos h11] at hx ⊢
      obtain ⟨s, u, ss, h1, h2, h3, h4⟩ := hx
      exact ⟨s, u, ss, h1, hl _ _ (Nat.le_of_lt hb) h2, hw _ _ h3, h4⟩
    · rw [if_neg h11] at hx ⊢
      obtain ⟨h1, cs, z, h2⟩ := hx
      exact ⟨hl _ _ (Nat.le_of_lt hb) h1, cs, z, hh _ _ (Nat.le_of_lt hb) h2⟩
  · exact fD_keep9 (fun b hb h => hl b _ hb h) hw i hi v h

theorem fD_alloc {w : World} {c : Nat} {nn : Int} {L L' : Array Bool} {W : World} (hL : L'[11]?.getD false = L[11]?.getD false) (hc : c < w.heap.size) (o : Obj) (i : Nat) (v : Value) (h : fD w c nn L i v W) : fD w c nn L' i v (W.alloc o) :=
  fD_keep hL (fun b vs _ h => h.alloc o) (fun v ss h => World.ownsRow.alloc h o) (fun b o' _ h => (((Below.refl W.heap.size W).alloc (Nat.le_refl _) o).block b (Array.getElem?_eq_some_iff.1 h).1).trans h) i v h

theorem fD_call {w : World} {c : Nat} {nn : Int} {L L' : Array Bool} {W W' : World} (hL : L'[11]?.getD false = L[11]?.getD false) (hc : c < w.heap.size) (ho : Only c W W') (i : Nat) (v : Value) (h : fD w c nn L i v W) : fD w c nn L' i v W' :=
  fD_keep hL (fun b vs hb h => h.only ho (by omega)) (fun v ss h => own_onlyA h ho hc) (fun b o' hb h => (ho.block b (by omega) (Array.getElem?_eq_some_iff.1 h).1).trans h) i v h

theorem fD_same {w : World} {c : Nat} {nn : Int} {L L' : Array Bool} {W : World} (hL : L'[11]?.getD false = L[11]?.getD false) (hc : c < w.heap.size) (i : Nat) (v : Value) (h : fD w c nn L i v W) : fD w c nn L' i v W :=
  fD_keep hL (fun b vs _ h => h) (fun v ss h => h) (fun b o' _ h => h) i v h

def BD (c : Nat) (a : Option Addr) (len cap : Nat) (w : World) (L : Array Bool) (W : World) : Prop := Fr c a len cap w W ∧ LBlk W w.heap.size fiZ

theorem words_apart {W : World} {B b : Nat} {u : Value} {ss : List (List UInt8)} (h : Words W u B ss) {cs : Array Value} {z : Nat × Nat} (hb : W.heap[b]? = some (.cells cs 28 z)) : some b ≠ u.ownBlock := by
  rcases h.2 with ⟨hu, _⟩ | ⟨g, cap, cur, rfl, _, hg, _⟩
  · subst hu; intro e; cases e
  · intro e
    have e1 : b = g := by
      have := Option.some.inj e
      exact this
    subst e1
    rw [hg] at hb
    have := Option.some.inj hb
    injection this with _ h2 _
    exact absurd h2 (by decide)

/-- A figure of the call's own. -/
def DrawnFi (c : Nat) (a : Option Addr) (len cap : Nat) (w : World) (e : Ending) (w' : World) : Prop :=
  ∃ x : Fv, e = .returned (fiV x) ∧ OwnF w' w.heap.size x ∧ FiD x.f ∧ Cur w' c a len cap ∧ Only c w w'

set_option maxRecDepth 20000 in
set_option maxHeartbeats 8000000 in
theorem DrawFigure_draw (w : World) (c : Nat) (a : Option Addr) (len cap : Nat) (nn : Int) (hn0 : 0 ≤ nn) (hn1 : nn ≤ 100) (h : Cur w c a len cap) :
    Calls Tryz.prog 42 #[.pointer (some ⟨c, 0, none⟩), .int .i64 nn] w (DrawnFi c a len cap w) := by
  have hcw := h.lt
  have hsub : IntKind.i64.wrap (nn - 1) = nn - 1 := by rw [IntKind.wrap_i64]; omega
  have hF1 := (Fr.refl h).alloc (.cells #[.int .i64 0, .string ⟨#[]⟩, .string ⟨#[]⟩, .slice none 0 0, .slice none 0 0] 28)
  have hz1 := LBlk.new w fiZ 28
  clear h
  go_enter Tryz.func42, Tryz.ntmps42
  go_upto_region 1 with (fail)
  go_cut [5] from 5 to 35 (fun s5 wx => ∃ bp u ss, s5 = .pointer (some ⟨bp, 0, none⟩) ∧ InF c a len cap w bp u (.slice none 0 0) ss [] wx)
  case first =>
    skip
    refine region_free5 (by kernel_rfl) (fD w c nn) (BD c a len cap w) (none :: none :: none :: none :: none :: some 10 :: some 0 :: some 1 :: some 2 :: some 3 :: some 4 :: some 5 :: some 6 :: some 7 :: some 8 :: some 9 :: none :: none :: none :: none :: none :: none :: none :: none :: none :: none :: none :: none :: none :: none :: none :: none :: none :: none :: none :: none :: []) (by kernel_rfl) (by kernel_rfl) ⟨hF1.call hF1.cur.drew (Only.refl _ _).drew, hz1.drew⟩ ?_ ?_
    · intro i hi L A W hB hLs hLi hbeh hdn hcl hst hun hA
      have hi2 : i < 12 := hi
      have hcase : i = 0 ∨ i = 1 ∨ i = 2 ∨ i = 3 ∨ i = 4 ∨ i = 5 ∨ i = 6 ∨ i = 7 ∨ i = 8 ∨ i = 9 ∨ i = 10 ∨ i = 11 := by omega
      clear hi hi2
      rcases hcase with rfl | rfl | rfl | rfl | rfl | rfl | rfl | rfl | rfl | rfl | rfl | rfl
      · skip
        have s1 : A.tmps[1]?.getD undef = .int .i64 nn := (hst 1 (by kernel_rfl)).trans rfl
        exact wpOp_of rfl rfl (wp_value (v := .int .i64 nn) (W' := W) (by simp [execOp, Act.eval, s1, go_sem]) ⟨_, rfl, hB, rfl, fun j d _ _ _ h => fD_same (by rw [Array.getElem?_setIfInBounds_ne (by decide)]) hcw j _ h⟩)
      · skip
        have s6 : A.tmps[6]?.getD undef = .int .i64 nn := hA 0 6 (by kernel_rfl) (hdn 0 (by kernel_rfl))
        exact wpOp_of rfl rfl (wp_value (v := .int .i64 (nn - 1)) (W' := W) (by simp [execOp, Act.eval, s6, go_sem, hsub]) ⟨_, rfl, hB, rfl, fun j d _ _ _ h => fD_same (by rw [Array.getElem?_setIfInBounds_ne (by decide)]) hcw j _ h⟩)
      · refine wpOp_of rfl rfl (wp_value (v := .slice (some ⟨W.heap.size, 0, none⟩) 3 3) (W' := W.alloc (.cells #[.string ⟨#[98, 111, 120]⟩, .string ⟨#[109, 97, 110]⟩, .string ⟨#[115, 117, 110]⟩] 9)) (by simp [execOp, Act.eval, go_sem]) ⟨_, rfl, ⟨hB.1.alloc _, hB.2.alloc _⟩, ⟨W.heap.size, rfl, hB.1.only.size, LBlk.new W (wordsV tagWords) 9⟩, fun j d _ _ _ h => fD_alloc (by rw [Array.getElem?_setIfInBounds_ne (by decide)]) hcw _ j _ h⟩)
      · skip
        have s0 : A.tmps[0]?.getD undef = .pointer (some ⟨c, 0, none⟩) := (hst 0 (by kernel_rfl)).trans rfl
        exact wpOp_of rfl rfl (wp_value (v := .pointer (some ⟨c, 0, none⟩)) (W' := W) (by simp [execOp, Act.eval, s0, go_sem]) ⟨_, rfl, hB, rfl, fun j d _ _ _ h => fD_same (by rw [Array.getElem?_setIfInBounds_ne (by decide)]) hcw j _ h⟩)
      · have s9 : A.tmps[9]?.getD undef = .pointer (some ⟨c, 0, none⟩) := hA 3 9 (by kernel_rfl) (hdn 3 (by kernel_rfl))
        refine wpOp_of rfl rfl (wp_enter (f := 48) (args := #[.pointer (some ⟨c, 0, none⟩), .int .i64 3]) (by simp [execOp, Act.eval, s9, go_sem]) ?_)
        refine (Below_draw _ c a len cap 3 hB.1.cur).mono ?_
        rintro e w' ⟨l, ⟨hl0, hl1, _⟩, rfl, hc2, hon2⟩
        have hl1' := hl1 (by omega)
        obtain ⟨K, rfl⟩ : ∃ K : Nat, l = (K : Int) := ⟨l.toNat, by omega⟩
        exact ⟨_, rfl, _, rfl, ⟨hB.1.call hc2 hon2, hB.2.only hon2 (by omega)⟩, ⟨K, rfl, by omega⟩, fun j d _ _ _ h => fD_call (by rw [Array.getElem?_setIfInBounds_ne (by decide)]) hcw hon2 j _ h⟩
      · obtain ⟨b, s8, hb, hlb⟩ : ∃ b, A.tmps[8]?.getD undef = .slice (some ⟨b, 0, none⟩) 3 3 ∧ w.heap.size ≤ b ∧ LBlk W b (wordsV tagWords) := hA 2 8 (by kernel_rfl) (hdn 2 (by kernel_rfl))
        obtain ⟨K, s10, hK⟩ : ∃ K : Nat, A.tmps[10]?.getD undef = .int .i64 (K : Int) ∧ K < 3 := hA 4 10 (by kernel_rfl) (hdn 4 (by kernel_rfl))
        have hK3 : (K : Int) < 3 := by omega
        have hK0 : (0 : Int) ≤ (K : Int) := by omega
        exact wpOp_of rfl rfl (wp_value (v := .pointer (some ⟨b, K, none⟩)) (W' := W) (by simp [execOp, Act.eval, s8, s10, go_sem, hK3, hK0]) ⟨_, rfl, hB, ⟨b, K, rfl, hb, hlb, hK⟩, fun j d _ _ _ h => fD_same (by rw [Array.getElem?_setIfInBounds_ne (by decide)]) hcw j _ h⟩)
      · obtain ⟨b, K, s11, hb, hlb, hK⟩ : ∃ b K, A.tmps[11]?.getD undef = .pointer (some ⟨b, K, none⟩) ∧ w.heap.size ≤ b ∧ LBlk W b (wordsV tagWords) ∧ K < 3 := hA 5 11 (by kernel_rfl) (hdn 5 (by kernel_rfl))
        obtain ⟨s, hsm, cs⟩ := picked hlb (K := K) (by show K < 3; omega)
        exact wpOp_of rfl rfl (wp_value (v := .string ⟨s.toArray⟩) (W' := W) (by simp [execOp, Act.eval, s11, go_sem, cs]) ⟨_, rfl, hB, ⟨s, rfl, hsm⟩, fun j d _ _ _ h => fD_same (by rw [Array.getElem?_setIfInBounds_ne (by decide)]) hcw j _ h⟩)
      · skip
        have s0 : A.tmps[0]?.getD undef = .pointer (some ⟨c, 0, none⟩) := (hst 0 (by kernel_rfl)).trans rfl
        exact wpOp_of rfl rfl (wp_value (v := .pointer (some ⟨c, 0, none⟩)) (W' := W) (by simp [execOp, Act.eval, s0, go_sem]) ⟨_, rfl, hB, rfl, fun j d _ _ _ h => fD_same (by rw [Array.getElem?_setIfInBounds_ne (by decide)]) hcw j _ h⟩)
      · have s13 : A.tmps[13]?.getD undef = .pointer (some ⟨c, 0, none⟩) := hA 7 13 (by kernel_rfl) (hdn 7 (by kernel_rfl))
        refine wpOp_of rfl rfl (wp_enter (f := 78) (args := #[.pointer (some ⟨c, 0, none⟩), .int .i64 3]) (by simp [execOp, Act.eval, s13, go_sem]) ?_)
        refine (DrawBadges_draw _ c a len cap 3 (by decide) (by decide) hB.1.cur).mono ?_
        rintro e w' ⟨u, ss, rfl, hu, hus, hul, hc3, hon3⟩
        have hz : w.heap.size < W.heap.size := hB.2.1
        exact ⟨_, rfl, _, rfl, ⟨hB.1.call hc3 hon3, hB.2.only hon3 (by omega)⟩, ⟨ss, row_low hu hB.1.only.size, (fun e => by have := (World.ownsRow.lt hu _ e.symm).1; omega), hus, by omega⟩, fun j d _ _ _ h => fD_call (by rw [Array.getElem?_setIfInBounds_ne (by decide)]) hcw hon3 j _ h⟩
      · have s7 : A.tmps[7]?.getD undef = .int .i64 (nn - 1) := hA 1 7 (by kernel_rfl) (hdn 1 (by kernel_rfl))
        obtain ⟨s, s12, hs⟩ : ∃ s, A.tmps[12]?.getD undef = .string ⟨(s : List UInt8).toArray⟩ ∧ s ∈ tagWords := hA 6 12 (by kernel_rfl) (hdn 6 (by kernel_rfl))
        obtain ⟨ss, hw, h14⟩ : ∃ ss, Words W (A.tmps[14]?.getD undef) w.heap.size ss ∧ some w.heap.size ≠ (A.tmps[14]?.getD undef).ownBlock ∧ (∀ s ∈ ss, s.length ≤ 100) ∧ ss.length ≤ 10 := hA 8 14 (by kernel_rfl) (hdn 8 (by kernel_rfl))
        obtain ⟨u, hu⟩ : ∃ u, A.tmps[14]?.getD undef = u := ⟨_, rfl⟩
        rw [hu] at hw h14
        obtain ⟨au, cu, eu⟩ := words_shapeA hw
        subst eu
        exact wpOp_of rfl rfl (wp_value (v := .agg #[.int .i64 (nn - 1), .string ⟨s.toArray⟩, .string ⟨#[]⟩, .slice au ss.length cu, .slice none 0 0]) (W' := W) (by simp [execOp, Act.eval, s7, s12, hu, go_sem]) ⟨_, rfl, hB, ⟨s, .slice au ss.length cu, ss, rfl, hs, hw, h14⟩, fun j d _ _ _ h => fD_same (by rw [Array.getElem?_setIfInBounds_ne (by decide)]) hcw j _ h⟩)
      · have hL11 : L[11]?.getD false = false := hbeh 11 (by kernel_rfl)
        have hz : w.heap.size < W.heap.size := hB.2.1
        refine wpOp_of rfl rfl (wp_value (v := .pointer (some ⟨W.heap.size, 0, none⟩)) (W' := W.alloc (.cells #[.int .i64 0, .string ⟨#[]⟩, .string ⟨#[]⟩, .slice none 0 0, .slice none 0 0] 28)) (by simp [execOp, go_sem]) ⟨_, rfl, ⟨hB.1.alloc _, hB.2.alloc _⟩, ⟨W.heap.size, rfl, hz, ?_⟩, fun j d _ _ _ h => fD_alloc (by rw [Array.getElem?_setIfInBounds_ne (by decide)]) hcw _ j _ h⟩)
        rw [Array.getElem?_setIfInBounds_ne (by decide), if_neg (by rw [hL11]; decide)]
        exact ⟨LBlk.new W fiZ 28, _, _, World.alloc_heap_new W _⟩
      · obtain ⟨s, u, ss, s15, hs, hw, h15⟩ : ∃ s u ss, A.tmps[15]?.getD undef = .agg #[.int .i64 (nn - 1), .string ⟨(s : List UInt8).toArray⟩, .string ⟨#[]⟩, u, .slice none 0 0] ∧ s ∈ tagWords ∧ Words W u w.heap.size ss ∧ some w.heap.size ≠ u.ownBlock ∧ (∀ s ∈ ss, s.length ≤ 100) ∧ ss.length ≤ 10 := hA 9 15 (by kernel_rfl) (hdn 9 (by kernel_rfl))
        obtain ⟨b, s5, hb, hx⟩ : ∃ b, A.tmps[5]?.getD undef = .pointer (some ⟨b, 0, none⟩) ∧ w.heap.size < b ∧ (if L[11]?.getD false = true then FullF w (nn - 1) b W else LBlk W b fiZ ∧ ∃ cs z, W.heap[b]? = some (.cells cs 28 z)) := hA 10 5 (by kernel_rfl) (hdn 10 (by kernel_rfl))
        rw [if_neg (by rw [hLi]; decide)] at hx
        obtain ⟨hlb, cs, z, hob⟩ := hx
        have hap := words_apart hw hob
        obtain ⟨au, cu, eu⟩ := words_shapeA hw
        obtain ⟨w3, hst3, hl3, ho3, hs3⟩ := store_blk (P := Tryz.prog) (ty := 28) (vs := [.int .i64 (nn - 1), .string ⟨s.toArray⟩, .string ⟨#[]⟩, u, .slice none 0 0]) hlb fi_wide rfl (by rw [eu]; rfl)
        refine wpOp_of rfl rfl (wp_stored (W' := w3) (exec_store rfl (by simpa [Act.eval] using s5) (by simpa [Act.eval] using s15) hst3) ⟨undef, rfl, ⟨fr_far hB.1 ho3 (Nat.le_of_lt hb) hcw, hB.2.only ho3 (by omega)⟩, trivial, fun j d hd hj hl h => ?_⟩)
        by_cases h10 : j = 10
        · subst h10
          obtain rfl : d = 5 := (Option.some.inj hd).symm
          rw [s5]
          exact ⟨b, rfl, hb, by rw [if_pos (by rw [Array.getElem?_setIfInBounds_self_of_lt (by rw [hLs]; decide)]; rfl)]; exact ⟨s, u, ss, hs, hl3, own_otherA hw ho3 hap, hap, h15⟩⟩
        · refine fD_keep9 (fun b' hb' hb2 => hb2.only ho3 (fun e => ?_)) (fun v' ss' h' => own_otherA h' ho3 (words_apart h' hob)) j h10 _ h
          subst e
          have e1 := (hb2.2 0 _ rfl).1
          rw [(hlb.2 0 _ rfl).1] at e1
          cases e1
    intro L8 W8 vs hall hB8 hfs
    obtain ⟨b5, e5, hb5, hx⟩ : ∃ b, vs[10]?.getD undef = .pointer (some ⟨b, 0, none⟩) ∧ w.heap.size < b ∧ (if L8[11]?.getD false = true then FullF w (nn - 1) b W8 else LBlk W8 b fiZ ∧ ∃ cs z, W8.heap[b]? = some (.cells cs 28 z)) := hfs 10 5 (by kernel_rfl)
    rw [if_pos (hall 11 (by decide))] at hx
    obtain ⟨s, u, ss, hs, hl, hw, ha, hzz, hok⟩ := hx
    have hs100 : s.length ≤ 100 := by
      have : ∀ x ∈ tagWords, x.length ≤ 100 := by decide
      exact this s hs
    have hres : InF c a len cap w b5 u (.slice none 0 0) ss [] W8 := ⟨hB8.1, hB8.2, ⟨nn - 1, s, [], by omega, hs100, by decide, hl⟩, hw, ⟨World.ownsRow_nil _ _ _ _, fun r hr => (by cases hr)⟩, hb5, ha, (fun e => by cases e), hzz, (fun e => by cases e), hcw, hok, ⟨fun x hx => (by cases hx), by decide⟩⟩
    clear hfs hB8 hall hl hw
    simp only [RI.mergeL]
    rw [e5]
    go_wp2_with fail
    go_meet
    exact ⟨b5, u, ss, rfl, hres⟩
  case rest =>
    obtain ⟨bp, u, ss, rfl, hI⟩ := hcut
    clear hF1 hz1
    go_upto_if 17 with (fail)
    go_cut [] from 6 to 35 (fun wx => InF c a len cap w bp u (.slice none 0 0) ss [] wx)
    case first =>
      by_cases hn : 0 < nn
      · go_wp2_with fail
        refine (Below_draw _ c a len cap nn hI.fr.cur).mono ?_
        rintro e w6 ⟨l, ⟨hl0, hl1, _⟩, rfl, hc6, hon6⟩
        have hl1' := hl1 hn
        have hI6 := hI.call hc6 hon6
        obtain ⟨abv, t1, t2, _, _, _, hf⟩ := hI6.blk
        obtain ⟨d0, f0⟩ := hf.2 0 _ rfl
        have hI7 := hI6.abv (z := l) (by omega)
        clear hI hc6 hon6 hI6 hf
        go_wp2_with fail
        go_meet
        exact hI7
      · go_wp2_with fail
        go_meet
        exact hI
    case rest =>
      clear hI
      go_wp2_with fail
      refine (Once_draw _ c a len cap 4 hcut.fr.cur).mono ?_
      rintro e w5 ⟨q, rfl, hc5, ho5⟩
      have hI5 := hcut.call hc5 ho5
      clear hcut ho5 hc5
      go_upto_if 23 with (fail)
      go_cut [] from 6 to 35 (fun wx => InF c a len cap w bp u (.slice none 0 0) ss [] wx)
      case first =>
        cases q
        · go_wp2_with fail
          go_meet
          exact hI5
        · have hIa := hI5.alloc (.cells #[.string ⟨#[97]⟩, .string ⟨#[98]⟩] 9)
          have hla : LBlk (w5.alloc (.cells #[.string ⟨#[97]⟩, .string ⟨#[98]⟩] 9)) w5.heap.size (wordsV idWords) := LBlk.new w5 (wordsV idWords) 9
          have hcr : w5.heap.size ≠ c := Nat.ne_of_gt hI5.fr.cur.lt
          go_wp2_with fail
          refine (Below_draw _ c a len cap 2 hIa.fr.cur).mono ?_
          rintro e w7 ⟨l, ⟨hl0, hl1, _⟩, rfl, hc7, hon7⟩
          have hl1' := hl1 (by omega)
          obtain ⟨K, rfl⟩ : ∃ K : Nat, l = (K : Int) := ⟨l.toNat, by omega⟩
          have hI7 := hIa.call hc7 hon7
          obtain ⟨s, hsm, cs⟩ := picked (hla.only hon7 hcr) (K := K) (by show K < 2; omega)
          have hs100 : s.length ≤ 100 := by
            have : ∀ x ∈ idWords, x.length ≤ 100 := by decide
            exact this s hsm
          have hK3 : (K : Int) < 2 := by omega
          have hK0 : (0 : Int) ≤ (K : Int) := by omega
          obtain ⟨abv, t1, t2, _, _, _, hf⟩ := hI7.blk
          obtain ⟨d2, f2⟩ := hf.2 2 _ rfl
          have hI8 := hI7.ident hs100
          clear hI5 hIa hla hcr hc7 hon7 hl0 hl1 hl1' hsm hI7 hf
          go_wp2_with fail
          go_meet
          exact hI8
      case rest =>
        clear hI5
        go_wp2_with fail
        refine (Once_draw _ c a len cap 3 hcut.fr.cur).mono ?_
        rintro e w6 ⟨q2, rfl, hc6, ho6⟩
        have hI6 := hcut.call hc6 ho6
        clear hcut hc6 ho6
        go_upto_if 31 with (fail)
        go_cut [] from 6 to 35 (fun wx => ∃ n ns, InF c a len cap w bp u n ss ns wx)
        case first =>
          cases q2
          · go_wp2_with fail
            go_meet
            exact ⟨_, _, hI6⟩
          · go_wp2_with fail
            refine (l9Draw_draw _ c a len cap 3 (by decide) (by decide) hI6.fr.cur).mono ?_
            rintro e w7 ⟨v, ns, rfl, hown, hnd, hnl, hc7, hon7⟩
            have hI7 := hI6.call hc7 hon7
            have hbl : bp < w6.heap.size := by obtain ⟨_, _, _, _, _, _, hf⟩ := hI6.blk; exact hf.1
            have hwl : w.heap.size < w6.heap.size := hI6.z.1
            have hn1 : some bp ≠ v.ownBlock := fun e => by have := (World.ownsRow.lt hown.1 _ e.symm).1; omega
            have hn2 : some w.heap.size ≠ v.ownBlock := fun e => by have := (World.ownsRow.lt hown.1 _ e.symm).1; omega
            obtain ⟨abv, t1, t2, _, _, _, hf⟩ := hI7.blk
            obtain ⟨d4, f4⟩ := hf.2 4 _ rfl
            have hI8 := hI7.notes (ns' := ns) ⟨row_low hown.1 (Nat.le_of_lt hwl), hown.2⟩ hn1 hn2 ⟨hnd, by omega⟩
            obtain ⟨an, cn, rfl⟩ := own_form hown
            clear hI6 hc7 hon7 hI7 hf hown hn1 hn2
            go_wp2_with fail
            go_meet
            exact ⟨_, _, hI8⟩
        case rest =>
          clear hI6
          obtain ⟨n, ns, hI⟩ := hcut
          obtain ⟨abv, tag, id, h0, h1, h2, hf⟩ := hI.blk
          obtain ⟨au, cu, eu⟩ := words_shapeA hI.bs
          obtain ⟨an, cn, en⟩ := own_form hI.nt
          have hLD := Lib.hid (load_blk (P := Tryz.prog) (ty := 28) hf fi_wide)
          obtain ⟨w3, hst3, hl3, ho3, hs3⟩ := store_blk (P := Tryz.prog) (ty := 28) (vs := [.int .i64 abv, .string ⟨tag.toArray⟩, .string ⟨id.toArray⟩, u, n]) hI.z fi_wide rfl (by rw [eu, en]; rfl)
          have HST := Lib.hid hst3
          have hF3 := fr_far hI.fr ho3 (Nat.le_refl _) hI.hc
          have hw3 := own_otherA hI.bs ho3 hI.z1
          have hn3 := ownN_only hI.nt ho3 hI.z2
          have HR := Lib.hid (show OwnF w3 w.heap.size ⟨⟨abv, tag, id, ss, ns⟩, u, n⟩ ∧ FiD ⟨abv, tag, id, ss, ns⟩ from ⟨⟨hw3, hn3⟩, h0, h1, h2, hI.okS.2, hI.okS.1, hI.okN.2, hI.okN.1⟩)
          clear hst3 hf hw3 hn3
          go_wp2_with (first | ((with_reducible refine wp_load_at hLD.out ?_ ?_); exact And.intro rfl (And.intro rfl rfl)) | ((with_reducible refine wp_store_at HST.out ?_ ?_); exact And.intro rfl (And.intro rfl (And.intro rfl rfl))))
          exact bodyPost_ret (results_wide (load_blk hl3 fi_wide) rfl rfl) rfl ⟨⟨⟨abv, tag, id, ss, ns⟩, u, n⟩, rfl, HR.out.1, HR.out.2, hF3.cur, hF3.only⟩

end Go.Proofs.YtgaggpnlimchkaaGreatDoor.B11

namespace Go.Proofs.YtgaggpnlimchkaaGreatDoor.B11
open Go.Proofs.YtgaggpnlimchkaaGreatDoor.P1 Go.Proofs.YtgaggpnlimchkaaGreatDoor.B1 Go.Proofs.YtgaggpnlimchkaaGreatDoor.B2 Go.Proofs.YtgaggpnlimchkaaGreatDoor.T1 Go.Proofs.YtgaggpnlimchkaaGreatDoor.BT Go.Proofs.YtgaggpnlimchkaaGreatDoor.P5 Go.Proofs.YtgaggpnlimchkaaGreatDoor.B5 Go.Proofs.YtgaggpnlimchkaaGreatDoor.P6 Go.Proofs.YtgaggpnlimchkaaGreatDoor.P9 Go.Proofs.YtgaggpnlimchkaaGreatDoor.B6 Go.Proofs.YtgaggpnlimchkaaGreatDoor.B9 Go.Proofs.YtgaggpnlimchkaaGreatDoor.D1 Go.Proofs.YtgaggpnlimchkaaGreatDoor.D2 Go.Proofs.YtgaggpnlimchkaaGreatDoor.D5 Go.Proofs.YtgaggpnlimchkaaGreatDoor.DB Go.Proofs.YtgaggpnlimchkaaGreatDoor.D9 Go.Proofs.YtgaggpnlimchkaaGreatDoor.W8 Go.Proofs.YtgaggpnlimchkaaGreatDoor.RC Go.Proofs.YtgaggpnlimchkaaGreatDoor.RI Go.Proofs.YtgaggpnlimchkaaGreatDoor.P10 Go.Proofs.YtgaggpnlimchkaaGreatDoor.B10 Go.Proofs.YtgaggpnlimchkaaGreatDoor.P11
open Go.ChangeShapes Go.WideShapes Go.ChangeAt Go.RowKit
set_option linter.unusedVariables false

theorem infoFiD : (Tryz.prog.info? 28).map (fun i => (i.zero, i.size, i.bytes)) = some (some (.agg #[.int .i64 0, .string ⟨#[]⟩, .string ⟨#[]⟩, .slice none 0 0, .slice none 0 0]), 5, 88) := by kernel_rfl

/-- Rows of different types lie apart. -/
theorem rows_apart {W : World} {B B' e1 e2 s1 s2 k m : Nat} {u v : Value} {xs ys : List Value} (he : e1 ≠ e2) (h : W.ownsRow B e1 s1 u k xs) (h' : W.ownsRow B' e2 s2 v m ys) : u = .slice none 0 0 ∨ u.ownBlock ≠ v.ownBlock := by
  rcases h.2 with ⟨hu, _⟩ | ⟨g, cap, cur, rfl, _, hg, _⟩
  · exact Or.inl hu
  · refine Or.inr fun e => ?_
    rcases h'.2 with ⟨rfl, _⟩ | ⟨g', cap', cur', rfl, _, hg', _⟩
    · cases e
    · have e1 : g = g' := by
        have := Option.some.inj e
        exact this
      subst e1
      rw [hg] at hg'
      have := Option.some.inj hg'
      injection this with _ h2 _
      exact he h2

theorem rows_grown {W W' : World} {B B' e1 e2 s1 s2 k m : Nat} {u v : Value} {xs ys : List Value} (he : e1 ≠ e2) (h : W.ownsRow B e1 s1 u k xs) (h' : W.ownsRow B' e2 s2 v m ys) (hg : W.grownBy W' v.ownBlock) : W'.ownsRow B e1 s1 u k xs := by
  rcases rows_apart he h h' with hn | hn
  · exact h.kept hg (Or.inl (by rw [hn]; rfl))
  · exact h.kept hg (Or.inr hn)

theorem OwnF.grown {W W' : World} {B B' m : Nat} {v : Value} {x : Fv} {ys : List Value} (h : OwnF W B x) (h' : W.ownsRow B' 28 5 v m ys) (hg : W.grownBy W' v.ownBlock) : OwnF W' B x :=
  ⟨rows_grown (by decide) h.1 h' hg, rows_grown (by decide) h.2.1 h' hg, h.2.2⟩

theorem OwnF.call {W W' : World} {B c : Nat} {x : Fv} (h : OwnF W B x) (ho : Only c W W') (hc : c < B) : OwnF W' B x := ⟨own_onlyA h.1 ho hc, ownN_far h.2 ho hc⟩

theorem OwnF.low {W : World} {B B' : Nat} {x : Fv} (h : OwnF W B x) (hb : B' ≤ B) : OwnF W B' x := ⟨row_low h.1 hb, row_low h.2.1 hb, h.2.2⟩

theorem OwnF.alloc {W : World} {B : Nat} {x : Fv} (h : OwnF W B x) (o : Obj) : OwnF (W.alloc o) B x := ⟨World.ownsRow.alloc h.1 o, ownN_alloc h.2 o⟩

theorem OwnF.on {W W' : World} {B : Nat} {x : Fv} (h : OwnF W B x) (hb : Below W.heap.size W W') : OwnF W' B x := ⟨own_below h.1 hb, own_below h.2.1 hb, h.2.2⟩

theorem OwnF.held {W : World} {B : Nat} {x : Fv} (h : OwnF W B x) : HeldF W x := ⟨Words.slc h.1, noSlc_own h.2⟩

/-- Figures of the call's own, with badges and notes of the call's own. -/
structure OwnT (B : Nat) (v : Value) (xs : List Fv) (W : World) : Prop where
  own : W.ownsRow B 28 5 v xs.length (fiRs xs).flatten
  hs : ∀ x ∈ xs, OwnF W B x
  ok : ∀ x ∈ xs, FiD x.f

theorem OwnT.slc {B : Nat} {v : Value} {xs : List Fv} {W : World} (h : OwnT B v xs W) : FiSlc W v xs := by
  have : RC.Own 28 5 W v B (fiRs xs) := ⟨by rw [fiRs_len]; exact h.own, fiRs_five xs⟩
  exact ⟨this.val.slc, fun x hx => (h.hs x hx).held⟩

theorem OwnT.call {B c : Nat} {v : Value} {xs : List Fv} {W W' : World} (h : OwnT B v xs W) (ho : Only c W W') (hc : c < B) : OwnT B v xs W' :=
  ⟨own_onlyA h.own ho hc, fun x hx => (h.hs x hx).call ho hc, h.ok⟩

theorem OwnT.on {B : Nat} {v : Value} {xs : List Fv} {W W' : World} (h : OwnT B v xs W) (hb : Below W.heap.size W W') : OwnT B v xs W' :=
  ⟨own_below h.own hb, fun x hx => (h.hs x hx).on hb, h.ok⟩

theorem OwnT.low {B B' : Nat} {v : Value} {xs : List Fv} {W : World} (h : OwnT B v xs W) (hb : B' ≤ B) : OwnT B' v xs W := ⟨row_low h.own hb, fun x hx => (h.hs x hx).low hb, h.ok⟩

theorem OwnT.alloc {B : Nat} {v : Value} {xs : List Fv} {W : World} (h : OwnT B v xs W) (o : Obj) : OwnT B v xs (W.alloc o) := h.on ((Below.refl _ _).alloc (Nat.le_refl _) _)

theorem ownT_shape {B : Nat} {v : Value} {xs : List Fv} {W : World} (h : OwnT B v xs W) : ∃ a c, v = .slice a xs.length c := by
  rcases h.own.2 with ⟨rfl, h0⟩ | ⟨g, cap, cur, rfl, _⟩
  · exact ⟨none, 0, by rw [h0]⟩
  · exact ⟨_, _, rfl⟩

theorem ownT_form {B : Nat} {v : Value} {xs : List Fv} {W : World} (h : OwnT B v xs W) (h1 : 1 ≤ xs.length) : ∃ g c, v = .slice (some ⟨g, 0, none⟩) xs.length c ∧ B ≤ g ∧ g < W.heap.size ∧ xs.length ≤ c := by
  rcases h.own.2 with ⟨_, h0⟩ | ⟨g, cap, cur, rfl, hb, hg, hc, _⟩
  · omega
  · exact ⟨g, cap, rfl, hb, (Array.getElem?_eq_some_iff.1 hg).1, hc⟩

/-- One figure more. -/
theorem ownT_more {B d : Nat} {v v7 : Value} {xs : List Fv} {x : Fv} {W W7 : World} (hd : xs.length = d) (h : OwnT B v xs W) (hx : OwnF W B x) (hok : FiD x.f) (hown : W7.ownsRow B 28 5 v7 (d + 1) ((fiRs xs).flatten ++ fiL x)) (hg : W.grownBy W7 v.ownBlock) : OwnT B v7 (xs ++ [x]) W7 := by
  refine ⟨?_, fun y hy => ?_, fun y hy => ?_⟩
  · have e : (fiRs (xs ++ [x])).flatten = (fiRs xs).flatten ++ fiL x := by unfold fiRs; simp
    rw [e, List.length_append, hd]
    exact hown
  · rcases List.mem_append.1 hy with hy | hy
    · exact (h.hs y hy).grown h.own hg
    · simp at hy
      subst hy
      exact hx.grown h.own hg
  · rcases List.mem_append.1 hy with hy | hy
    · exact h.ok y hy
    · simp at hy
      subst hy
      exact hok

theorem fiRs_flen (xs : List Fv) : (fiRs xs).flatten.length = xs.length * 5 := by rw [flat_len (fiRs_five xs), fiRs_len]

theorem fi_at {pre post : List Fv} {y : Fv} {i j : Nat} {v : Value} (hi : pre.length = i) (hv : (fiL y)[j]? = some v) : ((fiRs (pre ++ y :: post)).flatten)[i * 5 + j]? = some v :=
  flat_at (fiRs_five _) (fiRs_at (by rw [List.getElem?_append_right (by omega), hi, Nat.sub_self]; rfl)) hv

theorem fi_set {pre post : List Fv} {y y' : Fv} {i j : Nat} {v : Value} (hi : pre.length = i) (hj : j < 5) (e : (fiL y).set j v = fiL y') : ((fiRs (pre ++ y :: post)).flatten).set (i * 5 + j) v = (fiRs (pre ++ y' :: post)).flatten := by
  have ea : ∀ (l m : List Fv), (fiRs (l ++ m)).flatten = (fiRs l).flatten ++ (fiRs m).flatten := fun l m => by simp [fiRs]
  have ec : ∀ (z : Fv) (m : List Fv), (fiRs (z :: m)).flatten = fiL z ++ (fiRs m).flatten := fun z m => by simp [fiRs]
  rw [ea, ea, ec, ec]
  have hl : (fiRs pre).flatten.length = i * 5 := by rw [fiRs_flen, hi]
  rw [List.set_append_right _ _ (by omega), hl, Nat.add_sub_cancel_left, List.set_append_left _ _ (by exact hj), e]

theorem ownT_cell {B g d cap i : Nat} {pre post : List Fv} {y : Fv} {W : World} (h : OwnT B (.slice (some ⟨g, 0, none⟩) d cap) (pre ++ y :: post) W) (hd : (pre ++ y :: post).length = d) (hi : pre.length = i) {j : Nat} {u : Value} (hu : (fiL y)[j]? = some u) : W.cell? ⟨g, i * 5 + j, none⟩ = some u ∧ W.frozen? ⟨g, i * 5 + j, none⟩ = false := by
  have ho := h.own
  rw [hd] at ho
  have hj : j < 5 := (List.getElem?_eq_some_iff.1 hu).1
  have hl : i * 5 + j < d * 5 := by rw [List.length_append, List.length_cons] at hd; omega
  exact ⟨by rw [ho.cellAt (i * 5 + j) hl]; exact fi_at hi hu, ho.frozenAt _⟩

theorem OwnT.put {B g d cap i j : Nat} {u : Value} {pre post : List Fv} {y y' : Fv} {W : World} (h : OwnT B (.slice (some ⟨g, 0, none⟩) d cap) (pre ++ y :: post) W) (hd : (pre ++ y :: post).length = d) (hi : pre.length = i) (hj : j < 5) (e : (fiL y).set j u = fiL y') (hu : y'.u = y.u ∧ y'.n = y.n ∧ y'.f.bs = y.f.bs ∧ y'.f.ns = y.f.ns) (hok : FiD y'.f) :
    OwnT B (.slice (some ⟨g, 0, none⟩) d cap) (pre ++ y' :: post) (W.setCell ⟨g, i * 5 + j, none⟩ u) := by
  have ho := h.own
  rw [hd] at ho
  obtain ⟨h1, hg⟩ := ho.stored (i * 5 + j) u
  rw [fi_set hi hj e] at h1
  have hd' : (pre ++ y' :: post).length = d := by rw [List.length_append, List.length_cons] at hd ⊢; exact hd
  have hy : OwnF (W.setCell ⟨g, i * 5 + j, none⟩ u) B y' := by
    have := (h.hs y (by simp)).grown h.own hg
    obtain ⟨e1, e2, e3, e4⟩ := hu
    unfold OwnF at this ⊢
    rw [e1, e2, e3, e4]; exact this
  refine ⟨by rw [hd']; exact h1, fun z hz => ?_, fun z hz => ?_⟩
  · rcases List.mem_append.1 hz with hz | hz
    · exact (h.hs z (by simp [hz])).grown h.own hg
    · rcases List.mem_cons.1 hz with rfl | hz
      · exact hy
      · exact (h.hs z (by simp [hz])).grown h.own hg
  · rcases List.mem_append.1 hz with hz | hz
    · exact h.ok z (by simp [hz])
    · rcases List.mem_cons.1 hz with rfl | hz
      · exact hok
      · exact h.ok z (by simp [hz])

/-- Some figures of the call's own. -/
def DrawnT (m : Nat) (c : Nat) (a : Option Addr) (len cap : Nat) (w : World) (e : Ending) (w' : World) : Prop :=
  ∃ v xs, e = .returned v ∧ OwnT w.heap.size v xs w' ∧ xs.length ≤ m ∧ Cur w' c a len cap ∧ Only c w w'

theorem fiL_all {W : World} {B : Nat} {x : Fv} (h : OwnF W B x) : ∀ u ∈ fiL x, u.oneCell' = true := List.all_eq_true.1 (fiL_one h.held)

set_option maxRecDepth 20000 in
set_option maxHeartbeats 8000000 in
theorem Draw11_draw (w : World) (c : Nat) (a : Option Addr) (len cap : Nat) (h : Cur w c a len cap) :
    Calls Tryz.prog 77 #[.pointer (some ⟨c, 0, none⟩)] w (DrawnT 5 c a len cap w) := by
  obtain ⟨i0, hi, hz0, hz1, hz2⟩ := info_parts infoFiD
  have hF1 := (Fr.refl h).alloc (.cells #[] 28)
  have hcw := h.lt
  have ho1 : OwnT w.heap.size (.slice (some ⟨w.heap.size, 0, none⟩) 0 0) [] (w.alloc (.cells #[] 28)) := ⟨World.ownsRow_lit w #[] 0 (Nat.le_refl _) (by decide) rfl, fun x hx => (by cases hx), fun x hx => (by cases hx)⟩
  clear h
  go_enter Tryz.func77, Tryz.ntmps77
  go_wp2_with fail
  refine (Below_draw _ c a len cap 6 hF1.cur).mono ?_
  rintro e w2 ⟨x, ⟨hx0, hx1, _⟩, rfl, hc2, hon2⟩
  have hx1' := hx1 (by omega)
  obtain ⟨N, rfl⟩ : ∃ N : Nat, x = (N : Int) := ⟨x.toNat, by omega⟩
  have hF2 := hF1.call hc2 hon2
  have ho2 := ho1.call hon2 hcw
  have hN : N < 6 := by omega
  clear hF1 hc2 hon2 ho1 hx0 hx1 hx1'
  go_wp2_with fail
  go_loopg [3, 4] N (fun kx s3 s4 wr => ∃ (k : Nat) (xs : List Fv), s4 = .int .i64 (k : Int) ∧ k ≤ kx ∧ xs.length + k ≤ 5 ∧ OwnT w.heap.size s3 xs wr ∧ Fr c a len cap w wr)
  case atStart => exact ⟨N, [], rfl, Nat.le_refl _, by simp; omega, ho2, hF2⟩
  case round =>
    obtain ⟨k, xs, rfl, hkk, hlen, hown, hF⟩ := hrel
    clear ho2 hF2
    by_cases hk0 : k = 0
    · subst hk0
      go_wp2_with fail
      go_ret
      exact ⟨_, xs, rfl, hown, by omega, hF.cur, hF.only⟩
    · have hk1 : 0 < k := by omega
      obtain ⟨a3, c3, rfl⟩ := ownT_shape hown
      obtain ⟨d, hd⟩ : ∃ d, xs.length = d := ⟨_, rfl⟩
      rw [hd] at hlen hown ⊢
      have HD := Lib.hid hd
      clear hd
      go_wp2_with fail
      refine (DrawFigure_draw _ c a len cap (d : Int) (by omega) (by omega) hF.cur).mono ?_
      rintro e w3 ⟨y, rfl, hy, hyd, hc3, hon3⟩
      have hF3 := hF.call hc3 hon3
      have hown3 := hown.call hon3 hcw
      have hy3 := hy.low hF.only.size
      have hfl := fiL_all hy3
      obtain ⟨⟨au, cu, eu, _⟩, an, cn, en, _⟩ := heldF_form hy3.held
      obtain ⟨⟨abv, tg, idp, bs, ns⟩, u, un⟩ := y
      dsimp only at eu en
      subst eu en
      have hFa := hF3.alloc (.cells (fiL ⟨⟨abv, tg, idp, bs, ns⟩, .slice au bs.length cu, .slice an ns.length cn⟩).toArray 28)
      have howna := hown3.alloc (.cells (fiL ⟨⟨abv, tg, idp, bs, ns⟩, .slice au bs.length cu, .slice an ns.length cn⟩).toArray 28)
      have hya := hy3.alloc (.cells (fiL ⟨⟨abv, tg, idp, bs, ns⟩, .slice au bs.length cu, .slice an ns.length cn⟩).toArray 28)
      have hna := news_ofA (LBlk.new w3 (fiL ⟨⟨abv, tg, idp, bs, ns⟩, .slice au bs.length cu, .slice an ns.length cn⟩) 28)
      have horow := howna.own
      rw [HD.out] at horow
      have hmx : d + 1 ≤ maxLen := by unfold maxLen; omega
      have hsz : w.heap.size ≤ (w3.alloc (.cells (fiL ⟨⟨abv, tg, idp, bs, ns⟩, .slice au bs.length cu, .slice an ns.length cn⟩).toArray 28)).heap.size := by have := hF3.only.size; simp; omega
      rw [fiV_is]
      dsimp only
      clear hF hown hc3 hon3 hy
      go_wp2_with (at_builtin; refine wpList_append_own _ rfl _ _ 24 rfl w.heap.size 28 i0 _ 5 88 Tryz.underlying24 hi hz0 hz1 hz2 rfl (by decide) _ d (fiRs xs).flatten rfl horow ⟨w3.heap.size, 0, none⟩ 1 1 (fiL ⟨⟨abv, tg, idp, bs, ns⟩, .slice au bs.length cu, .slice an ns.length cn⟩) rfl rfl hna hfl hmx (by omega) hsz ?_; intro v7 w7 hown7 hgrow7 _)
      go_roundg (k - 1)
      case measure => omega
      case rel => exact ⟨k - 1, xs ++ [⟨⟨abv, tg, idp, bs, ns⟩, .slice au bs.length cu, .slice an ns.length cn⟩], by go_num, by omega, by rw [List.length_append, HD.out]; simp; omega, ownT_more HD.out howna hya hyd hown7 hgrow7, fr_grown hFa hcw hgrow7 (fun k' hk' => (World.ownsRow.lt howna.own k' hk').1)⟩

theorem tree_split {xs : List Fv} {i : Nat} (h : i < xs.length) : ∃ pre y post, xs = pre ++ y :: post ∧ pre.length = i := by
  refine ⟨xs.take i, xs[i], xs.drop (i + 1), ?_, by rw [List.length_take]; omega⟩
  rw [List.getElem_cons_drop, List.take_append_drop]

def badTags : List (List UInt8) := [[], [65]]

set_option maxRecDepth 20000 in
set_option maxHeartbeats 8000000 in
theorem l11DrawAny_draw (w : World) (c : Nat) (a : Option Addr) (len cap : Nat) (h : Cur w c a len cap) :
    Calls Tryz.prog 41 #[.pointer (some ⟨c, 0, none⟩)] w (DrawnT 17 c a len cap w) := by
  obtain ⟨i0, hi, hz0, hz1, hz2⟩ := info_parts infoFiD
  have hcw := h.lt
  have hF0 := Fr.refl h
  clear h
  go_enter Tryz.func41, Tryz.ntmps41
  go_wp2_with fail
  refine (Draw11_draw _ c a len cap hF0.cur).mono ?_
  rintro e w1 ⟨v, xs, rfl, hown, hlen, hc1, hon1⟩
  have hF1 := hF0.call hc1 hon1
  clear hF0 hc1 hon1
  by_cases h0 : xs.length = 0
  · obtain ⟨a3, c3, rfl⟩ := ownT_shape hown
    rw [h0] at hown ⊢
    go_wp2_with fail
    go_ret
    exact ⟨_, xs, rfl, hown, by omega, hF1.cur, hF1.only⟩
  · obtain ⟨g, k, rfl, hBg, hgs, hroom⟩ := ownT_form hown (by omega)
    obtain ⟨d, hd⟩ : ∃ d, xs.length = d := ⟨_, rfl⟩
    rw [hd] at hown hlen h0 hroom ⊢
    have HD := Lib.hid hd
    have hd1 : 0 < d := by omega
    have hd1' : (0 : Int) < (d : Int) := by omega
    have hdc : (d : Int) ≤ (k : Int) := by omega
    have hgc : g ≠ c := by omega
    clear hd h0
    go_wp2_with fail
    refine (Once_draw _ c a len cap 8 hF1.cur).mono ?_
    rintro e w2 ⟨q, rfl, hc2, hon2⟩
    have hF2 := hF1.call hc2 hon2
    have hown2 := hown.call hon2 hcw
    clear hF1 hc2 hon2 hown
    cases q
    · go_wp2_with fail
      go_ret
      exact ⟨_, xs, rfl, hown2, by rw [HD.out]; omega, hF2.cur, hF2.only⟩
    · go_wp2_with fail
      refine (Below_draw _ c a len cap 4 hF2.cur).mono ?_
      rintro e w3 ⟨z, hz, rfl, hc3, hon3⟩
      obtain ⟨Z, rfl, hZ⟩ := below_nat (m := 4) hz (by omega)
      have hF3 := hF2.call hc3 hon3
      have hown3 := hown2.call hon3 hcw
      clear hF2 hc3 hon3 hown2 hz
      rcases (show Z = 0 ∨ Z = 1 ∨ Z = 2 ∨ Z = 3 by omega) with rfl | rfl | rfl | rfl
      · go_wp2_with fail
        refine (From_draw _ c a len cap (-2) 1 hF3.cur (by decide) (by decide) (by decide)).mono ?_
        rintro e w4 ⟨n, ⟨hn0, hn1⟩, rfl, hc4, hon4⟩
        have hF4 := hF3.call hc4 hon4
        have hown4 := hown3.call hon4 hcw
        obtain ⟨pre, y, post, rfl, hpl⟩ := tree_split (xs := xs) (i := 0) (by rw [HD.out]; exact hd1)
        obtain ⟨k0, f0⟩ := ownT_cell hown4 HD.out hpl (j := 0) rfl
        have hp := hown4.put (j := 0) (u := .int .i64 n) (y' := ⟨⟨n, y.f.tag, y.f.id, y.f.bs, y.f.ns⟩, y.u, y.n⟩) HD.out hpl (by decide) rfl ⟨rfl, rfl, rfl, rfl⟩ ⟨by show -1000 ≤ n ∧ n ≤ 1000; omega, (hown4.ok y (by simp)).2⟩
        simp only [Nat.zero_mul, Nat.add_zero] at k0 f0 hp
        have hF5 := hF4.set hBg hgc 0 (.int .i64 n)
        have hl5 : (pre ++ (⟨⟨n, y.f.tag, y.f.id, y.f.bs, y.f.ns⟩, y.u, y.n⟩ : Fv) :: post).length ≤ 17 := by have := HD.out; rw [List.length_append, List.length_cons] at this ⊢; omega
        clear hF3 hown3 hc4 hon4 hF4 hown4
        go_wp2_with fail
        go_ret
        exact ⟨_, _, rfl, hp, hl5, hF5.cur, hF5.only⟩
      · have hsub : IntKind.i64.wrap ((d : Int) - 1) = ((d - 1 : Nat) : Int) := by rw [IntKind.wrap_i64]; omega
        obtain ⟨M, hM⟩ : ∃ M, d - 1 = M := ⟨_, rfl⟩
        rw [hM] at hsub
        have hMd : (M : Int) < (d : Int) := by omega
        have hM0 : (0 : Int) ≤ (M : Int) := by omega
        go_wp2_with fail
        refine (From_draw _ c a len cap (-1) 6 hF3.cur (by decide) (by decide) (by decide)).mono ?_
        rintro e w4 ⟨n, ⟨hn0, hn1⟩, rfl, hc4, hon4⟩
        have hF4 := hF3.call hc4 hon4
        have hown4 := hown3.call hon4 hcw
        obtain ⟨pre, y, post, rfl, hpl⟩ := tree_split (xs := xs) (i := M) (by rw [HD.out]; omega)
        obtain ⟨k0, f0⟩ := ownT_cell hown4 HD.out hpl (j := 0) rfl
        have hp := hown4.put (j := 0) (u := .int .i64 n) (y' := ⟨⟨n, y.f.tag, y.f.id, y.f.bs, y.f.ns⟩, y.u, y.n⟩) HD.out hpl (by decide) rfl ⟨rfl, rfl, rfl, rfl⟩ ⟨by show -1000 ≤ n ∧ n ≤ 1000; omega, (hown4.ok y (by simp)).2⟩
        simp only [Nat.add_zero] at k0 f0 hp
        have hF5 := hF4.set hBg hgc (M * 5) (.int .i64 n)
        have hl5 : (pre ++ (⟨⟨n, y.f.tag, y.f.id, y.f.bs, y.f.ns⟩, y.u, y.n⟩ : Fv) :: post).length ≤ 17 := by have := HD.out; rw [List.length_append, List.length_cons] at this ⊢; omega
        clear hF3 hown3 hc4 hon4 hF4 hown4 hM
        go_wp2_with fail
        go_ret
        exact ⟨_, _, rfl, hp, hl5, hF5.cur, hF5.only⟩
      · have hFa := hF3.alloc (.cells #[.string ⟨#[]⟩, .string ⟨#[65]⟩] 9)
        have hla : LBlk (w3.alloc (.cells #[.string ⟨#[]⟩, .string ⟨#[65]⟩] 9)) w3.heap.size (wordsV badTags) := LBlk.new w3 (wordsV badTags) 9
        have hcr : w3.heap.size ≠ c := Nat.ne_of_gt hF3.cur.lt
        have howna := hown3.alloc (.cells #[.string ⟨#[]⟩, .string ⟨#[65]⟩] 9)
        go_wp2_with fail
        refine (Below_draw _ c a len cap 2 hFa.cur).mono ?_
        rintro e w4 ⟨l, ⟨hl0, hl1, _⟩, rfl, hc4, hon4⟩
        have hl1' := hl1 (by omega)
        obtain ⟨K, rfl⟩ : ∃ K : Nat, l = (K : Int) := ⟨l.toNat, by omega⟩
        have hF4 := hFa.call hc4 hon4
        have hown4 := howna.call hon4 hcw
        obtain ⟨s, hsm, cs⟩ := picked (hla.only hon4 hcr) (K := K) (by show K < 2; omega)
        have hs100 : s.length ≤ 100 := by
          have : ∀ x ∈ badTags, x.length ≤ 100 := by decide
          exact this s hsm
        have hK3 : (K : Int) < 2 := by omega
        have hK0 : (0 : Int) ≤ (K : Int) := by omega
        obtain ⟨pre, y, post, rfl, hpl⟩ := tree_split (xs := xs) (i := 0) (by rw [HD.out]; exact hd1)
        obtain ⟨k0, f0⟩ := ownT_cell hown4 HD.out hpl (j := 1) rfl
        have hp := hown4.put (j := 1) (u := .string ⟨s.toArray⟩) (y' := ⟨⟨y.f.above, s, y.f.id, y.f.bs, y.f.ns⟩, y.u, y.n⟩) HD.out hpl (by decide) rfl ⟨rfl, rfl, rfl, rfl⟩ ⟨(hown4.ok y (by simp)).1, hs100, (hown4.ok y (by simp)).2.2⟩
        simp only [Nat.zero_mul, Nat.zero_add] at k0 f0 hp
        have hF5 := hF4.set hBg hgc 1 (.string ⟨s.toArray⟩)
        have hl5 : (pre ++ (⟨⟨y.f.above, s, y.f.id, y.f.bs, y.f.ns⟩, y.u, y.n⟩ : Fv) :: post).length ≤ 17 := by have := HD.out; rw [List.length_append, List.length_cons] at this ⊢; omega
        clear hF3 hFa hla hcr howna hc4 hon4 hl0 hl1 hl1' hsm hown3 hF4 hown4
        go_wp2_with fail
        go_ret
        exact ⟨_, _, rfl, hp, hl5, hF5.cur, hF5.only⟩
      · go_wp2_with fail
        go_loopg [3] (17 - d) (fun kx s3 wr => ∃ ys : List Fv, kx = 17 - ys.length ∧ ys.length ≤ 17 ∧ OwnT w.heap.size s3 ys wr ∧ Fr c a len cap w wr)
        case atStart => exact ⟨xs, by rw [HD.out], by rw [HD.out]; omega, hown3, hF3⟩
        case round =>
          obtain ⟨ys, hkx, hyl, hownr, hFr⟩ := hrel
          clear hown3 hF3
          obtain ⟨a3, c3, rfl⟩ := ownT_shape hownr
          obtain ⟨d2, hd2⟩ : ∃ d2, ys.length = d2 := ⟨_, rfl⟩
          rw [hd2] at hkx hyl hownr ⊢
          have HD2 := Lib.hid hd2
          clear hd2
          go_wp2_with fail
          refine (Below_draw _ c a len cap 2 hFr.cur).mono ?_
          rintro e w4 ⟨l, hl, rfl, hc4, hon4⟩
          obtain ⟨K, rfl, hK⟩ := below_nat (m := 2) hl (by omega)
          have hF4 := hFr.call hc4 hon4
          have hown4 := hownr.call hon4 hcw
          have hadd : IntKind.i64.wrap (16 + (K : Int)) = ((16 + K : Nat) : Int) := by rw [IntKind.wrap_i64]; omega
          obtain ⟨K2, hK2⟩ : ∃ K2, 16 + K = K2 := ⟨_, rfl⟩
          rw [hK2] at hadd
          have hK3 : K2 ≤ 17 := by omega
          clear hFr hownr hc4 hon4 hl hK2
          by_cases hlt : d2 < K2
          · have hlt' : (d2 : Int) < (K2 : Int) := by omega
            have hyd : FiD ⟨0, [98, 111, 120], [], [], []⟩ := ⟨by decide, by decide, by decide, by decide, fun s hs => (by cases hs), by decide, fun s hs => (by cases hs)⟩
            have hy3 : OwnF w4 w.heap.size ⟨⟨0, [98, 111, 120], [], [], []⟩, .slice none 0 0, .slice none 0 0⟩ := ⟨World.ownsRow_nil _ _ _ _, World.ownsRow_nil _ _ _ _, fun r hr => (by cases hr)⟩
            have hFa := hF4.alloc (.cells #[.int .i64 0, .string ⟨#[98, 111, 120]⟩, .string ⟨#[]⟩, .slice none 0 0, .slice none 0 0] 28)
            have howna := hown4.alloc (.cells #[.int .i64 0, .string ⟨#[98, 111, 120]⟩, .string ⟨#[]⟩, .slice none 0 0, .slice none 0 0] 28)
            have hya := hy3.alloc (.cells #[.int .i64 0, .string ⟨#[98, 111, 120]⟩, .string ⟨#[]⟩, .slice none 0 0, .slice none 0 0] 28)
            have hna := news_ofA (LBlk.new w4 [.int .i64 0, .string ⟨#[98, 111, 120]⟩, .string ⟨#[]⟩, .slice none 0 0, .slice none 0 0] 28)
            have horow := howna.own
            rw [HD2.out] at horow
            have hmx : d2 + 1 ≤ maxLen := by unfold maxLen; omega
            have hsz : w.heap.size ≤ (w4.alloc (.cells #[.int .i64 0, .string ⟨#[98, 111, 120]⟩, .string ⟨#[]⟩, .slice none 0 0, .slice none 0 0] 28)).heap.size := by have := hF4.only.size; simp; omega
            clear hF4 hown4
            go_wp2_with (at_builtin; refine wpList_append_own _ rfl _ _ 24 rfl w.heap.size 28 i0 _ 5 88 Tryz.underlying24 hi hz0 hz1 hz2 rfl (by decide) _ d2 (fiRs ys).flatten rfl horow ⟨w4.heap.size, 0, none⟩ 1 1 [.int .i64 0, .string ⟨#[98, 111, 120]⟩, .string ⟨#[]⟩, .slice none 0 0, .slice none 0 0] rfl rfl hna (by simp [Value.oneCell']) hmx (by omega) hsz ?_; intro v7 w7 hown7 hgrow7 _)
            go_roundg (17 - (d2 + 1))
            case measure => omega
            case rel => exact ⟨ys ++ [⟨⟨0, [98, 111, 120], [], [], []⟩, .slice none 0 0, .slice none 0 0⟩], by rw [List.length_append, HD2.out]; rfl, by rw [List.length_append, HD2.out]; simp; omega, ownT_more (x := ⟨⟨0, [98, 111, 120], [], [], []⟩, .slice none 0 0, .slice none 0 0⟩) HD2.out howna hya hyd hown7 hgrow7, fr_grown hFa hcw hgrow7 (fun k' hk' => (World.ownsRow.lt howna.own k' hk').1)⟩
          · have hlt' : ¬ (d2 : Int) < (K2 : Int) := by omega
            go_wp2_with fail
            go_ret
            exact ⟨_, ys, rfl, hown4, by rw [HD2.out]; exact hyl, hF4.cur, hF4.only⟩

end Go.Proofs.YtgaggpnlimchkaaGreatDoor.B11

namespace Go.Proofs.YtgaggpnlimchkaaGreatDoor.B11
open Go.Proofs.YtgaggpnlimchkaaGreatDoor.P1 Go.Proofs.YtgaggpnlimchkaaGreatDoor.B1 Go.Proofs.YtgaggpnlimchkaaGreatDoor.B2 Go.Proofs.YtgaggpnlimchkaaGreatDoor.T1 Go.Proofs.YtgaggpnlimchkaaGreatDoor.BT Go.Proofs.YtgaggpnlimchkaaGreatDoor.P5 Go.Proofs.YtgaggpnlimchkaaGreatDoor.B5 Go.Proofs.YtgaggpnlimchkaaGreatDoor.P6 Go.Proofs.YtgaggpnlimchkaaGreatDoor.P9 Go.Proofs.YtgaggpnlimchkaaGreatDoor.B6 Go.Proofs.YtgaggpnlimchkaaGreatDoor.B9 Go.Proofs.YtgaggpnlimchkaaGreatDoor.D1 Go.Proofs.YtgaggpnlimchkaaGreatDoor.D2 Go.Proofs.YtgaggpnlimchkaaGreatDoor.D5 Go.Proofs.YtgaggpnlimchkaaGreatDoor.DB Go.Proofs.YtgaggpnlimchkaaGreatDoor.D9 Go.Proofs.YtgaggpnlimchkaaGreatDoor.W8 Go.Proofs.YtgaggpnlimchkaaGreatDoor.RC Go.Proofs.YtgaggpnlimchkaaGreatDoor.RI Go.Proofs.YtgaggpnlimchkaaGreatDoor.P10 Go.Proofs.YtgaggpnlimchkaaGreatDoor.B10 Go.Proofs.YtgaggpnlimchkaaGreatDoor.P11
open Go.ChangeShapes Go.WideShapes Go.ChangeAt Go.RowKit
set_option linter.unusedVariables false

/-- Figures and a number, as the draws give them to a law. -/
def GivenPath (w : World) (e : Ending) (w' : World) : Prop := ∃ v xs i, e = .returned (.tuple #[v, .int .i64 i]) ∧ OwnT w.heap.size v xs w' ∧ xs.length ≤ 17 ∧ -1 ≤ i ∧ i ≤ 18 ∧ Below w.heap.size w w'

set_option maxRecDepth 20000 in
set_option maxHeartbeats 2000000 in
theorem Path_draw (w : World) (a : Option Addr) (len cap : Nat) (h : Bytes w w.heap.size a len) :
    Calls Tryz.prog 12 #[.slice a len cap] w (GivenPath w) := by
  go_enter Tryz.func12, Tryz.ntmps12
  go_wp2_with fail
  refine (New_draw _ a len cap h).mono ?_
  rintro e w1 ⟨rfl, hc1, ho1⟩
  have hF1 : Fr w.heap.size a len cap w w1 := ⟨hc1, ho1, h⟩
  clear hc1 ho1 h
  go_wp2_with fail
  refine (l11DrawAny_draw _ w.heap.size a len cap hF1.cur).mono ?_
  rintro e w2 ⟨v, xs, rfl, hv, hlen, hc2, ho2⟩
  have hF2 := hF1.call hc2 ho2
  have hcw := hF1.cur.lt
  obtain ⟨ad, cp, rfl⟩ := ownT_shape hv
  obtain ⟨d, hd⟩ : ∃ d, xs.length = d := ⟨_, rfl⟩
  rw [hd] at hv hlen ⊢
  have HD := Lib.hid hd
  have hadd : IntKind.i64.wrap ((d : Int) + 2) = ((d + 2 : Nat) : Int) := by rw [IntKind.wrap_i64]; omega
  obtain ⟨D, hD⟩ : ∃ D, d + 2 = D := ⟨_, rfl⟩
  rw [hD] at hadd
  clear hd hF1 hc2 ho2
  go_wp2_with fail
  refine (Below_draw _ w.heap.size a len cap (D : Int) hF2.cur).mono ?_
  rintro e w3 ⟨l, ⟨hl0, hl1, _⟩, rfl, hc3, hon3⟩
  have hl1' := hl1 (by omega)
  have hF3 := hF2.call hc3 hon3
  have hv3 := hv.call hon3 hcw
  have hsub : IntKind.i64.wrap (l - 1) = l - 1 := by rw [IntKind.wrap_i64]; omega
  clear hc3 hon3 hF2 hv hl1
  go_wp2_with fail
  go_ret2
  exact ⟨_, xs, l - 1, rfl, hv3.low (Nat.le_of_lt hcw), by rw [HD.out]; exact hlen, by omega, by omega, hF3.only.below (Nat.le_refl _) (Nat.le_refl _)⟩

/-! ### A part put into a row -/

theorem ptRs_flenD (xs : List Pv) : (ptRs xs).flatten.length = xs.length * 4 := by rw [flat_len (ptRs_four xs), ptRs_len]

theorem pt_atD {pre post : List Pv} {y : Pv} {i j : Nat} {v : Value} (hi : pre.length = i) (hv : (ptL y)[j]? = some v) : ((ptRs (pre ++ y :: post)).flatten)[i * 4 + j]? = some v :=
  flat_at (ptRs_four _) (ptRs_at (by rw [List.getElem?_append_right (by omega), hi, Nat.sub_self]; rfl)) hv

theorem pt_setD {pre post : List Pv} {y y' : Pv} {i j : Nat} {v : Value} (hi : pre.length = i) (hj : j < 4) (e : (ptL y).set j v = ptL y') : ((ptRs (pre ++ y :: post)).flatten).set (i * 4 + j) v = (ptRs (pre ++ y' :: post)).flatten := by
  have ea : ∀ (l m : List Pv), (ptRs (l ++ m)).flatten = (ptRs l).flatten ++ (ptRs m).flatten := fun l m => by simp [ptRs]
  have ec : ∀ (z : Pv) (m : List Pv), (ptRs (z :: m)).flatten = ptL z ++ (ptRs m).flatten := fun z m => by simp [ptRs]
  rw [ea, ea, ec, ec]
  have hl : (ptRs pre).flatten.length = i * 4 := by rw [ptRs_flenD, hi]
  rw [List.set_append_right _ _ (by omega), hl, Nat.add_sub_cancel_left, List.set_append_left _ _ (by exact hj), e]

theorem ownP_cellD {B g d cap i : Nat} {pre post : List Pv} {y : Pv} {W : World} (h : OwnP B (.slice (some ⟨g, 0, none⟩) d cap) (pre ++ y :: post) W) (hd : (pre ++ y :: post).length = d) (hi : pre.length = i) {j : Nat} {u : Value} (hu : (ptL y)[j]? = some u) : W.cell? ⟨g, i * 4 + j, none⟩ = some u ∧ W.frozen? ⟨g, i * 4 + j, none⟩ = false := by
  have ho := h.own
  rw [hd] at ho
  have hj : j < 4 := (List.getElem?_eq_some_iff.1 hu).1
  have hl : i * 4 + j < d * 4 := by rw [List.length_append, List.length_cons] at hd; omega
  exact ⟨by rw [ho.cellAt (i * 4 + j) hl]; exact pt_atD hi hu, ho.frozenAt _⟩

theorem ownP_putD {B g d cap i j : Nat} {u : Value} {pre post : List Pv} {y y' : Pv} {W : World} (h : OwnP B (.slice (some ⟨g, 0, none⟩) d cap) (pre ++ y :: post) W) (hd : (pre ++ y :: post).length = d) (hi : pre.length = i) (hj : j < 4) (e : (ptL y).set j u = ptL y') (hy : Words W y'.u B y'.p.bs) (hok : PtD y'.p) :
    OwnP B (.slice (some ⟨g, 0, none⟩) d cap) (pre ++ y' :: post) (W.setCell ⟨g, i * 4 + j, none⟩ u) := by
  have ho := h.own
  rw [hd] at ho
  obtain ⟨h1, hg⟩ := ho.stored (i * 4 + j) u
  rw [pt_setD hi hj e] at h1
  have hd' : (pre ++ y' :: post).length = d := by rw [List.length_append, List.length_cons] at hd ⊢; exact hd
  refine ⟨by rw [hd']; exact h1, fun z hz => ?_, fun z hz => ?_⟩
  · rcases List.mem_append.1 hz with hz | hz
    · exact words_grown (h.hs z (by simp [hz])) h.own hg
    · rcases List.mem_cons.1 hz with rfl | hz
      · exact words_grown hy h.own hg
      · exact words_grown (h.hs z (by simp [hz])) h.own hg
  · rcases List.mem_append.1 hz with hz | hz
    · exact h.ok z (by simp [hz])
    · rcases List.mem_cons.1 hz with rfl | hz
      · exact hok
      · exact h.ok z (by simp [hz])

/-- Figures lie as they lay where a row of parts is written. -/
theorem OwnT.parts {B B' i m : Nat} {v p : Value} {u : Value} {xs : List Fv} {ys : List Value} {W W' : World} (h : OwnT B v xs W) (h' : W.ownsRow B' 47 4 p m ys) (hg : W.grownBy W' p.ownBlock) : OwnT B v xs W' :=
  ⟨rows_grown (by decide) h.own h' hg, fun x hx => ⟨rows_grown (by decide) (h.hs x hx).1 h' hg, rows_grown (by decide) (h.hs x hx).2.1 h' hg, (h.hs x hx).2.2⟩, h.ok⟩

/-- What the last part becomes. -/
def lastPt (tag : List UInt8) (nr : Bool) : Pv := ⟨⟨tag, [], [], nr⟩, .slice none 0 0⟩

/-- The part at place i written anew. -/
theorem ownP_anew {B g d cap i : Nat} {pre post : List Pv} {y : Pv} {W : World} (h : OwnP B (.slice (some ⟨g, 0, none⟩) d cap) (pre ++ y :: post) W) (hd : (pre ++ y :: post).length = d) (hi : pre.length = i) {tag : List UInt8} (ht : tag.length ≤ 100) (nr : Bool) :
    OwnP B (.slice (some ⟨g, 0, none⟩) d cap) (pre ++ lastPt tag nr :: post) ((((W.setCell ⟨g, i * 4, none⟩ (.string ⟨tag.toArray⟩)).setCell ⟨g, i * 4 + 1, none⟩ (.string ⟨#[]⟩)).setCell ⟨g, i * 4 + 2, none⟩ (.slice none 0 0)).setCell ⟨g, i * 4 + 3, none⟩ (.bool nr)) := by
  have hlen : ∀ z : Pv, (pre ++ z :: post).length = d := fun z => by rw [List.length_append, List.length_cons] at hd ⊢; exact hd
  have hy := h.hs y (by simp)
  have hoy := h.ok y (by simp)
  have p1 := ownP_putD h (j := 0) (u := .string ⟨tag.toArray⟩) (y' := ⟨⟨tag, y.p.id, y.p.bs, y.p.near⟩, y.u⟩) hd hi (by decide) rfl hy ⟨ht, hoy.2⟩
  have p2 := ownP_putD p1 (j := 1) (u := .string ⟨#[]⟩) (y' := ⟨⟨tag, [], y.p.bs, y.p.near⟩, y.u⟩) (hlen _) hi (by decide) rfl (p1.hs ⟨⟨tag, y.p.id, y.p.bs, y.p.near⟩, y.u⟩ (List.mem_append_right _ (List.mem_cons_self ..))) ⟨ht, Nat.zero_le _, hoy.2.2⟩
  have p3 := ownP_putD p2 (j := 2) (u := .slice none 0 0) (y' := ⟨⟨tag, [], [], y.p.near⟩, .slice none 0 0⟩) (hlen _) hi (by decide) rfl (World.ownsRow_nil _ _ _ _) ⟨ht, Nat.zero_le _, Nat.zero_le _, fun s hs => by cases hs⟩
  exact ownP_putD p3 (j := 3) (u := .bool nr) (y' := lastPt tag nr) (hlen _) hi (by decide) rfl (World.ownsRow_nil _ _ _ _) ⟨ht, Nat.zero_le _, Nat.zero_le _, fun s hs => by cases hs⟩

/-- .. and where the row of parts is written so, figures stay. -/
theorem ownT_anew {B B' g d cap i : Nat} {pre post : List Pv} {y : Pv} {v : Value} {xs : List Fv} {W : World} (ht : OwnT B v xs W) (h : OwnP B' (.slice (some ⟨g, 0, none⟩) d cap) (pre ++ y :: post) W) (hd : (pre ++ y :: post).length = d) (u0 u1 u2 u3 : Value) :
    OwnT B v xs ((((W.setCell ⟨g, i * 4, none⟩ u0).setCell ⟨g, i * 4 + 1, none⟩ u1).setCell ⟨g, i * 4 + 2, none⟩ u2).setCell ⟨g, i * 4 + 3, none⟩ u3) := by
  have ho := h.own
  rw [hd] at ho
  obtain ⟨h1, g1⟩ := ho.stored (i * 4) u0
  obtain ⟨h2, g2⟩ := h1.stored (i * 4 + 1) u1
  obtain ⟨h3, g3⟩ := h2.stored (i * 4 + 2) u2
  obtain ⟨h4, g4⟩ := h3.stored (i * 4 + 3) u3
  have t1 := ht.parts (i := 0) (u := u0) ho g1
  have t2 := t1.parts (i := 0) (u := u0) h1 g2
  have t3 := t2.parts (i := 0) (u := u0) h2 g3
  exact t3.parts (i := 0) (u := u0) h3 g4

/-- Figures, a number and parts, as the draws give them to a law. -/
def GivenMeets (w : World) (e : Ending) (w' : World) : Prop := ∃ v xs i u ys, e = .returned (.tuple #[v, .int .i64 i, u]) ∧ OwnT w.heap.size v xs w' ∧ xs.length ≤ 17 ∧ -1 ≤ i ∧ i ≤ 18 ∧ OwnP w.heap.size u ys w' ∧ ys.length ≤ 8 ∧ 1 ≤ ys.length ∧ Below w.heap.size w w'

theorem pt_split {xs : List Pv} {i : Nat} (h : i < xs.length) : ∃ pre y post, xs = pre ++ y :: post ∧ pre.length = i := by
  refine ⟨xs.take i, xs[i], xs.drop (i + 1), ?_, by rw [List.length_take]; omega⟩
  rw [List.getElem_cons_drop, List.take_append_drop]

/-- The draw's state between the draws: the cursor, the figures, the parts. -/
structure MD (w : World) (a : Option Addr) (len cap : Nat) (v u : Value) (xs : List Fv) (ys : List Pv) (W : World) : Prop where
  fr : Fr w.heap.size a len cap w W
  t : OwnT (w.heap.size + 1) v xs W
  p : OwnP (w.heap.size + 1) u ys W

theorem MD.call {w : World} {a : Option Addr} {len cap : Nat} {v u : Value} {xs : List Fv} {ys : List Pv} {W W' : World} (h : MD w a len cap v u xs ys W) (hc : Cur W' w.heap.size a len cap) (ho : Only w.heap.size W W') : MD w a len cap v u xs ys W' :=
  ⟨h.fr.call hc ho, h.t.call ho (Nat.lt_succ_self _), h.p.call ho (Nat.lt_succ_self _)⟩

theorem MD.drew {w : World} {a : Option Addr} {len cap : Nat} {v u : Value} {xs : List Fv} {ys : List Pv} {W : World} (h : MD w a len cap v u xs ys W) : MD w a len cap v u xs ys W.drew := h.call h.fr.cur.drew (Only.refl _ _).drew

theorem MD.anew {w : World} {a : Option Addr} {len cap : Nat} {v : Value} {xs : List Fv} {g d cp i : Nat} {pre post : List Pv} {y : Pv} {W : World} (h : MD w a len cap v (.slice (some ⟨g, 0, none⟩) d cp) xs (pre ++ y :: post) W) (hd : (pre ++ y :: post).length = d) (hi : pre.length = i) (hg : w.heap.size + 1 ≤ g) {tag : List UInt8} (ht : tag.length ≤ 100) (nr : Bool) :
    MD w a len cap v (.slice (some ⟨g, 0, none⟩) d cp) xs (pre ++ lastPt tag nr :: post) ((((W.setCell ⟨g, i * 4, none⟩ (.string ⟨tag.toArray⟩)).setCell ⟨g, i * 4 + 1, none⟩ (.string ⟨#[]⟩)).setCell ⟨g, i * 4 + 2, none⟩ (.slice none 0 0)).setCell ⟨g, i * 4 + 3, none⟩ (.bool nr)) :=
  ⟨(((h.fr.set (by omega) (by omega) _ _).set (by omega) (by omega) _ _).set (by omega) (by omega) _ _).set (by omega) (by omega) _ _, ownT_anew h.t h.p hd _ _ _ _, ownP_anew h.p hd hi ht nr⟩

/-- What the operations of DrawMeets' region leave. -/
def fM (P T p6 p7 p17 pc : Value) (d2 M k : Nat) (tg : List UInt8) (b1 : Bool) (L : Array Bool) (i : Nat) (v : Value) (W : World) : Prop := match i with
  | 0 => v = P
  | 1 => v = P
  | 2 => v = .int .i64 (d2 : Int)
  | 3 => v = .int .i64 (M : Int)
  | 4 => v = T
  | 5 => v = .int .i64 (k : Int)
  | 6 => v = p6
  | 7 => v = p7
  | 8 => v = .string ⟨tg.toArray⟩
  | 9 => v = P
  | 10 => v = .int .i64 (d2 : Int)
  | 11 => v = .bool b1
  | 12 => v = .bool b1
  | 13 => b1 = true → v = pc
  | 14 => if b1 = true then ∃ nr, v = .bool nr else v = undef
  | 15 => ∃ nr, v = .bool nr
  | 16 => ∃ nr, v = .agg #[.string ⟨tg.toArray⟩, .string ⟨#[]⟩, .slice none 0 0, .bool nr]
  | 17 => v = p17
  | _ => True

def BM (w : World) (a : Option Addr) (len cap : Nat) (v u : Value) (xs : List Fv) (ys : List Pv) (d2 : Nat) (L : Array Bool) (W : World) : Prop :=
  if L[18]?.getD false = true then ∃ ys' : List Pv, ys'.length = d2 ∧ MD w a len cap v u xs ys' W else MD w a len cap v u xs ys W

theorem BM.step {w : World} {a : Option Addr} {len cap : Nat} {v u : Value} {xs : List Fv} {ys : List Pv} {d2 : Nat} {L : Array Bool} {W : World} (h : BM w a len cap v u xs ys d2 L W) {i : Nat} (hi : i ≠ 18) : BM w a len cap v u xs ys d2 (L.setIfInBounds i true) W := by
  unfold BM at h ⊢
  rw [Array.getElem?_setIfInBounds_ne hi]
  exact h

theorem BM.ahead {w : World} {a : Option Addr} {len cap : Nat} {v u : Value} {xs : List Fv} {ys : List Pv} {d2 : Nat} {L : Array Bool} {W : World} (h : BM w a len cap v u xs ys d2 L W) (hl : L[18]?.getD false = false) : MD w a len cap v u xs ys W := by
  unfold BM at h
  rw [if_neg (by rw [hl]; decide)] at h
  exact h

set_option maxRecDepth 20000 in
set_option maxHeartbeats 8000000 in
theorem Meets_draw (w : World) (a : Option Addr) (len cap : Nat) (h : Bytes w w.heap.size a len) :
    Calls Tryz.prog 21 #[.slice a len cap] w (GivenMeets w) := by
  go_enter Tryz.func21, Tryz.ntmps21
  go_wp2_with fail
  refine (New_draw _ a len cap h).mono ?_
  rintro e w1 ⟨rfl, hc1, ho1⟩
  have hF1 : Fr w.heap.size a len cap w w1 := ⟨hc1, ho1, h⟩
  clear hc1 ho1 h
  go_wp2_with fail
  refine (l11DrawAny_draw _ w.heap.size a len cap hF1.cur).mono ?_
  rintro e w2 ⟨v, xs, rfl, hv, hlen, hc2, ho2⟩
  have hF2 := hF1.call hc2 ho2
  have hcw : w.heap.size + 1 ≤ w1.heap.size := hF1.cur.lt
  have hv2 := hv.low hcw
  obtain ⟨ad, cp, rfl⟩ := ownT_shape hv
  obtain ⟨d, hd⟩ : ∃ d, xs.length = d := ⟨_, rfl⟩
  rw [hd] at hv2 hlen ⊢
  have HD := Lib.hid hd
  have hadd : IntKind.i64.wrap ((d : Int) + 2) = ((d + 2 : Nat) : Int) := by rw [IntKind.wrap_i64]; omega
  obtain ⟨D, hD⟩ : ∃ D, d + 2 = D := ⟨_, rfl⟩
  rw [hD] at hadd
  clear hd hF1 hc2 ho2 hv
  go_wp2_with fail
  refine (Below_draw _ w.heap.size a len cap (D : Int) hF2.cur).mono ?_
  rintro e w3 ⟨l, ⟨hl0, hl1, _⟩, rfl, hc3, hon3⟩
  have hl1' := hl1 (by omega)
  have hF3 := hF2.call hc3 hon3
  have hv3 := hv2.call hon3 (Nat.lt_succ_self _)
  have hsub : IntKind.i64.wrap (l - 1) = l - 1 := by rw [IntKind.wrap_i64]; omega
  obtain ⟨i, hi⟩ : ∃ i, l - 1 = i := ⟨_, rfl⟩
  rw [hi] at hsub
  have hi0 : -1 ≤ i := by omega
  have hi1 : i ≤ 18 := by omega
  clear hc3 hon3 hF2 hv2 hl1 hD
  go_wp2_with fail
  refine (l10DrawAny_draw _ w.heap.size a len cap hF3.cur).mono ?_
  rintro e w4 ⟨u, ys, rfl, hp, hpl, hpl1, hc4, hon4⟩
  have hw3 : w.heap.size + 1 ≤ w3.heap.size := hF3.cur.lt
  have hM : MD w a len cap (.slice ad d cp) u xs ys w4 := ⟨hF3.call hc4 hon4, hv3.call hon4 (Nat.lt_succ_self _), ⟨row_low hp.own hw3, fun x hx => row_low (hp.hs x hx) hw3, hp.ok⟩⟩
  obtain ⟨g, cp2, y0, rest0, _, rfl, hBg, hgs, hroom⟩ := ownP_form hM.p hpl1
  obtain ⟨d2, hd2⟩ : ∃ d2, ys.length = d2 := ⟨_, rfl⟩
  rw [hd2] at hM hpl hpl1 hroom ⊢
  have HD2 := Lib.hid hd2
  clear hd2 hF3 hv3 hc4 hon4 hp hi hl0 hl1'
  have hend : ∀ (ys' : List Pv) (W : World), ys'.length = d2 → MD w a len cap (.slice ad d cp) (.slice (some ⟨g, 0, none⟩) d2 cp2) xs ys' W → GivenMeets w (.returned (.tuple #[.slice ad d cp, .int .i64 i, .slice (some ⟨g, 0, none⟩) d2 cp2])) W := fun ys' W hl hm =>
    ⟨_, xs, i, _, ys', rfl, hm.t.low (Nat.le_succ _), by rw [HD.out]; exact hlen, hi0, hi1, ⟨row_low hm.p.own (Nat.le_succ _), fun x hx => row_low (hm.p.hs x hx) (Nat.le_succ _), hm.p.ok⟩, by omega, by omega, hm.fr.only.below (Nat.le_refl _) (Nat.le_refl _)⟩
  have HEND := Lib.hid hend
  clear hend
  by_cases hin : 0 ≤ i ∧ i < (d : Int)
  · obtain ⟨hin0, hin1⟩ := hin
    obtain ⟨k, rfl⟩ : ∃ k : Nat, i = (k : Int) := ⟨i.toNat, by omega⟩
    go_wp2_with fail
    refine (Once_draw _ w.heap.size a len cap 2 hM.fr.cur).mono ?_
    rintro e w5 ⟨q, rfl, hc5, hon5⟩
    have hM5 := hM.call hc5 hon5
    clear hM hc5 hon5
    cases q
    · go_wp2_with fail
      go_ret3
      exact HEND.out ys _ HD2.out hM5
    · obtain ⟨x, hx⟩ : ∃ x, xs[k]? = some x := ⟨_, List.getElem?_eq_getElem (by rw [HD.out]; omega)⟩
      have htag : x.f.tag.length ≤ 100 := (hM5.t.ok x (List.mem_of_getElem? hx)).2.1
      obtain ⟨a', cap', ea, _, _, hA⟩ := hM5.t.slc.form
      obtain ⟨gt, ot, eg, hat⟩ := hA (by intro e0; rw [e0] at hx; cases hx)
      rw [HD.out] at ea
      injection ea with e1 e2 e3
      subst e1 e3
      subst eg
      obtain ⟨M, hM'⟩ : ∃ M, d2 - 1 = M := ⟨_, rfl⟩
      have hsub2 : IntKind.i64.wrap ((d2 : Int) - 1) = (M : Int) := by rw [IntKind.wrap_i64]; omega
      have hMd : (M : Int) < (d2 : Int) := by omega
      have hM0 : (0 : Int) ≤ (M : Int) := by omega
      obtain ⟨pre, y, post, rfl, hpre⟩ := pt_split (xs := ys) (i := M) (by rw [HD2.out]; omega)
      have HCT2 : Hid (∀ (W : World) (L : Array Bool), BM w a len cap (.slice (some ⟨gt, ot, none⟩) d cp) (.slice (some ⟨g, 0, none⟩) d2 cp2) xs (pre ++ y :: post) d2 L W → W.cell? ⟨gt, ot + k * 5 + 1, none⟩ = some (.string ⟨x.f.tag.toArray⟩)) := Lib.hid (fun W L hb => by
        have hs : FiSlc W (.slice (some ⟨gt, ot, none⟩) d cp) xs := by
          unfold BM at hb
          split at hb
          · obtain ⟨ys', _, hm⟩ := hb; exact hm.t.slc
          · exact hb.t.slc
        obtain ⟨a', cap', ea, _, _, hA⟩ := hs.form
        obtain ⟨gt', ot', eg, hat'⟩ := hA (by intro e0; rw [e0] at hx; cases hx)
        injection ea with e1 e2 e3
        rw [eg] at e1
        cases e1
        exact (fi_cells hat' hx).2.1)
      have HCP := Lib.hid (fun (W : World) (hm : MD w a len cap (.slice (some ⟨gt, ot, none⟩) d cp) (.slice (some ⟨g, 0, none⟩) d2 cp2) xs (pre ++ y :: post) W) => And.intro (ownP_cellD hm.p HD2.out hpre (j := 0) rfl) (And.intro (ownP_cellD hm.p HD2.out hpre (j := 1) rfl) (And.intro (ownP_cellD hm.p HD2.out hpre (j := 2) rfl) (ownP_cellD hm.p HD2.out hpre (j := 3) rfl))))
      have HAN := Lib.hid (fun (W : World) (hm : MD w a len cap (.slice (some ⟨gt, ot, none⟩) d cp) (.slice (some ⟨g, 0, none⟩) d2 cp2) xs (pre ++ y :: post) W) (nr : Bool) => hm.anew HD2.out hpre hBg htag nr)
      have HLN := Lib.hid (fun (nr : Bool) => (by have := HD2.out; rw [List.length_append, List.length_cons] at this ⊢; exact this : (pre ++ lastPt x.f.tag nr :: post).length = d2))
      have hk1 : (k : Int) < (d : Int) := hin1
      obtain ⟨tg, htg⟩ : ∃ tg, x.f.tag = tg := ⟨_, rfl⟩
      rw [htg] at HCT2 HAN HLN
      have hMM := Lib.hid hM5
      clear hA hat hx hpre htag hM'
      go_upto_region 6 with (fail)
      go_cut [] from 9 to 53 (fun wx => ∃ ys', ys'.length = d2 ∧ MD w a len cap (.slice (some ⟨gt, ot, none⟩) d cp) (.slice (some ⟨g, 0, none⟩) d2 cp2) xs ys' wx)
      case first =>
        by_cases h1 : 1 < d2
        · have h1' : (1 : Int) < (d2 : Int) := by omega
          skip
          refine region_free5 (by kernel_rfl) (fM (.slice (some ⟨g, 0, none⟩) d2 cp2) (.slice (some ⟨gt, ot, none⟩) d cp) (.pointer (some ⟨gt, ot + k * 5, none⟩)) (.pointer (some ⟨gt, ot + k * 5 + 1, none⟩)) (.pointer (some ⟨g, M * 4, none⟩)) (.pointer (some ⟨w.heap.size, 0, none⟩)) d2 M k tg true) (BM w a len cap (.slice (some ⟨gt, ot, none⟩) d cp) (.slice (some ⟨g, 0, none⟩) d2 cp2) xs (pre ++ y :: post) d2) (none :: none :: none :: none :: none :: none :: none :: none :: none :: none :: none :: none :: none :: none :: none :: none :: none :: none :: none :: none :: none :: none :: none :: none :: none :: none :: none :: none :: none :: none :: none :: none :: none :: some 0 :: some 1 :: some 2 :: some 3 :: some 4 :: some 5 :: some 6 :: some 7 :: some 8 :: some 9 :: some 10 :: some 11 :: some 12 :: some 13 :: some 14 :: some 15 :: some 16 :: some 17 :: none :: none :: none :: []) (by kernel_rfl) (by kernel_rfl) (by unfold BM; simp; exact hMM.out.drew) ?_ ?_
          · intro i hi L A W hB hLs hLi hbeh hdn hcl hst hun hA
            have hi2 : i < 19 := hi
            have hcase : i = 0 ∨ i = 1 ∨ i = 2 ∨ i = 3 ∨ i = 4 ∨ i = 5 ∨ i = 6 ∨ i = 7 ∨ i = 8 ∨ i = 9 ∨ i = 10 ∨ i = 11 ∨ i = 12 ∨ i = 13 ∨ i = 14 ∨ i = 15 ∨ i = 16 ∨ i = 17 ∨ i = 18 := by omega
            clear hi hi2
            rcases hcase with rfl | rfl | rfl | rfl | rfl | rfl | rfl | rfl | rfl | rfl | rfl | rfl | rfl | rfl | rfl | rfl | rfl | rfl | rfl
            · skip
              have s8 : A.tmps[8]?.getD undef = .slice (some ⟨g, 0, none⟩) d2 cp2 := (hst 8 (by kernel_rfl)).trans rfl
              exact wpOp_of rfl rfl (wp_value (v := .slice (some ⟨g, 0, none⟩) d2 cp2) (W' := W) (by simp [execOp, Act.eval, s8, go_sem]) ⟨_, rfl, hB.step (by decide), rfl, fun j d _ _ _ h => h⟩)
            · skip
              have s8 : A.tmps[8]?.getD undef = .slice (some ⟨g, 0, none⟩) d2 cp2 := (hst 8 (by kernel_rfl)).trans rfl
              exact wpOp_of rfl rfl (wp_value (v := .slice (some ⟨g, 0, none⟩) d2 cp2) (W' := W) (by simp [execOp, Act.eval, s8, go_sem]) ⟨_, rfl, hB.step (by decide), rfl, fun j d _ _ _ h => h⟩)
            · skip
              have s34 : A.tmps[34]?.getD undef = .slice (some ⟨g, 0, none⟩) d2 cp2 := hA 1 34 (by kernel_rfl) (hdn 1 (by kernel_rfl))
              exact wpOp_of rfl rfl (wp_value (v := .int .i64 (d2 : Int)) (W' := W) (by simp [execOp, Act.eval, s34, go_sem]) ⟨_, rfl, hB.step (by decide), rfl, fun j d _ _ _ h => h⟩)
            · skip
              have s35 : A.tmps[35]?.getD undef = .int .i64 (d2 : Int) := hA 2 35 (by kernel_rfl) (hdn 2 (by kernel_rfl))
              exact wpOp_of rfl rfl (wp_value (v := .int .i64 (M : Int)) (W' := W) (by simp [execOp, Act.eval, s35, go_sem, hsub2]) ⟨_, rfl, hB.step (by decide), rfl, fun j d _ _ _ h => h⟩)
            · skip
              have s6 : A.tmps[6]?.getD undef = .slice (some ⟨gt, ot, none⟩) d cp := (hst 6 (by kernel_rfl)).trans rfl
              exact wpOp_of rfl rfl (wp_value (v := .slice (some ⟨gt, ot, none⟩) d cp) (W' := W) (by simp [execOp, Act.eval, s6, go_sem]) ⟨_, rfl, hB.step (by decide), rfl, fun j d _ _ _ h => h⟩)
            · skip
              have s7 : A.tmps[7]?.getD undef = .int .i64 (k : Int) := (hst 7 (by kernel_rfl)).trans rfl
              exact wpOp_of rfl rfl (wp_value (v := .int .i64 (k : Int)) (W' := W) (by simp [execOp, Act.eval, s7, go_sem]) ⟨_, rfl, hB.step (by decide), rfl, fun j d _ _ _ h => h⟩)
            · skip
              have s37 : A.tmps[37]?.getD undef = .slice (some ⟨gt, ot, none⟩) d cp := hA 4 37 (by kernel_rfl) (hdn 4 (by kernel_rfl))
              have s38 : A.tmps[38]?.getD undef = .int .i64 (k : Int) := hA 5 38 (by kernel_rfl) (hdn 5 (by kernel_rfl))
              exact wpOp_of rfl rfl (wp_value (v := .pointer (some ⟨gt, ot + k * 5, none⟩)) (W' := W) (by simp [execOp, Act.eval, s37, s38, go_sem, hk1, hin0]) ⟨_, rfl, hB.step (by decide), rfl, fun j d _ _ _ h => h⟩)
            · skip
              have s39 : A.tmps[39]?.getD undef = .pointer (some ⟨gt, ot + k * 5, none⟩) := hA 6 39 (by kernel_rfl) (hdn 6 (by kernel_rfl))
              exact wpOp_of rfl rfl (wp_value (v := .pointer (some ⟨gt, ot + k * 5 + 1, none⟩)) (W' := W) (by simp [execOp, Act.eval, s39, go_sem]) ⟨_, rfl, hB.step (by decide), rfl, fun j d _ _ _ h => h⟩)
            · skip
              have s40 : A.tmps[40]?.getD undef = .pointer (some ⟨gt, ot + k * 5 + 1, none⟩) := hA 7 40 (by kernel_rfl) (hdn 7 (by kernel_rfl))
              have cW := HCT2.out W L hB
              exact wpOp_of rfl rfl (wp_value (v := .string ⟨tg.toArray⟩) (W' := W) (by simp [execOp, Act.eval, s40, go_sem, cW]) ⟨_, rfl, hB.step (by decide), rfl, fun j d _ _ _ h => h⟩)
            · skip
              have s8 : A.tmps[8]?.getD undef = .slice (some ⟨g, 0, none⟩) d2 cp2 := (hst 8 (by kernel_rfl)).trans rfl
              exact wpOp_of rfl rfl (wp_value (v := .slice (some ⟨g, 0, none⟩) d2 cp2) (W' := W) (by simp [execOp, Act.eval, s8, go_sem]) ⟨_, rfl, hB.step (by decide), rfl, fun j d _ _ _ h => h⟩)
            · skip
              have s42 : A.tmps[42]?.getD undef = .slice (some ⟨g, 0, none⟩) d2 cp2 := hA 9 42 (by kernel_rfl) (hdn 9 (by kernel_rfl))
              exact wpOp_of rfl rfl (wp_value (v := .int .i64 (d2 : Int)) (W' := W) (by simp [execOp, Act.eval, s42, go_sem]) ⟨_, rfl, hB.step (by decide), rfl, fun j d _ _ _ h => h⟩)
            · skip
              have s43 : A.tmps[43]?.getD undef = .int .i64 (d2 : Int) := hA 10 43 (by kernel_rfl) (hdn 10 (by kernel_rfl))
              exact wpOp_of rfl rfl (wp_value (v := .bool true) (W' := W) (by simp [execOp, Act.eval, s43, go_sem, h1']) ⟨_, rfl, hB.step (by decide), rfl, fun j d _ _ _ h => h⟩)
            · skip
              have s44 : A.tmps[44]?.getD undef = .bool true := hA 11 44 (by kernel_rfl) (hdn 11 (by kernel_rfl))
              exact wpOp_of rfl rfl (wp_value (v := .bool true) (W' := W) (by simp [execOp, Act.eval, s44, go_sem]) ⟨_, rfl, hB.step (by decide), rfl, fun j d _ _ _ h => h⟩)
            · skip
              have s45 : A.tmps[45]?.getD undef = .bool true := hA 12 45 (by kernel_rfl) (hdn 12 (by kernel_rfl))
              have s5 : A.tmps[5]?.getD undef = .pointer (some ⟨w.heap.size, 0, none⟩) := (hst 5 (by kernel_rfl)).trans rfl
              exact wpOp_want (b := true) rfl rfl (by kernel_rfl) s45 (wp_value (v := .pointer (some ⟨w.heap.size, 0, none⟩)) (W' := W) (by simp [execOp, Act.eval, s5, go_sem]) ⟨_, rfl, hB.step (by decide), (fun _ => rfl), fun j d _ _ _ h => h⟩)
            · skip
              have s45 : A.tmps[45]?.getD undef = .bool true := hA 12 45 (by kernel_rfl) (hdn 12 (by kernel_rfl))
              have s46 : A.tmps[46]?.getD undef = .pointer (some ⟨w.heap.size, 0, none⟩) := hA 13 46 (by kernel_rfl) (hdn 13 (by kernel_rfl)) rfl
              have hL18 : L[18]?.getD false = false := by
                cases hl : L[18]?.getD false
                · rfl
                · have h14 := hcl 15 14 (hcl 16 15 (hcl 18 16 hl (by kernel_rfl)) (by kernel_rfl)) (by kernel_rfl)
                  rw [hLi] at h14; cases h14
              have hm := hB.ahead hL18
              refine wpOp_want (b := true) rfl rfl (by kernel_rfl) s45 (wp_enter (f := 43) (args := #[.pointer (some ⟨w.heap.size, 0, none⟩), .int .i64 2]) (by simp [execOp, Act.eval, s46, go_sem]) ?_)
              refine (Once_draw _ w.heap.size a len cap 2 hm.fr.cur).mono ?_
              rintro e w6 ⟨nr, rfl, hc6, hon6⟩
              exact ⟨_, rfl, _, rfl, by unfold BM; rw [Array.getElem?_setIfInBounds_ne (by decide), if_neg (by rw [hL18]; decide)]; exact hm.call hc6 hon6, ⟨nr, rfl⟩, fun j d _ _ _ h => h⟩
            · skip
              have s45 : A.tmps[45]?.getD undef = .bool true := hA 12 45 (by kernel_rfl) (hdn 12 (by kernel_rfl))
              obtain ⟨nr, s47⟩ : ∃ nr, A.tmps[47]?.getD undef = .bool nr := hA 14 47 (by kernel_rfl) (hdn 14 (by kernel_rfl))
              exact wpOp_of rfl rfl (wp_value (v := .bool nr) (W' := W) (by simp [execOp, Act.eval, s45, s47, go_sem]) ⟨_, rfl, hB.step (by decide), ⟨nr, rfl⟩, fun j d _ _ _ h => h⟩)
            · skip
              have s41 : A.tmps[41]?.getD undef = .string ⟨tg.toArray⟩ := hA 8 41 (by kernel_rfl) (hdn 8 (by kernel_rfl))
              obtain ⟨nr, s48⟩ : ∃ nr, A.tmps[48]?.getD undef = .bool nr := hA 15 48 (by kernel_rfl) (hdn 15 (by kernel_rfl))
              exact wpOp_of rfl rfl (wp_value (v := .agg #[.string ⟨tg.toArray⟩, .string ⟨#[]⟩, .slice none 0 0, .bool nr]) (W' := W) (by simp [execOp, Act.eval, s41, s48, go_sem]) ⟨_, rfl, hB.step (by decide), ⟨nr, rfl⟩, fun j d _ _ _ h => h⟩)
            · skip
              have s33 : A.tmps[33]?.getD undef = .slice (some ⟨g, 0, none⟩) d2 cp2 := hA 0 33 (by kernel_rfl) (hdn 0 (by kernel_rfl))
              have s36 : A.tmps[36]?.getD undef = .int .i64 (M : Int) := hA 3 36 (by kernel_rfl) (hdn 3 (by kernel_rfl))
              exact wpOp_of rfl rfl (wp_value (v := .pointer (some ⟨g, M * 4, none⟩)) (W' := W) (by simp [execOp, Act.eval, s33, s36, go_sem, hMd, hM0]) ⟨_, rfl, hB.step (by decide), rfl, fun j d _ _ _ h => h⟩)
            · skip
              obtain ⟨nr, s49⟩ : ∃ nr, A.tmps[49]?.getD undef = .agg #[.string ⟨tg.toArray⟩, .string ⟨#[]⟩, .slice none 0 0, .bool nr] := hA 16 49 (by kernel_rfl) (hdn 16 (by kernel_rfl))
              have s50 : A.tmps[50]?.getD undef = .pointer (some ⟨g, M * 4, none⟩) := hA 17 50 (by kernel_rfl) (hdn 17 (by kernel_rfl))
              have hm := hB.ahead hLi
              obtain ⟨⟨k0, f0⟩, ⟨k1, f1⟩, ⟨k2, f2⟩, k3, f3⟩ := HCP.out W hm
              simp only [Nat.add_zero] at k0 f0
              refine wpOp_of rfl rfl (wp_stored (W' := (((W.setCell ⟨g, M * 4, none⟩ (.string ⟨tg.toArray⟩)).setCell ⟨g, M * 4 + 1, none⟩ (.string ⟨#[]⟩)).setCell ⟨g, M * 4 + 2, none⟩ (.slice none 0 0)).setCell ⟨g, M * 4 + 3, none⟩ (.bool nr)) (by simp [execOp, Act.eval, s49, s50, go_sem, k0, k1, k2, k3, f0, f1, f2, f3]) ⟨undef, rfl, ?_, trivial, fun j d _ _ _ h => h⟩)
              unfold BM
              rw [if_pos (by rw [Array.getElem?_setIfInBounds_self_of_lt (by rw [hLs]; decide)]; rfl)]
              exact ⟨_, HLN.out nr, HAN.out W hm nr⟩
          intro L8 W8 vs hall hB8 hfs
          unfold BM at hB8
          rw [if_pos (hall 18 (by decide))] at hB8
          clear hfs
          simp only [RI.mergeL]
          go_wp2_with fail
          go_meet
          exact hB8
        · have h1' : ¬ (1 : Int) < (d2 : Int) := by omega
          skip
          refine region_free5 (by kernel_rfl) (fM (.slice (some ⟨g, 0, none⟩) d2 cp2) (.slice (some ⟨gt, ot, none⟩) d cp) (.pointer (some ⟨gt, ot + k * 5, none⟩)) (.pointer (some ⟨gt, ot + k * 5 + 1, none⟩)) (.pointer (some ⟨g, M * 4, none⟩)) (.pointer (some ⟨w.heap.size, 0, none⟩)) d2 M k tg false) (BM w a len cap (.slice (some ⟨gt, ot, none⟩) d cp) (.slice (some ⟨g, 0, none⟩) d2 cp2) xs (pre ++ y :: post) d2) (none :: none :: none :: none :: none :: none :: none :: none :: none :: none :: none :: none :: none :: none :: none :: none :: none :: none :: none :: none :: none :: none :: none :: none :: none :: none :: none :: none :: none :: none :: none :: none :: none :: some 0 :: some 1 :: some 2 :: some 3 :: some 4 :: some 5 :: some 6 :: some 7 :: some 8 :: some 9 :: some 10 :: some 11 :: some 12 :: some 13 :: some 14 :: some 15 :: some 16 :: some 17 :: none :: none :: none :: []) (by kernel_rfl) (by kernel_rfl) (by unfold BM; simp; exact hMM.out.drew) ?_ ?_
          · intro i hi L A W hB hLs hLi hbeh hdn hcl hst hun hA
            have hi2 : i < 19 := hi
            have hcase : i = 0 ∨ i = 1 ∨ i = 2 ∨ i = 3 ∨ i = 4 ∨ i = 5 ∨ i = 6 ∨ i = 7 ∨ i = 8 ∨ i = 9 ∨ i = 10 ∨ i = 11 ∨ i = 12 ∨ i = 13 ∨ i = 14 ∨ i = 15 ∨ i = 16 ∨ i = 17 ∨ i = 18 := by omega
            clear hi hi2
            rcases hcase with rfl | rfl | rfl | rfl | rfl | rfl | rfl | rfl | rfl | rfl | rfl | rfl | rfl | rfl | rfl | rfl | rfl | rfl | rfl
            · skip
              have s8 : A.tmps[8]?.getD undef = .slice (some ⟨g, 0, none⟩) d2 cp2 := (hst 8 (by kernel_rfl)).trans rfl
              exact wpOp_of rfl rfl (wp_value (v := .slice (some ⟨g, 0, none⟩) d2 cp2) (W' := W) (by simp [execOp, Act.eval, s8, go_sem]) ⟨_, rfl, hB.step (by decide), rfl, fun j d _ _ _ h => h⟩)
            · skip
              have s8 : A.tmps[8]?.getD undef = .slice (some ⟨g, 0, none⟩) d2 cp2 := (hst 8 (by kernel_rfl)).trans rfl
              exact wpOp_of rfl rfl (wp_value (v := .slice (some ⟨g, 0, none⟩) d2 cp2) (W' := W) (by simp [execOp, Act.eval, s8, go_sem]) ⟨_, rfl, hB.step (by decide), rfl, fun j d _ _ _ h => h⟩)
            · skip
              have s34 : A.tmps[34]?.getD undef = .slice (some ⟨g, 0, none⟩) d2 cp2 := hA 1 34 (by kernel_rfl) (hdn 1 (by kernel_rfl))
              exact wpOp_of rfl rfl (wp_value (v := .int .i64 (d2 : Int)) (W' := W) (by simp [execOp, Act.eval, s34, go_sem]) ⟨_, rfl, hB.step (by decide), rfl, fun j d _ _ _ h => h⟩)
            · skip
              have s35 : A.tmps[35]?.getD undef = .int .i64 (d2 : Int) := hA 2 35 (by kernel_rfl) (hdn 2 (by kernel_rfl))
              exact wpOp_of rfl rfl (wp_value (v := .int .i64 (M : Int)) (W' := W) (by simp [execOp, Act.eval, s35, go_sem, hsub2]) ⟨_, rfl, hB.step (by decide), rfl, fun j d _ _ _ h => h⟩)
            · skip
              have s6 : A.tmps[6]?.getD undef = .slice (some ⟨gt, ot, none⟩) d cp := (hst 6 (by kernel_rfl)).trans rfl
              exact wpOp_of rfl rfl (wp_value (v := .slice (some ⟨gt, ot, none⟩) d cp) (W' := W) (by simp [execOp, Act.eval, s6, go_sem]) ⟨_, rfl, hB.step (by decide), rfl, fun j d _ _ _ h => h⟩)
            · skip
              have s7 : A.tmps[7]?.getD undef = .int .i64 (k : Int) := (hst 7 (by kernel_rfl)).trans rfl
              exact wpOp_of rfl rfl (wp_value (v := .int .i64 (k : Int)) (W' := W) (by simp [execOp, Act.eval, s7, go_sem]) ⟨_, rfl, hB.step (by decide), rfl, fun j d _ _ _ h => h⟩)
            · skip
              have s37 : A.tmps[37]?.getD undef = .slice (some ⟨gt, ot, none⟩) d cp := hA 4 37 (by kernel_rfl) (hdn 4 (by kernel_rfl))
              have s38 : A.tmps[38]?.getD undef = .int .i64 (k : Int) := hA 5 38 (by kernel_rfl) (hdn 5 (by kernel_rfl))
              exact wpOp_of rfl rfl (wp_value (v := .pointer (some ⟨gt, ot + k * 5, none⟩)) (W' := W) (by simp [execOp, Act.eval, s37, s38, go_sem, hk1, hin0]) ⟨_, rfl, hB.step (by decide), rfl, fun j d _ _ _ h => h⟩)
            · skip
              have s39 : A.tmps[39]?.getD undef = .pointer (some ⟨gt, ot + k * 5, none⟩) := hA 6 39 (by kernel_rfl) (hdn 6 (by kernel_rfl))
              exact wpOp_of rfl rfl (wp_value (v := .pointer (some ⟨gt, ot + k * 5 + 1, none⟩)) (W' := W) (by simp [execOp, Act.eval, s39, go_sem]) ⟨_, rfl, hB.step (by decide), rfl, fun j d _ _ _ h => h⟩)
            · skip
              have s40 : A.tmps[40]?.getD undef = .pointer (some ⟨gt, ot + k * 5 + 1, none⟩) := hA 7 40 (by kernel_rfl) (hdn 7 (by kernel_rfl))
              have cW := HCT2.out W L hB
              exact wpOp_of rfl rfl (wp_value (v := .string ⟨tg.toArray⟩) (W' := W) (by simp [execOp, Act.eval, s40, go_sem, cW]) ⟨_, rfl, hB.step (by decide), rfl, fun j d _ _ _ h => h⟩)
            · skip
              have s8 : A.tmps[8]?.getD undef = .slice (some ⟨g, 0, none⟩) d2 cp2 := (hst 8 (by kernel_rfl)).trans rfl
              exact wpOp_of rfl rfl (wp_value (v := .slice (some ⟨g, 0, none⟩) d2 cp2) (W' := W) (by simp [execOp, Act.eval, s8, go_sem]) ⟨_, rfl, hB.step (by decide), rfl, fun j d _ _ _ h => h⟩)
            · skip
              have s42 : A.tmps[42]?.getD undef = .slice (some ⟨g, 0, none⟩) d2 cp2 := hA 9 42 (by kernel_rfl) (hdn 9 (by kernel_rfl))
              exact wpOp_of rfl rfl (wp_value (v := .int .i64 (d2 : Int)) (W' := W) (by simp [execOp, Act.eval, s42, go_sem]) ⟨_, rfl, hB.step (by decide), rfl, fun j d _ _ _ h => h⟩)
            · skip
              have s43 : A.tmps[43]?.getD undef = .int .i64 (d2 : Int) := hA 10 43 (by kernel_rfl) (hdn 10 (by kernel_rfl))
              exact wpOp_of rfl rfl (wp_value (v := .bool false) (W' := W) (by simp [execOp, Act.eval, s43, go_sem, h1']) ⟨_, rfl, hB.step (by decide), rfl, fun j d _ _ _ h => h⟩)
            · skip
              have s44 : A.tmps[44]?.getD undef = .bool false := hA 11 44 (by kernel_rfl) (hdn 11 (by kernel_rfl))
              exact wpOp_of rfl rfl (wp_value (v := .bool false) (W' := W) (by simp [execOp, Act.eval, s44, go_sem]) ⟨_, rfl, hB.step (by decide), rfl, fun j d _ _ _ h => h⟩)
            · skip
              have s45 : A.tmps[45]?.getD undef = .bool false := hA 12 45 (by kernel_rfl) (hdn 12 (by kernel_rfl))
              exact wpOp_pass (b := true) rfl rfl (by kernel_rfl) _ s45 (fun e => by cases e) ⟨_, rfl, hB.step (by decide), (fun h => by cases h), fun j d _ _ _ h => h⟩
            · skip
              have s45 : A.tmps[45]?.getD undef = .bool false := hA 12 45 (by kernel_rfl) (hdn 12 (by kernel_rfl))
              exact wpOp_pass (b := true) rfl rfl (by kernel_rfl) _ s45 (fun e => by cases e) ⟨_, rfl, hB.step (by decide), rfl, fun j d _ _ _ h => h⟩
            · skip
              have s45 : A.tmps[45]?.getD undef = .bool false := hA 12 45 (by kernel_rfl) (hdn 12 (by kernel_rfl))
              exact wpOp_of rfl rfl (wp_value (v := .bool false) (W' := W) (by simp [execOp, Act.eval, s45, go_sem]) ⟨_, rfl, hB.step (by decide), ⟨false, rfl⟩, fun j d _ _ _ h => h⟩)
            · skip
              have s41 : A.tmps[41]?.getD undef = .string ⟨tg.toArray⟩ := hA 8 41 (by kernel_rfl) (hdn 8 (by kernel_rfl))
              obtain ⟨nr, s48⟩ : ∃ nr, A.tmps[48]?.getD undef = .bool nr := hA 15 48 (by kernel_rfl) (hdn 15 (by kernel_rfl))
              exact wpOp_of rfl rfl (wp_value (v := .agg #[.string ⟨tg.toArray⟩, .string ⟨#[]⟩, .slice none 0 0, .bool nr]) (W' := W) (by simp [execOp, Act.eval, s41, s48, go_sem]) ⟨_, rfl, hB.step (by decide), ⟨nr, rfl⟩, fun j d _ _ _ h => h⟩)
            · skip
              have s33 : A.tmps[33]?.getD undef = .slice (some ⟨g, 0, none⟩) d2 cp2 := hA 0 33 (by kernel_rfl) (hdn 0 (by kernel_rfl))
              have s36 : A.tmps[36]?.getD undef = .int .i64 (M : Int) := hA 3 36 (by kernel_rfl) (hdn 3 (by kernel_rfl))
              exact wpOp_of rfl rfl (wp_value (v := .pointer (some ⟨g, M * 4, none⟩)) (W' := W) (by simp [execOp, Act.eval, s33, s36, go_sem, hMd, hM0]) ⟨_, rfl, hB.step (by decide), rfl, fun j d _ _ _ h => h⟩)
            · skip
              obtain ⟨nr, s49⟩ : ∃ nr, A.tmps[49]?.getD undef = .agg #[.string ⟨tg.toArray⟩, .string ⟨#[]⟩, .slice none 0 0, .bool nr] := hA 16 49 (by kernel_rfl) (hdn 16 (by kernel_rfl))
              have s50 : A.tmps[50]?.getD undef = .pointer (some ⟨g, M * 4, none⟩) := hA 17 50 (by kernel_rfl) (hdn 17 (by kernel_rfl))
              have hm := hB.ahead hLi
              obtain ⟨⟨k0, f0⟩, ⟨k1, f1⟩, ⟨k2, f2⟩, k3, f3⟩ := HCP.out W hm
              simp only [Nat.add_zero] at k0 f0
              refine wpOp_of rfl rfl (wp_stored (W' := (((W.setCell ⟨g, M * 4, none⟩ (.string ⟨tg.toArray⟩)).setCell ⟨g, M * 4 + 1, none⟩ (.string ⟨#[]⟩)).setCell ⟨g, M * 4 + 2, none⟩ (.slice none 0 0)).setCell ⟨g, M * 4 + 3, none⟩ (.bool nr)) (by simp [execOp, Act.eval, s49, s50, go_sem, k0, k1, k2, k3, f0, f1, f2, f3]) ⟨undef, rfl, ?_, trivial, fun j d _ _ _ h => h⟩)
              unfold BM
              rw [if_pos (by rw [Array.getElem?_setIfInBounds_self_of_lt (by rw [hLs]; decide)]; rfl)]
              exact ⟨_, HLN.out nr, HAN.out W hm nr⟩
          intro L8 W8 vs hall hB8 hfs
          unfold BM at hB8
          rw [if_pos (hall 18 (by decide))] at hB8
          clear hfs
          simp only [RI.mergeL]
          go_wp2_with fail
          go_meet
          exact hB8
      case rest =>
        obtain ⟨ys', hl, hm⟩ := hcut
        go_wp2_with fail
        go_ret3
        exact HEND.out ys' _ hl hm
  · by_cases h0 : 0 ≤ i
    · have h1 : ¬ i < (d : Int) := fun h => hin ⟨h0, h⟩
      clear hin
      go_wp2_with fail
      go_ret3
      exact HEND.out ys _ HD2.out hM
    · clear hin
      go_wp2_with fail
      go_ret3
      exact HEND.out ys _ HD2.out hM

end Go.Proofs.YtgaggpnlimchkaaGreatDoor.B11
