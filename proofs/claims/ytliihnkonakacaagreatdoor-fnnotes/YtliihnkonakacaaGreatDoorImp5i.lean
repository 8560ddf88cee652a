/- A strings.Builder of the call's own, at this program: written (WriteString, copyCheck: the kit's shelf lays reading alone here), and read (String). Contracts of chapter 5's functions (tokens): the program's TextOf. Contracts of chapter 5's functions (tokens): the program's Squeezed. Chapter 5 (tokens): the contracts for whatever slice of tokens, nil too; plain facts that the laws ask. -/
import Derived.Test.YtliihnkonakacaaGreatDoorFound
import Derived.Test.YtliihnkonakacaaGreatDoorShelf
import Derived.Test.YtliihnkonakacaaGreatDoorImp5f
import Derived.Test.YtliihnkonakacaaGreatDoorBase5h
import Derived.Test.YtliihnkonakacaaGreatDoorBase5n
import Derived.Test.YtliihnkonakacaaGreatDoorDraw5
namespace Go.Proofs.YtliihnkonakacaaGreatDoor.BL
open Go.Proofs.YtliihnkonakacaaGreatDoor.BT Go.Proofs.YtliihnkonakacaaGreatDoor.B2
open Go.RowKit
set_option linter.unusedVariables false

theorem sizeB : (Tryz.prog.info? 105).map (·.size) = some 2 := by kernel_rfl

theorem liesB : liesAt Tryz.prog Tryz.prog.depth 105 (2 / Tryz.prog.cellsOf 105) 0 105 1 = true := by kernel_rfl

theorem byteInfo : (Tryz.prog.info? 5).map (fun i => (i.zero, i.size, i.bytes)) = some (some (.int .u8 0), 1, 1) := by kernel_rfl

/-- A builder of the call's own (its blocks from B on) that holds this text. -/
def Bld (w : World) (B b : Nat) (l : List UInt8) : Prop := Lib.IsBuilder 105 5 B b (Lib.byteCells l) w ∧ B ≤ w.heap.size

theorem at_below {w w' : World} {T e : TypeId} {B b : Nat} {p : Value} {bs : List Value} (h : Lib.BuilderAt T e B b p bs w) (hb : Below w.heap.size w w') : Lib.BuilderAt T e B b p bs w' := by
  have hlt := h.lt
  obtain ⟨h0, v, h1, h2, h3⟩ := h
  exact ⟨h0, v, (hb.block b hlt).trans h1, own_below h2 hb, h3⟩

theorem Bld.on {w w' : World} {B b : Nat} {l : List UInt8} (h : Bld w B b l) (hb : Below w.heap.size w w') : Bld w' B b l :=
  ⟨h.1.imp (fun x => at_below x hb) (fun x => at_below x hb), Nat.le_trans h.2 hb.size⟩

theorem Bld.new (w : World) (B : Nat) (hB : B ≤ w.heap.size) : Bld (w.alloc (.cells #[.pointer none, .slice none 0 0] 105)) B w.heap.size [] := by
  refine ⟨Or.inl ⟨hB, .slice none 0 0, ?_, World.ownsRow_nil _ _ _ _, by simp [Value.ownBlock]⟩, by simp; omega⟩
  exact heap_alloc_new w _

theorem Bld.lt {w : World} {B b : Nat} {l : List UInt8} (h : Bld w B b l) : b < w.heap.size := h.1.elim (fun x => x.lt) (fun x => x.lt)

set_option maxRecDepth 100000 in
/-- copyCheck: behind it the builder holds its own address. -/
theorem checked (B b : Nat) (l : List UInt8) (w : World) (h : Bld w B b l) :
    Calls Tryz.prog 139 #[.pointer (some ⟨b, 0, none⟩)] w fun e w' => e = .returned (.tuple #[]) ∧ Lib.BuilderAt 105 5 B b (.pointer (some ⟨b, 0, none⟩)) (Lib.byteCells l) w' ∧ Below B w w' := by
  obtain ⟨j, hj, hjs⟩ := Option.map_eq_some_iff.1 sizeB
  rcases h.1 with hf | hu
  · have c0 := hf.cell0
    have f0 := hf.frozen0
    have hB := hf.1
    have HF := Lib.hid hf
    have toU := Lib.hid (Lib.run_to_unsafe (P := Tryz.prog) w ⟨b, 0, none⟩ Tryz.underlying103 Tryz.underlying188 hj (by rw [hjs]; decide) hf.shape (Nat.zero_lt_succ 1))
    have fromU := Lib.hid (Lib.run_from_unsafe (P := Tryz.prog) w ⟨b, 0, none⟩ Tryz.underlying188 Tryz.underlying103 hj hf.shape liesB)
    clear h hf
    go_enter Tryz.func139, Tryz.ntmps139
    go_wp2
    rw [toU.out]
    simp only [Result.andThen]
    rw [Oper.upon_value]
    go_wp2
    rw [run_callFunc_extern Tryz.func179 (by kernel_rfl) (by kernel_rfl) (by kernel_rfl) (e := Extern.AbiNoEscape.same) (by kernel_rfl), Lib.run_noEscape]
    simp only [Result.andThen]
    rw [Oper.upon_value]
    go_wp2
    rw [fromU.out]
    simp only [Result.andThen]
    rw [Oper.upon_value]
    go_wp2
    go_end0
    exact ⟨rfl, HF.out.used _, (Below.refl B w).setCell (p := ⟨b, 0, none⟩) hB _⟩
  · have c0 := hu.cell0
    have HU := Lib.hid hu
    have same := Lib.hid (Lib.run_neq_ptr_same (P := Tryz.prog) w ⟨b, 0, none⟩ Tryz.underlying103 hj)
    clear h hu
    go_enter Tryz.func139, Tryz.ntmps139
    go_wp2
    rw [same.out]
    go_wp2
    go_end0
    exact ⟨rfl, HU.out, Below.refl B _⟩

set_option maxHeartbeats 2000000 in
set_option maxRecDepth 100000 in
/-- WriteString: the text goes in behind what is there. -/
theorem wrote (B b : Nat) (l s : List UInt8) (w : World) (h : Bld w B b l) (hl : l.length + s.length ≤ 1000000000) :
    Calls Tryz.prog 92 #[.pointer (some ⟨b, 0, none⟩), .string ⟨s.toArray⟩] w fun e w' => e = .returned (.tuple #[.int .i64 (s.length : Int), .nilIface]) ∧ Bld w' B b (l ++ s) ∧ Below B w w' := by
  obtain ⟨i0, hi, hz0, hz1, hz2⟩ := info_parts byteInfo
  have hslen := fun (w' : World) (t : TypeId) => str_lenN s s.length rfl w' t
  have hsz : (⟨s.toArray⟩ : ByteArray).size = s.length := by simp [ByteArray.size]
  have hcl := Lib.byteCells_length l
  have hBw := h.2
  have HZ := Lib.hid hsz
  have HC := Lib.hid hcl
  have HH := Lib.hid h
  clear hsz hcl h
  go_enter Tryz.func92, Tryz.ntmps92
  go_wp2_with fail
  refine (checked B b l _ HH.out).mono ?_
  rintro e w1 ⟨rfl, ⟨hB, v, hblk, hown, hne⟩, hb1⟩
  have k0 : w1.cell? ⟨b, 0, none⟩ = some (.pointer (some ⟨b, 0, none⟩)) := by rw [Lib.cell_of_heap hblk]; rfl
  have k1 : w1.cell? ⟨b, 1, none⟩ = some v := by rw [Lib.cell_of_heap hblk]; rfl
  have hblt : b < w1.heap.size := Lib.BuilderAt.lt (p := .pointer (some ⟨b, 0, none⟩)) ⟨hB, v, hblk, hown, hne⟩
  go_wp2_with (at_builtin; refine Lib.wpList_append_own_string _ rfl _ _ 22 9 rfl B 5 i0 Tryz.underlying22 Tryz.underlying9 hi hz0 hz1 hz2 v (Lib.byteCells l).length (Lib.byteCells l) rfl hown ⟨s.toArray⟩ rfl (by rw [HZ.out, HC.out]; simp [maxLen]; omega) (by rw [HZ.out, HC.out]; omega) (by have := hb1.size; omega) ?_)
  intro v2 w2 hown2 hgr _
  have hblk2 : w2.heap[b]? = some (.cells #[.pointer (some ⟨b, 0, none⟩), v] 105 (0, 0)) := (hgr.block b hblt (fun e => hne e.symm)).trans hblk
  have m0 : w2.cell? ⟨b, 0, none⟩ = some (.pointer (some ⟨b, 0, none⟩)) := by rw [Lib.cell_of_heap hblk2]; rfl
  have m1 : w2.cell? ⟨b, 1, none⟩ = some v := by rw [Lib.cell_of_heap hblk2]; rfl
  have z1 : w2.frozen? ⟨b, 1, none⟩ = false := Lib.frozen_of_heap hblk2 1
  have hrow : w2.ownsRow B 5 1 v2 (Lib.byteCells (l ++ s)).length (Lib.byteCells (l ++ s)) := by
    have e1 : Lib.byteCells (l ++ s) = Lib.byteCells l ++ Lib.strCells ⟨s.toArray⟩ := by rw [Lib.byteCells_append]; rfl
    rw [e1, List.length_append, Lib.strCells_length]
    exact hown2
  obtain ⟨ad, n2, c2, rfl⟩ : ∃ ad n2 c2, v2 = .slice ad n2 c2 := by
    rcases hown2.2 with ⟨hv, _⟩ | ⟨g, cap, cur, hv, _⟩
    · exact ⟨_, _, _, hv⟩
    · exact ⟨_, _, _, hv⟩
  have hput := Lib.BuilderAt.put hB hblk2 hrow (by decide)
  have hbel := (hb1.grown hgr (by have := hb1.size; omega) (fun k hk => (World.ownsRow.lt hown k hk).1)).setCell (p := ⟨b, 1, none⟩) hB (.slice ad n2 c2)
  go_wp2
  go_ret2
  exact ⟨rfl, ⟨Or.inr hput, Nat.le_trans hBw hbel.size⟩, hbel⟩

/-- String. -/
theorem read (B b : Nat) (l : List UInt8) (w : World) (h : Bld w B b l) :
    Calls Tryz.prog 93 #[.pointer (some ⟨b, 0, none⟩)] w fun e w' => e = .returned (.string ⟨l.toArray⟩) ∧ Below B w w' := Tryz.Builder_String_any B b l w h.1 h.2

end Go.Proofs.YtliihnkonakacaaGreatDoor.BL

namespace Go.Proofs.YtliihnkonakacaaGreatDoor.B5
open Go.Proofs.YtliihnkonakacaaGreatDoor.P1 Go.Proofs.YtliihnkonakacaaGreatDoor.B1 Go.Proofs.YtliihnkonakacaaGreatDoor.B2 Go.Proofs.YtliihnkonakacaaGreatDoor.T1 Go.Proofs.YtliihnkonakacaaGreatDoor.BT Go.Proofs.YtliihnkonakacaaGreatDoor.P5 Go.Proofs.YtliihnkonakacaaGreatDoor.D1 Go.Proofs.YtliihnkonakacaaGreatDoor.BL
open Go.ChangeShapes Go.WideShapes Go.ChangeAt Go.RowKit
set_option linter.unusedVariables false

set_option maxHeartbeats 1000000 in
theorem allOk_none (a : Option Addr) (cap : Nat) (w : World) : Calls Tryz.prog 78 #[.slice a 0 cap, .func (.func 79) #[] #[]] w (Ans (.bool true) w) := by
  go_enter Tryz.func78, Tryz.ntmps78
  go_wp2_with fail
  go_loop [9] (fun s9 => s9 = .int .i64 0) (fun _ => 0)
  case atStart => rfl
  case round =>
    obtain rfl := hrel
    go_wp2
    go_ret
    exact ⟨rfl, Below.refl _ _⟩

end Go.Proofs.YtliihnkonakacaaGreatDoor.B5

namespace Go.Proofs.YtliihnkonakacaaGreatDoor.B5
open Go.Proofs.YtliihnkonakacaaGreatDoor.P1 Go.Proofs.YtliihnkonakacaaGreatDoor.B1 Go.Proofs.YtliihnkonakacaaGreatDoor.B2 Go.Proofs.YtliihnkonakacaaGreatDoor.T1 Go.Proofs.YtliihnkonakacaaGreatDoor.BT Go.Proofs.YtliihnkonakacaaGreatDoor.P5 Go.Proofs.YtliihnkonakacaaGreatDoor.D1
open Go.ChangeShapes Go.WideShapes Go.ChangeAt Go.RowKit
set_option linter.unusedVariables false

/-- Does nothing more come, or a space? -/
def spNext (ts : List Tok) : Bool := match ts with
  | [] => true
  | x :: _ => isSp x

/-- Of several spaces the last one is kept; the flag: nothing is kept yet. -/
def sqP : Bool → List Tok → List Tok
  | _, [] => []
  | f, x :: r => if isSp x = true ∧ (f = true ∨ spNext r = true) then sqP f r else x :: sqP false r

theorem trim_cons {x : Tok} {l : List Tok} (h : l ≠ [] ∨ isSp x = false) : trimEnd (x :: l) = x :: trimEnd l := by
  cases l with
  | nil =>
    rcases h with h | h
    · exact absurd rfl h
    · unfold trimEnd; simp [h]
  | cons y r =>
    unfold trimEnd
    rw [List.getLast?_cons_cons]
    cases e : (y :: r).getLast? with
    | none => simp at e
    | some z =>
      dsimp only
      split <;> simp

/-- Where all spaces are alike, it is the same which one of several is kept. -/
theorem sqP_is (ts : List Tok) (h : ∀ x ∈ ts, isSp x = true → x = ⟨5, [], 0⟩) : sqP false ts = trimEnd (sqF false ts) ∧ sqP true ts = trimEnd (sqF true ts) := by
  induction ts with
  | nil => exact ⟨rfl, rfl⟩
  | cons x r ih =>
    have ih := ih (fun y hy => h y (by simp [hy]))
    cases hx : isSp x
    · have e1 : ∀ f, sqP f (x :: r) = x :: sqP false r := fun f => by rw [sqP, if_neg (by simp [hx])]
      have e2 : ∀ f, sqF f (x :: r) = x :: sqF false r := fun f => by rw [sqF, if_neg (by simp [hx])]
      rw [e1, e1, e2, e2, trim_cons (Or.inr hx), ih.1]
      exact ⟨rfl, rfl⟩
    · have ex := h x (by simp) hx
      have e2 : sqF true (x :: r) = sqF true r := by rw [sqF, if_pos hx, if_pos rfl]
      have e3 : sqF false (x :: r) = x :: sqF true r := by rw [sqF, if_pos hx, if_neg (by simp)]
      have e4 : sqP true (x :: r) = sqP true r := by rw [sqP, if_pos ⟨hx, Or.inl rfl⟩]
      refine ⟨?_, by rw [e4, e2]; exact ih.2⟩
      rw [e3]
      cases r with
      | nil =>
        rw [sqP, if_pos ⟨hx, Or.inr rfl⟩]
        show [] = trimEnd [x]
        unfold trimEnd; simp [hx]
      | cons y q =>
        cases hy : isSp y
        · have e5 : sqP false (x :: y :: q) = x :: sqP false (y :: q) := by rw [sqP, if_neg (by simp [spNext, hy])]
          have e6 : sqF true (y :: q) = sqF false (y :: q) := by rw [sqF, sqF, if_neg (by simp [hy]), if_neg (by simp [hy])]
          rw [e5, ih.1, e6, trim_cons (Or.inl ?_)]
          rw [sqF, if_neg (by simp [hy])]; simp
        · have ey := h y (by simp) hy
          have e5 : sqP false (x :: y :: q) = sqP false (y :: q) := by rw [sqP, if_pos ⟨hx, Or.inr hy⟩]
          have e6 : sqF true (y :: q) = sqF true q := by rw [sqF, if_pos hy, if_pos rfl]
          have e7 : sqF false (y :: q) = y :: sqF true q := by rw [sqF, if_pos hy, if_neg (by simp)]
          rw [e5, ih.1, e6, e7, ex, ey]

theorem sp_is {x : Tok} (h : tokOk x = true) (hs : isSp x = true) : x = ⟨5, [], 0⟩ := by
  have h5 : x.k = 5 := by simpa [isSp] using hs
  have ht : tokText x = [32] := by unfold tokText; rw [if_neg (by omega), if_neg (by omega), if_pos h5]
  unfold tokOk at h
  rw [ht] at h
  simp only [Bool.and_eq_true] at h
  have := Tok.same_iff.1 h.1.2
  rw [← this]
  rfl

theorem squeeze_is {ts : List Tok} (h : ts.all tokOk = true) : sqP true ts = squeeze ts :=
  (sqP_is ts (fun x hx hs => sp_is (List.all_eq_true.1 h x hx) hs)).2

theorem sqP_len : ∀ (f : Bool) (ts : List Tok), (sqP f ts).length ≤ ts.length
  | _, [] => Nat.le_refl _
  | f, x :: r => by
    unfold sqP
    split
    · have := sqP_len f r; simp; omega
    · have := sqP_len false r; simp; omega

theorem drop_tok {ts : List Tok} {i : Nat} {x : Tok} (hx : ts[i]? = some x) : ts.drop i = x :: ts.drop (i + 1) := by
  obtain ⟨hl, e⟩ := List.getElem?_eq_some_iff.1 hx
  rw [List.drop_eq_getElem_cons hl, e]

theorem sp_skip {ts done : List Tok} {i : Nat} {x : Tok} (hx : ts[i]? = some x) (hs : isSp x = true) (hd : done.isEmpty = true ∨ spNext (ts.drop (i + 1)) = true) (I : sqP true ts = done ++ sqP done.isEmpty (ts.drop i)) : sqP true ts = done ++ sqP done.isEmpty (ts.drop (i + 1)) := by
  rw [I, drop_tok hx, sqP, if_pos ⟨hs, hd⟩]

theorem sp_take {ts done : List Tok} {i : Nat} {x : Tok} (hx : ts[i]? = some x) (hs : ¬ (isSp x = true ∧ (done.isEmpty = true ∨ spNext (ts.drop (i + 1)) = true))) (I : sqP true ts = done ++ sqP done.isEmpty (ts.drop i)) : sqP true ts = (done ++ [x]) ++ sqP (done ++ [x]).isEmpty (ts.drop (i + 1)) := by
  have he : (done ++ [x]).isEmpty = false := by cases done <;> rfl
  rw [I, drop_tok hx, sqP, if_neg hs, he]
  simp

theorem spNext_at (ts : List Tok) (j : Nat) : spNext (ts.drop j) = match ts[j]? with
    | none => true
    | some x => isSp x := by
  cases e : ts[j]? with
  | none => rw [List.drop_of_length_le (List.getElem?_eq_none_iff.1 e)]; rfl
  | some x => rw [drop_tok e]; rfl

set_option maxHeartbeats 1000000 in
theorem spaceOrEnd_impl (ts : List Tok) (n g off cap j : Nat) (w : World) (hn : ts.length = n) (h : RC.At 3 w g off (tokRs ts)) (hcp : n ≤ cap) (hs : n ≤ 2000000) (hj : j ≤ 2000000) :
    Calls Tryz.prog 142 #[.slice (some ⟨g, off, none⟩) n cap, .int .i64 (j : Int)] w fun e w' => e = .returned (.bool (spNext (ts.drop j))) ∧ w = w' := by
  have hk := spNext_at ts j
  have hnc : (n : Int) ≤ (cap : Int) := by omega
  by_cases hlt : j < n
  · obtain ⟨x, hx⟩ : ∃ x, ts[j]? = some x := ⟨_, List.getElem?_eq_getElem (by omega)⟩
    obtain ⟨c0, _, _⟩ := three_at h hx
    rw [hx] at hk
    replace hk : spNext (ts.drop j) = isSp x := hk
    have hlt' : ¬ (n : Int) ≤ (j : Int) := by omega
    have hlt2 : (j : Int) < (n : Int) := by omega
    have j0 : (0 : Int) ≤ (j : Int) := by omega
    have Hk := Lib.hid hk
    clear hk hx h hn hlt
    cases h5 : isSp x
    all_goals
      have h5' : (x.k == 5) = _ := h5
      rw [h5] at Hk
      clear h5
      go_enter Tryz.func142, Tryz.ntmps142
      go_wp2
      go_ret
      exact ⟨by rw [Hk.out]; rfl, rfl⟩
  · rw [List.getElem?_eq_none (by omega)] at hk
    have Hk := Lib.hid hk
    have hlt' : (n : Int) ≤ (j : Int) := by omega
    clear hk h hn hlt
    go_enter Tryz.func142, Tryz.ntmps142
    go_wp2
    go_ret
    exact ⟨by rw [Hk.out]; rfl, rfl⟩

theorem toks_form {w : World} {v : Value} {B : Nat} {ts : List Tok} (h : Toks w v B ts) : ∃ a c, v = .slice a ts.length c := by
  rcases Toks.row h with ⟨rfl, rfl⟩ | ⟨g, cap, rfl, _⟩
  · exact ⟨_, _, rfl⟩
  · exact ⟨_, _, rfl⟩

/-- What the program keeps of tokens of whatever length. -/
def squeezedP (ts : List Tok) : List Tok := if ts.all tokP = true then sqP true ts else []

theorem squeezedP_sm {ts : List Tok} (hf : ∀ x ∈ ts, TokSm x) : squeezedP ts = squeezed ts := by
  unfold squeezedP squeezed
  rw [all_sm hf]
  cases h : ts.all tokOk
  · rfl
  · rw [if_pos rfl, if_pos rfl, squeeze_is h]

set_option maxRecDepth 20000 in
set_option maxHeartbeats 4000000 in
theorem Squeezed_implP (ts : List Tok) (v : Value) (w : World) (L : Pow w) (h : TokSlc w v ts) (hf : ∀ x ∈ ts, TokFit x) (hs0 : ts.length ≤ 1500000) :
    Calls Tryz.prog 97 #[v] w (Squeezes (squeezedP ts) w) := by
  obtain ⟨i0, hi, hz0, hz1, hz2⟩ := info_parts infoTok
  have HA := Lib.hid (fun w' (hb : Below w.heap.size w w') => allOk_slc ts v w' (L.on hb) (h.on hb) hf (by omega))
  obtain ⟨a0, cap, rfl, hcp, hcap, HA0⟩ := h.form
  obtain ⟨n, hn⟩ : ∃ n, ts.length = n := ⟨_, rfl⟩
  rw [hn] at hcp hs0 HA ⊢
  have hs : n ≤ 1500000 := hs0
  have HN := Lib.hid hn
  have HR := Lib.hid HA0
  have hnc : (n : Int) ≤ (cap : Int) := by omega
  have hs' : (n : Int) ≤ 1500000 := by omega
  have HE0 := Lib.hid (fun (g off j : Nat) (hat : RC.At 3 w g off (tokRs ts)) w' (hb : Below w.heap.size w w') (hj : j ≤ 2000000) => spaceOrEnd_impl ts n g off cap j w' hn (hat.on hb) hcp (by omega) hj)
  clear hf hn h L HA0 hcap hs0
  cases hall : ts.all tokP
  · rw [hall] at HA
    have Hx := Lib.hid (show squeezedP ts = [] by unfold squeezedP; rw [if_neg (by rw [hall]; decide)])
    clear hall
    go_enter Tryz.func97, Tryz.ntmps97
    go_wp2_with (go_at_call 78; refine (HA.out _ ((Below.refl _ _).alloc (Nat.le_refl _) _)).mono ?_; rintro e w2 ⟨rfl, g2⟩)
    go_ret
    exact ⟨_, rfl, by rw [Hx.out]; exact own_below (World.ownsRow_lit w #[] 0 (Nat.le_refl _) (by decide) rfl) g2, Below.box g2⟩
  · rw [hall] at HA
    have Hx := Lib.hid (show squeezedP ts = sqP true ts by unfold squeezedP; rw [if_pos hall])
    clear hall
    go_enter Tryz.func97, Tryz.ntmps97
    go_wp2_with (go_at_call 78; refine (HA.out _ ((Below.refl _ _).alloc (Nat.le_refl _) _)).mono ?_; rintro e w1 ⟨rfl, g1⟩)
    have ho0 : Toks (w.alloc (.cells #[] 73)) (.slice (some ⟨w.heap.size, 0, none⟩) 0 0) w.heap.size [] := World.ownsRow_lit w #[] 0 (Nat.le_refl _) (by decide) rfl
    have ho1 := own_below ho0 g1
    have hB1 : Below w.heap.size w w1 := Below.box g1
    go_loopg [3, 13] n (fun kx s3 s13 wr => ∃ (i : Nat) (done : List Tok), s13 = .int .i64 (i : Int) ∧ kx + i = n ∧ Toks wr s3 w.heap.size done ∧ Hid (sqP true ts = done ++ sqP done.isEmpty (ts.drop i)) ∧ Below w.heap.size w wr)
    case atStart => exact ⟨0, [], rfl, by omega, ho1, Lib.hid rfl, hB1⟩
    case round =>
      obtain ⟨i, done, rfl, hk, hown, I, hB⟩ := hrel
      clear ho1 hB1 g1
      have hfew : done.length ≤ n := by
        have h1 := sqP_len true ts
        rw [I.out, List.length_append, HN.out] at h1
        omega
      by_cases hlt : i < n
      · have hlt' : (i : Int) < (n : Int) := by omega
        have i0' : (0 : Int) ≤ (i : Int) := by omega
        obtain ⟨x, hx⟩ : ∃ x, ts[i]? = some x := ⟨_, List.getElem?_eq_getElem (by rw [HN.out]; exact hlt)⟩
        obtain ⟨gx, offx, rfl, hat⟩ := HR.out (by intro e0; rw [e0] at hx; cases hx)
        have HE := Lib.hid (fun (j : Nat) => HE0.out gx offx j hat)
        obtain ⟨c0, c1, c2⟩ := three_at (hat.on hB) hx
        clear hat
        have HX := Lib.hid hx
        clear hx
        obtain ⟨a, c, rfl⟩ := toks_form hown
        obtain ⟨d, hd⟩ : ∃ d, done.length = d := ⟨_, rfl⟩
        have hownd := ownD hown hd
        rw [hd] at hownd ⊢
        have HE1 := Lib.hid (fun w' (hb : Below w.heap.size w w') => HE.out (i + 1) w' hb (by omega))
        have hi1 : IntKind.i64.wrap ((i : Int) + 1) = ((i + 1 : Nat) : Int) := by rw [IntKind.wrap_i64]; omega
        cases hsp : isSp x
        · have HI := Lib.hid (sp_take HX.out (by rw [hsp]; simp) I.out)
          have h5 : (x.k == 5) = false := hsp
          obtain ⟨k, t, n'⟩ := x
          dsimp only at c0 c1 c2 h5
          clear hsp hi1
          go_wp2_with (at_builtin; refine wpList_append_own _ rfl _ _ 27 rfl w.heap.size 73 i0 _ 3 32 Tryz.underlying27 hi hz0 hz1 hz2 rfl (by decide) _ d (toksC done) rfl (World.ownsRow.alloc (World.ownsRow.alloc hownd _) _) ⟨(wr.alloc (.cells #[.int .i64 k, .string ⟨t.toArray⟩, .int .i64 n'] 73)).heap.size, 0, none⟩ 1 1 [.int .i64 k, .string ⟨t.toArray⟩, .int .i64 n'] (by rw [World.size_alloc]; rfl) rfl (cell_three_new _ _ _ _ _) (by simp [Value.oneCell']) (by simp [maxLen]; omega) (by omega) (by have := hB.size; simp; omega) ?_; intro v4 w4 hown4 hgrow4 _)
          go_roundg (n - (i + 1))
          case measure => omega
          case rel => exact ⟨i + 1, done ++ [⟨k, t, n'⟩], by go_num, by omega, toks_more (by rw [hd]; exact hown4), HI, ((hB.alloc hB.size _).alloc (hB.alloc hB.size _).size _).grown hgrow4 (by have := hB.size; simp; omega) (fun k hk => (World.ownsRow.lt hownd k hk).1)⟩
        · have h5 : (x.k == 5) = true := hsp
          by_cases hd0 : d = 0
          · subst hd0
            obtain rfl : done = [] := List.length_eq_zero_iff.1 hd
            have HI := Lib.hid (sp_skip HX.out hsp (Or.inl rfl) I.out)
            clear hsp hi1
            go_wp2
            go_roundg (n - (i + 1))
            case measure => omega
            case rel => exact ⟨i + 1, [], by go_num, by omega, World.ownsRow.alloc hownd _, HI, hB.alloc hB.size _⟩
          · have hdne : ((d : Int) == 0) = false := by rw [beq_eq_false_iff_ne]; omega
            have hemp : done.isEmpty = false := by
              cases done with
              | nil => simp at hd; omega
              | cons y q => rfl
            cases hnx : spNext (ts.drop (i + 1))
            · have HI := Lib.hid (sp_take HX.out (by rw [hnx, hemp]; simp) I.out)
              rw [hnx] at HE1
              obtain ⟨k, t, n'⟩ := x
              dsimp only at c0 c1 c2 h5
              clear hsp hd0 hemp hnx
              have hBA := hB.alloc hB.size (.cells #[.int .i64 k, .string ⟨t.toArray⟩, .int .i64 n'] 73)
              have HBA := Lib.hid hBA
              go_wp2_with (first | (go_at_call 142; refine (HE1.out _ HBA.out).mono ?_; rintro e w' ⟨rfl, rfl⟩) | (at_builtin; refine wpList_append_own _ rfl _ _ 27 rfl w.heap.size 73 i0 _ 3 32 Tryz.underlying27 hi hz0 hz1 hz2 rfl (by decide) _ d (toksC done) rfl (World.ownsRow.alloc (World.ownsRow.alloc hownd _) _) ⟨(wr.alloc (.cells #[.int .i64 k, .string ⟨t.toArray⟩, .int .i64 n'] 73)).heap.size, 0, none⟩ 1 1 [.int .i64 k, .string ⟨t.toArray⟩, .int .i64 n'] (by rw [World.size_alloc]; rfl) rfl (cell_three_new _ _ _ _ _) (by simp [Value.oneCell']) (by simp [maxLen]; omega) (by omega) (by have := hB.size; simp; omega) ?_; intro v4 w4 hown4 hgrow4 _))
              go_roundg (n - (i + 1))
              case measure => omega
              case rel => exact ⟨i + 1, done ++ [⟨k, t, n'⟩], by go_num, by omega, toks_more (by rw [hd]; exact hown4), HI, (hBA.alloc hBA.size _).grown hgrow4 (by have := hB.size; simp; omega) (fun k hk => (World.ownsRow.lt hownd k hk).1)⟩
            · have HI := Lib.hid (sp_skip HX.out hsp (Or.inr hnx) I.out)
              rw [hnx] at HE1
              clear hsp hd0 hemp hnx
              have HBA := Lib.hid (hB.alloc hB.size (.cells #[.int .i64 x.k, .string ⟨x.t.toArray⟩, .int .i64 x.n] 73))
              go_wp2_with (go_at_call 142; refine (HE1.out _ HBA.out).mono ?_; rintro e w' ⟨rfl, rfl⟩)
              go_roundg (n - (i + 1))
              case measure => omega
              case rel => exact ⟨i + 1, done, by go_num, by omega, by unfold Toks; rw [hd]; exact World.ownsRow.alloc hownd _, HI, HBA.out⟩
      · have hlt' : ¬ (i : Int) < (n : Int) := by omega
        have HD := Lib.hid (show squeezedP ts = done by rw [Hx.out, I.out, List.drop_of_length_le (by rw [HN.out]; omega)]; simp [sqP])
        obtain ⟨a, c, rfl⟩ := toks_form hown
        go_wp2
        go_ret
        exact ⟨_, rfl, by rw [HD.out]; exact hown, hB⟩

end Go.Proofs.YtliihnkonakacaaGreatDoor.B5

namespace Go.Proofs.YtliihnkonakacaaGreatDoor.B5
open Go.Proofs.YtliihnkonakacaaGreatDoor.P1 Go.Proofs.YtliihnkonakacaaGreatDoor.B1 Go.Proofs.YtliihnkonakacaaGreatDoor.B2 Go.Proofs.YtliihnkonakacaaGreatDoor.T1 Go.Proofs.YtliihnkonakacaaGreatDoor.BT Go.Proofs.YtliihnkonakacaaGreatDoor.P5 Go.Proofs.YtliihnkonakacaaGreatDoor.D1
open Go.ChangeShapes Go.WideShapes Go.ChangeAt Go.RowKit
set_option linter.unusedVariables false

theorem SqP_val (ts : List Tok) (v : Value) (w : World) (L : Pow w) (h : TokVal w v ts) (hf : ∀ x ∈ ts, TokFit x) (hs : ts.length ≤ 1500000) :
    Calls Tryz.prog 97 #[v] w (Squeezes (squeezedP ts) w) := Squeezed_implP ts v w L h.slc hf hs

theorem SqI_val (ts : List Tok) (v : Value) (w : World) (L : Pow w) (h : TokVal w v ts) (hf : ∀ x ∈ ts, TokSm x) (hs : ts.length ≤ 1000000) :
    Calls Tryz.prog 97 #[v] w (Squeezes (squeezed ts) w) := by
  rw [← squeezedP_sm hf]
  exact SqP_val ts v w L h (fun x hx => ⟨(hf x hx).1, (hf x hx).2.1, by have := (hf x hx).2.2; omega⟩) (by omega)

theorem sm_of_d {x : Tok} (h : D5.TokD x) : TokSm x := ⟨by have := h.1; omega, by have := h.2.1; omega, by have := h.2.2; omega⟩

theorem fit_of_sm {x : Tok} (h : TokSm x) : TokFit x := ⟨h.1, h.2.1, by have := h.2.2; omega⟩

theorem mem_sqF : ∀ (f : Bool) (ts : List Tok), ∀ x ∈ sqF f ts, x ∈ ts
  | _, [], x, h => h
  | f, y :: r, x, h => by
    unfold sqF at h
    split at h
    · split at h
      · exact List.mem_cons_of_mem _ (mem_sqF true r x h)
      · rcases List.mem_cons.1 h with h | h
        · exact h ▸ List.mem_cons_self
        · exact List.mem_cons_of_mem _ (mem_sqF true r x h)
    · rcases List.mem_cons.1 h with h | h
      · exact h ▸ List.mem_cons_self
      · exact List.mem_cons_of_mem _ (mem_sqF false r x h)

theorem mem_trim {ts : List Tok} {x : Tok} (h : x ∈ trimEnd ts) : x ∈ ts := by
  rcases trim_cases ts with e | ⟨y, e, _⟩
  · rw [e] at h; exact h
  · rw [e]; exact List.mem_append_left _ h

theorem mem_squeeze {ts : List Tok} {x : Tok} (h : x ∈ squeeze ts) : x ∈ ts := mem_sqF true ts x (mem_trim h)

theorem mem_squeezed {ts : List Tok} {x : Tok} (h : x ∈ squeezed ts) : x ∈ ts := by
  unfold squeezed at h
  split at h
  · exact mem_squeeze h
  · cases h

theorem trim_len (ts : List Tok) : (trimEnd ts).length ≤ ts.length := by
  rcases trim_cases ts with e | ⟨y, e, _⟩
  · rw [e]; exact Nat.le_refl _
  · have := congrArg List.length e
    rw [List.length_append] at this
    omega

theorem squeezed_len (ts : List Tok) : (squeezed ts).length ≤ ts.length := by
  unfold squeezed
  split
  · exact Nat.le_trans (trim_len _) (sqF_len true ts)
  · simp

theorem squeezed_ok {ts : List Tok} (h : ts.all tokOk = true) : squeezed ts = squeeze ts := by unfold squeezed; rw [if_pos h]

theorem squeezed_again {ts : List Tok} (h : ts.all tokOk = true) : squeezed (squeezed ts) = squeezed ts := by
  have h2 : (squeeze ts).all tokOk = true := List.all_eq_true.2 fun x hx => List.all_eq_true.1 h x (mem_squeeze hx)
  rw [squeezed_ok h, squeezed_ok h2, squeeze_again]

theorem words_squeezed {ts : List Tok} (h : ts.all tokOk = true) : words (squeezed ts) = words ts := by rw [squeezed_ok h, words_squeeze]

/-- Where a space stands in a list without two side by side. -/
theorem apart_at : ∀ (f : Bool) (ts : List Tok), apart f ts = true → ∀ i x, ts[i]? = some x → isSp x = true → (i = 0 ∧ f = false) ∨ ∃ j y, i = j + 1 ∧ ts[j]? = some y ∧ isSp y = false
  | _, [], _, i, x, hx, _ => by simp at hx
  | f, y :: r, h, 0, x, hx, hs => by
    have : y = x := by simpa using hx
    subst this
    rw [apart, if_pos hs] at h
    cases f
    · exact Or.inl ⟨rfl, rfl⟩
    · simp at h
  | f, y :: r, h, i + 1, x, hx, hs => by
    rw [apart] at h
    right
    cases hy : isSp y
    · rw [if_neg (by simp [hy])] at h
      rcases apart_at false r h i x (by simpa using hx) hs with ⟨rfl, _⟩ | ⟨j, z, rfl, hz, hzs⟩
      · exact ⟨0, y, rfl, rfl, hy⟩
      · exact ⟨j + 1, z, rfl, by simpa using hz, hzs⟩
    · rw [if_pos hy, Bool.and_eq_true] at h
      rcases apart_at true r h.2 i x (by simpa using hx) hs with ⟨_, h0⟩ | ⟨j, z, rfl, hz, hzs⟩
      · cases h0
      · exact ⟨j + 1, z, rfl, by simpa using hz, hzs⟩

theorem squeezed_space {ts : List Tok} (h : ts.all tokOk = true) {i : Nat} {x : Tok} (hx : (squeezed ts)[i]? = some x) (hs : isSp x = true) :
    (∃ j y, i = j + 1 ∧ (squeezed ts)[j]? = some y ∧ isSp y = false) ∧ i + 1 < (squeezed ts).length := by
  rw [squeezed_ok h] at hx ⊢
  have hl := (List.getElem?_eq_some_iff.1 hx).1
  refine ⟨?_, ?_⟩
  · rcases apart_at true (squeeze ts) (squeeze_apart ts) i x hx hs with ⟨_, h0⟩ | h1
    · cases h0
    · exact h1
  · apply Classical.byContradiction
    intro hn
    have hlast : (squeeze ts).getLast? = some x := by
      rw [List.getLast?_eq_getElem?, show (squeeze ts).length - 1 = i by omega]; exact hx
    have := squeeze_last ts x hlast
    rw [this] at hs; cases hs

theorem words_take {ts : List Tok} {i : Nat} {x : Tok} (h : ts[i]? = some x) : words (ts.take (i + 1)) = words (ts.take i) ++ (if isSp x = true then [] else [x]) := by
  rw [List.take_add_one, h]
  unfold words
  rw [List.filter_append]
  cases hs : isSp x <;> simp [hs]

theorem Toks.on {w w' : World} {v : Value} {B : Nat} {ts : List Tok} (h : Toks w v B ts) (hb : Below w.heap.size w w') : Toks w' v B ts := own_below h hb

theorem own_apart {w w' : World} {v v' : Value} {B : Nat} {ts : List Tok} (h : Toks w v B ts) (hg : w.grownBy w' v'.ownBlock) (hne : v.ownBlock ≠ v'.ownBlock ∨ v.ownBlock = none) : Toks w' v B ts :=
  World.ownsRow.kept h hg (hne.elim (fun x => Or.inr x) (fun x => Or.inl x))

end Go.Proofs.YtliihnkonakacaaGreatDoor.B5
