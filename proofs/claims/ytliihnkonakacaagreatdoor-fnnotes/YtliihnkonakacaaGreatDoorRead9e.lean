/- Chapter 9: the program's readNote: what gives up is recovered. -/
import Derived.Test.YtliihnkonakacaaGreatDoorRead9d
import Derived.Defers
import Derived.Recover
namespace Go.Proofs.YtliihnkonakacaaGreatDoor.B9
open Go.Proofs.YtliihnkonakacaaGreatDoor.P1 Go.Proofs.YtliihnkonakacaaGreatDoor.B1 Go.Proofs.YtliihnkonakacaaGreatDoor.B2 Go.Proofs.YtliihnkonakacaaGreatDoor.T1 Go.Proofs.YtliihnkonakacaaGreatDoor.BT Go.Proofs.YtliihnkonakacaaGreatDoor.P5 Go.Proofs.YtliihnkonakacaaGreatDoor.P6 Go.Proofs.YtliihnkonakacaaGreatDoor.P8 Go.Proofs.YtliihnkonakacaaGreatDoor.P9 Go.Proofs.YtliihnkonakacaaGreatDoor.B5 Go.Proofs.YtliihnkonakacaaGreatDoor.B6 Go.Proofs.YtliihnkonakacaaGreatDoor.V6 Go.Proofs.YtliihnkonakacaaGreatDoor.B8 Go.Proofs.YtliihnkonakacaaGreatDoor.D1 Go.Proofs.YtliihnkonakacaaGreatDoor.W8 Go.Proofs.YtliihnkonakacaaGreatDoor.RC Go.Proofs.YtliihnkonakacaaGreatDoor.RI
open Go.ChangeShapes Go.WideShapes Go.ChangeAt Go.RowKit
set_option linter.unusedVariables false

set_option maxRecDepth 20000 in
set_option maxHeartbeats 2000000 in
theorem catch_idle (bn bs : Nat) (w : World) :
    CallsD Tryz.prog 128 #[.pointer (some ⟨bn, 0, none⟩), .pointer (some ⟨bs, 0, none⟩)] .returning w fun e u' w' => e = .returned (.tuple #[]) ∧ u' = .returning ∧ w' = w := by
  refine callsD_of_wpS Tryz.func128 rfl fun c₀ cs hu => ?_
  apply wpS_seq
  apply wpS_region
  simp [wpOpsS, go_sem, recoverD, hu, Tryz.ntmps128, Exit.thenS]
  refine wpS_cond (t := false) (by simp [Act.eval, Array.replicate]) ?_
  simp only [Bool.false_eq_true, if_false]
  refine wpS_of_wp (wp_skip ?_)
  cases c₀
  simp_all [bodyPostS, results, Tryz.results128]

set_option maxRecDepth 20000 in
set_option maxHeartbeats 2000000 in
theorem catch_gaveUp (bn bs : Nat) (o : No) (f : Bool) (w : World) (hn : LBlk w bn (noL o)) (hs : LBlk w bs [.bool f]) (hne : bn ≠ bs) :
    CallsD Tryz.prog 128 #[.pointer (some ⟨bn, 0, none⟩), .pointer (some ⟨bs, 0, none⟩)] (.panicking [gaveUp]) w fun e u' w' => e = .returned (.tuple #[]) ∧ u' = .panicking [{ gaveUp with recovered := true }] ∧ LBlk w' bn noZ ∧ LBlk w' bs [.bool false] ∧ (∀ B, B ≤ bn → B ≤ bs → B ≤ w.heap.size → Below B w w') := by
  obtain ⟨w1, hst, hn1, ho1⟩ := no_store hn No.zero
  have hs1 := hs.only ho1 (Ne.symm hne)
  obtain ⟨cs0, fs0⟩ := hs1.2 0 _ rfl
  have HST := Lib.hid (show (storeVar 56 ⟨bn, 0, none⟩ (.agg #[.int .i64 0, .int .i64 0, .int .i64 0, .int .i64 0, .int .i64 0, .int .i64 0, .int .i64 0, .string ⟨#[]⟩, .bool false])).run Tryz.prog w = .ok () w1 from hst)
  have hs2 := hs1.set 0 (.bool false) (by simp)
  have hn2 := hn1.set_other hne 0 (.bool false)
  refine callsD_of_wpS Tryz.func128 rfl fun c₀ cs hu => ?_
  apply wpS_seq
  apply wpS_region
  simp [wpOpsS, go_sem, recoverD, hu, gaveUp, Tryz.ntmps128, Exit.thenS]
  refine wpS_cond (t := true) (by simp [Act.eval, Array.replicate]) ?_
  simp only [if_true]
  refine wpS_of_wp ?_
  change Code.wp _ _ _ { tmps := #[.pointer (some ⟨bn, 0, none⟩), .pointer (some ⟨bs, 0, none⟩), .iface 9 (.string ⟨#[110, 111, 32, 110, 111, 116, 101]⟩), .bool true, undef], defers := [] } w
  go_wp2_with ((with_reducible refine wp_store_at HST.out ?_ ?_); exact And.intro rfl (And.intro rfl (And.intro rfl rfl)))
  refine ⟨rfl, _, rfl, .tuple #[], by simp [results, Tryz.results128], rfl, rfl, hn2, hs2, fun B h1 h2 h3 => ?_⟩
  exact (ho1.below h1 h3).setCell (p := ⟨bs, 0, none⟩) h2 (.bool false)

/-- What readNote answers. -/
def ReadIs (r : Option No) (w : World) (e : Ending) (w' : World) : Prop := e = .returned (.tuple #[noV (noVal r), .bool r.isSome]) ∧ Below w.heap.size w w'

theorem results_two {P : Program} {fn : Func} {p u : Tmp} {ty tb : TypeId} {tmps : Array Value} {w : World} {ad ab : Addr} {v : Value} {b : Bool} (hr : (loadVar ty ad).run P w = .ok v w) (hb : (loadVar tb ab).run P w = .ok (.bool b) w) (h : fn.results = #[.cell p ty, .cell u tb]) (hp : tmps.getD p undef = .pointer (some ad)) (hu : tmps.getD u undef = .pointer (some ab)) : (results fn tmps).run P w = .ok (.tuple #[v, .bool b]) w := by
  have hp' : tmps[p]?.getD undef = .pointer (some ad) := by simpa using hp
  have hu' : tmps[u]?.getD undef = .pointer (some ab) := by simpa using hu
  simp [results, h, hp', hu', asAddr, hr, hb]

theorem load_bool {w : World} {b : Nat} {f : Bool} (h : LBlk w b [.bool f]) : (loadVar 4 ⟨b, 0, none⟩).run Tryz.prog w = .ok (.bool f) w := by
  have c0 := (h.2 0 _ rfl).1
  go_simp

set_option maxRecDepth 20000 in
set_option maxHeartbeats 2000000 in
theorem readNote_impl (ts : List Tok) (v : Value) (w : World) (L : Pow w) (h : TokSlc w v ts) (hr : ∀ x ∈ ts, TokR x) (hs : ts.length ≤ 1000000) :
    Calls Tryz.prog 82 #[v] w (ReadIs (noteInP (squeeze ts)) w) := by
  have hmf : ∀ (fn : Fn) (first cap : Array Value) (w : World), (Instr.makeFunc fn first cap).run Tryz.prog w = .ok (.func fn first cap) w := fun _ _ _ _ => rfl
  have hn0 : LBlk ((w.alloc (.cells #[.int .i64 0, .int .i64 0, .int .i64 0, .int .i64 0, .int .i64 0, .int .i64 0, .int .i64 0, .string ⟨#[]⟩, .bool false] 56)).alloc (.cells #[.bool false] 4)) w.heap.size (noL No.zero) := (LBlk.new w noZ 56).alloc _
  have hs0 : LBlk ((w.alloc (.cells #[.int .i64 0, .int .i64 0, .int .i64 0, .int .i64 0, .int .i64 0, .int .i64 0, .int .i64 0, .string ⟨#[]⟩, .bool false] 56)).alloc (.cells #[.bool false] 4)) (w.heap.size + 1) [.bool false] := by
    have := LBlk.new (w.alloc (.cells #[.int .i64 0, .int .i64 0, .int .i64 0, .int .i64 0, .int .i64 0, .int .i64 0, .int .i64 0, .string ⟨#[]⟩, .bool false] 56)) [.bool false] 4
    rwa [World.size_alloc] at this
  have hB0 := below_two2 w (.cells #[.int .i64 0, .int .i64 0, .int .i64 0, .int .i64 0, .int .i64 0, .int .i64 0, .int .i64 0, .string ⟨#[]⟩, .bool false] 56) (.cells #[.bool false] 4)
  have HQ := Lib.hid (Squeezed_implP ts v _ (L.on hB0) (h.on hB0) (fun x hx => fit_of_sm (hr x hx).2) (by omega))
  rw [squeezed_r hr] at HQ
  have hql : (squeeze ts).length ≤ 1000000 := by
    have h1 := squeezed_len ts
    rw [squeezed_ok (List.all_eq_true.2 fun x hx => (hr x hx).1)] at h1
    omega
  have HI := Lib.hid (fun v' w' (hb : Below w.heap.size w w') (hv : TokSlc w' v' (squeeze ts)) => noteIn_impl (squeeze ts) v' w' (L.on hb) hv (fun x hx => hr x (mem_squeeze hx)) hql)
  have hne : w.heap.size ≠ w.heap.size + 1 := by omega
  generalize squeeze ts = q at HQ HI ⊢
  obtain ⟨a0, cap0, rfl, _⟩ := h.form
  generalize ts.length = n0 at HQ ⊢
  clear h hr L hql hs
  unfold NoteIs at HI
  cases hq : noteInP q with
  | none =>
    rw [hq] at HI
    clear hq
    go_enter_defers Tryz.func82, Tryz.ntmps82
    go_wp2_with fail
    refine HQ.out.mono ?_
    rintro e w1 ⟨v1, rfl, hx1, g1⟩
    have hB1 := hB0.trans (g1.mono hB0.size)
    have hv1 := (Toks.val hx1).slc
    have hnI := HI.out v1 w1 hB1 hv1
    obtain ⟨a1, c1, rfl⟩ := toks_form hx1
    have HI1 := Lib.hid hnI
    have hn1 := hn0.below g1
    have hs1 := hs0.below g1
    clear HI HQ hx1 hv1 hnI hn0 hs0 g1 hB0
    go_wp2_with fail
    refine HI1.out.mono ?_
    rintro e w2 ⟨rfl, g2⟩
    have hB2 := hB1.trans (g2.mono hB1.size)
    refine leaves_cons (f := 128) (args := #[.pointer (some ⟨w.heap.size, 0, none⟩), .pointer (some ⟨w.heap.size + 1, 0, none⟩)]) (by simp) (by simp [go_sem]) ?_
    refine (catch_gaveUp w.heap.size (w.heap.size + 1) No.zero false w2 (hn1.below g2) (hs1.below g2) hne).mono ?_
    rintro e u' w3 ⟨rfl, rfl, hn3, hs3, hbel⟩
    exact ⟨_, results_two (load_blk (vs := noL No.zero) hn3 no_wide) (load_bool hs3) rfl rfl rfl, rfl, hB2.trans (hbel _ (Nat.le_refl _) (Nat.le_succ _) hB2.size)⟩
  | some n =>
    rw [hq] at HI
    clear hq
    go_enter_defers Tryz.func82, Tryz.ntmps82
    go_wp2_with fail
    refine HQ.out.mono ?_
    rintro e w1 ⟨v1, rfl, hx1, g1⟩
    have hB1 := hB0.trans (g1.mono hB0.size)
    have hv1 := (Toks.val hx1).slc
    have hnI := HI.out v1 w1 hB1 hv1
    obtain ⟨a1, c1, rfl⟩ := toks_form hx1
    have HI1 := Lib.hid hnI
    have hn1 := hn0.below g1
    have hs1 := hs0.below g1
    clear HI HQ hx1 hv1 hnI hn0 hs0 g1 hB0
    go_wp2_with fail
    refine HI1.out.mono ?_
    rintro e w2 ⟨rfl, g2⟩
    have hB2 := hB1.trans (g2.mono hB1.size)
    obtain ⟨w3, hst, hn3, ho3⟩ := no_store (hn1.below g2) n
    have HST := Lib.hid hst
    have hs3 := (hs1.below g2).only ho3 (Ne.symm hne)
    obtain ⟨cs0, fs0⟩ := hs3.2 0 _ rfl
    have hs4 : LBlk (w3.setCell ⟨w.heap.size + 1, 0, none⟩ (.bool true)) (w.heap.size + 1) [.bool true] := hs3.set 0 (.bool true) (by simp)
    have hn4 := hn3.set_other hne 0 (.bool true)
    have hB3 := hB2.trans (ho3.below (Nat.le_refl _) hB2.size)
    have hB4 := hB3.setCell (p := ⟨w.heap.size + 1, 0, none⟩) (Nat.le_succ _) (.bool true)
    clear hst HI1 hn1 hs1 hs3
    go_wp2_with ((with_reducible refine wp_store_at HST.out ?_ ?_); exact And.intro rfl (And.intro rfl (And.intro rfl rfl)))
    refine leaves_cons (f := 128) (args := #[.pointer (some ⟨w.heap.size, 0, none⟩), .pointer (some ⟨w.heap.size + 1, 0, none⟩)]) (by simp) (by simp [go_sem]) ?_
    refine (catch_idle w.heap.size (w.heap.size + 1) _).mono ?_
    rintro e u' w5 ⟨rfl, rfl, rfl⟩
    exact ⟨_, results_two (load_blk (vs := noL n) hn4 no_wide) (load_bool hs4) rfl rfl rfl, rfl, hB4⟩

end Go.Proofs.YtliihnkonakacaaGreatDoor.B9
