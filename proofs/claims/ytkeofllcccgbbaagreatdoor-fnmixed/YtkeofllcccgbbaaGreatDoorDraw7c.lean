/- Draws of chapter 7: DrawMixed. -/
import Derived.Test.YtkeofllcccgbbaaGreatDoorDraw7b
import Derived.Test.YtkeofllcccgbbaaGreatDoorInv
namespace Go.Proofs.YtkeofllcccgbbaaGreatDoor.D7
open Go.Proofs.YtkeofllcccgbbaaGreatDoor.P1 Go.Proofs.YtkeofllcccgbbaaGreatDoor.B1 Go.Proofs.YtkeofllcccgbbaaGreatDoor.B2 Go.Proofs.YtkeofllcccgbbaaGreatDoor.T1 Go.Proofs.YtkeofllcccgbbaaGreatDoor.BT Go.Proofs.YtkeofllcccgbbaaGreatDoor.P5 Go.Proofs.YtkeofllcccgbbaaGreatDoor.P6 Go.Proofs.YtkeofllcccgbbaaGreatDoor.B5 Go.Proofs.YtkeofllcccgbbaaGreatDoor.B6 Go.Proofs.YtkeofllcccgbbaaGreatDoor.S7 Go.Proofs.YtkeofllcccgbbaaGreatDoor.D1 Go.Proofs.YtkeofllcccgbbaaGreatDoor.D2 Go.Proofs.YtkeofllcccgbbaaGreatDoor.DB Go.Proofs.YtkeofllcccgbbaaGreatDoor.D5 Go.Proofs.YtkeofllcccgbbaaGreatDoor.D6 Go.Proofs.YtkeofllcccgbbaaGreatDoor.RI
open Go.ChangeShapes Go.WideShapes Go.ChangeAt Go.RowKit
set_option linter.unusedVariables false

/-- Two values and how far, that a draw from the bytes answers. -/
def GivenVVP (w : World) (e : Ending) (w' : World) : Prop := ∃ (x y : Va) (p : Int), e = .returned (.tuple #[valV x, valV y, .int .i64 p]) ∧ x.w.length ≤ 100 ∧ y.w.length ≤ 100 ∧ (-131073 ≤ p ∧ p ≤ 196609) ∧ Below w.heap.size w w'

/-- A value's cells. -/
def vl (x : Va) : List Value := [.int .i64 x.k, .int .i64 x.n, .int .i64 x.r, .int .i64 x.g, .int .i64 x.b, .int .i64 x.c, .string ⟨x.w.toArray⟩]

theorem fr_put7 {c : Nat} {a : Option Addr} {len cap : Nat} {w w' : World} (h : Fr c a len cap w w') {b : Nat} (hb : w.heap.size ≤ b) (hbc : b ≠ c) (v0 v1 v2 v3 v4 v5 v6 : Value) : Fr c a len cap w (put7 w' b v0 v1 v2 v3 v4 v5 v6) :=
  ((((((h.set hb hbc 0 v0).set hb hbc 1 v1).set hb hbc 2 v2).set hb hbc 3 v3).set hb hbc 4 v4).set hb hbc 5 v5).set hb hbc 6 v6

/-- The draw's blocks: the two values', and the results', which are written where s1, s2 are done. -/
structure MB (c : Nat) (a : Option Addr) (len cap : Nat) (w0 : World) (bA bB : Nat) (x y : Va) (s1 s2 : Nat) (f : Nat → Bool) (w : World) : Prop where
  fr : Fr c a len cap w0 w
  xa : LBlk w bA (vl x)
  yb : LBlk w bB (vl y)
  r : ∃ u0 u1 u2 u3 u4 u5 u6, LBlk w w0.heap.size [u0, u1, u2, u3, u4, u5, u6] ∧ (f s1 = true → [u0, u1, u2, u3, u4, u5, u6] = vl x)
  q : ∃ u0 u1 u2 u3 u4 u5 u6, LBlk w (w0.heap.size + 1) [u0, u1, u2, u3, u4, u5, u6] ∧ (f s2 = true → [u0, u1, u2, u3, u4, u5, u6] = vl y)
  hc : c = w0.heap.size + 2
  ha : c < bA
  hb : c < bB

theorem MB.call {c : Nat} {a : Option Addr} {len cap : Nat} {w0 : World} {bA bB : Nat} {x y : Va} {s1 s2 : Nat} {f f' : Nat → Bool} {w w2 : World} (h : MB c a len cap w0 bA bB x y s1 s2 f w) (hc : Cur w2 c a len cap) (ho : Only c w w2) (e1 : f' s1 = f s1) (e2 : f' s2 = f s2) : MB c a len cap w0 bA bB x y s1 s2 f' w2 := by
  obtain ⟨fr, xa, yb, ⟨u0, u1, u2, u3, u4, u5, u6, r, er⟩, ⟨z0, z1, z2, z3, z4, z5, z6, q, eq⟩, e, ha, hb⟩ := h
  exact ⟨fr.call hc ho, xa.only ho (by omega), yb.only ho (by omega), ⟨u0, u1, u2, u3, u4, u5, u6, r.only ho (by omega), fun h => er (e1 ▸ h)⟩, ⟨z0, z1, z2, z3, z4, z5, z6, q.only ho (by omega), fun h => eq (e2 ▸ h)⟩, e, ha, hb⟩

theorem MB.same {c : Nat} {a : Option Addr} {len cap : Nat} {w0 : World} {bA bB : Nat} {x y : Va} {s1 s2 : Nat} {f f' : Nat → Bool} {w : World} (h : MB c a len cap w0 bA bB x y s1 s2 f w) (e1 : f' s1 = f s1) (e2 : f' s2 = f s2) : MB c a len cap w0 bA bB x y s1 s2 f' w := h.call h.fr.cur (Only.refl _ _) e1 e2

theorem MB.alloc {c : Nat} {a : Option Addr} {len cap : Nat} {w0 : World} {bA bB : Nat} {x y : Va} {s1 s2 : Nat} {f f' : Nat → Bool} {w : World} (h : MB c a len cap w0 bA bB x y s1 s2 f w) (o : Obj) (e1 : f' s1 = f s1) (e2 : f' s2 = f s2) : MB c a len cap w0 bA bB x y s1 s2 f' (w.alloc o) := h.call (h.fr.cur.alloc o) (only_new w o c) e1 e2

theorem MB.putr {c : Nat} {a : Option Addr} {len cap : Nat} {w0 : World} {bA bB : Nat} {x y : Va} {s1 s2 : Nat} {f f' : Nat → Bool} {w : World} (h : MB c a len cap w0 bA bB x y s1 s2 f w) (e2 : f' s2 = f s2) : MB c a len cap w0 bA bB x y s1 s2 f' (put7 w w0.heap.size (.int .i64 x.k) (.int .i64 x.n) (.int .i64 x.r) (.int .i64 x.g) (.int .i64 x.b) (.int .i64 x.c) (.string ⟨x.w.toArray⟩)) := by
  obtain ⟨fr, xa, yb, ⟨u0, u1, u2, u3, u4, u5, u6, r, er⟩, ⟨z0, z1, z2, z3, z4, z5, z6, q, eq⟩, e, ha, hb⟩ := h
  exact ⟨fr_put7 fr (Nat.le_refl _) (by omega) _ _ _ _ _ _ _, put7_other xa (by omega) _ _ _ _ _ _ _, put7_other yb (by omega) _ _ _ _ _ _ _, ⟨_, _, _, _, _, _, _, put7_blk r _ _ _ _ _ _ _, fun _ => rfl⟩, ⟨z0, z1, z2, z3, z4, z5, z6, put7_other q (by omega) _ _ _ _ _ _ _, fun h => eq (e2 ▸ h)⟩, e, ha, hb⟩

theorem MB.putq {c : Nat} {a : Option Addr} {len cap : Nat} {w0 : World} {bA bB : Nat} {x y : Va} {s1 s2 : Nat} {f f' : Nat → Bool} {w : World} (h : MB c a len cap w0 bA bB x y s1 s2 f w) (e1 : f' s1 = f s1) : MB c a len cap w0 bA bB x y s1 s2 f' (put7 w (w0.heap.size + 1) (.int .i64 y.k) (.int .i64 y.n) (.int .i64 y.r) (.int .i64 y.g) (.int .i64 y.b) (.int .i64 y.c) (.string ⟨y.w.toArray⟩)) := by
  obtain ⟨fr, xa, yb, ⟨u0, u1, u2, u3, u4, u5, u6, r, er⟩, ⟨z0, z1, z2, z3, z4, z5, z6, q, eq⟩, e, ha, hb⟩ := h
  exact ⟨fr_put7 fr (by omega) (by omega) _ _ _ _ _ _ _, put7_other xa (by omega) _ _ _ _ _ _ _, put7_other yb (by omega) _ _ _ _ _ _ _, ⟨u0, u1, u2, u3, u4, u5, u6, put7_other r (by omega) _ _ _ _ _ _ _, fun h => er (e1 ▸ h)⟩, ⟨_, _, _, _, _, _, _, put7_blk q _ _ _ _ _ _ _, fun _ => rfl⟩, e, ha, hb⟩

/-- The numbers that are picked from. -/
def nums : List Value := [.int .i64 (-131073), .int .i64 (-131072), .int .i64 (-5000), .int .i64 70000, .int .i64 196608, .int .i64 196609]

theorem nums_at {w : World} {g K : Nat} (h : LBlk w g nums) (hK : K < 6) : ∃ n : Int, (-131073 ≤ n ∧ n ≤ 196609) ∧ w.cell? ⟨g, K, none⟩ = some (.int .i64 n) := by
  have : K = 0 ∨ K = 1 ∨ K = 2 ∨ K = 3 ∨ K = 4 ∨ K = 5 := by omega
  rcases this with rfl | rfl | rfl | rfl | rfl | rfl
  · exact ⟨_, by omega, (h.2 0 _ rfl).1⟩
  · exact ⟨_, by omega, (h.2 1 _ rfl).1⟩
  · exact ⟨_, by omega, (h.2 2 _ rfl).1⟩
  · exact ⟨_, by omega, (h.2 3 _ rfl).1⟩
  · exact ⟨_, by omega, (h.2 4 _ rfl).1⟩
  · exact ⟨_, by omega, (h.2 5 _ rfl).1⟩

def InM (v : Value) : Prop := ∃ n : Int, (-131073 ≤ n ∧ n ≤ 196609) ∧ v = .int .i64 n

def mf4 (c : Nat) (x y : Va) (i : Nat) (v : Value) (w : World) : Prop := match i with
  | 0 => v = valV x
  | 1 => v = valV y
  | 2 => ∃ g, v = .slice (some ⟨g, 0, none⟩) 6 6 ∧ c < g ∧ LBlk w g nums
  | 3 => v = .pointer (some ⟨c, 0, none⟩)
  | 4 => ∃ K : Nat, K < 6 ∧ v = .int .i64 (K : Int)
  | 5 => ∃ g K, K < 6 ∧ v = .pointer (some ⟨g, K, none⟩) ∧ c < g ∧ LBlk w g nums
  | 6 => InM v
  | 9 => InM v
  | _ => True

def md4 (i : Nat) : Option Nat := match i with
  | 0 => some 17
  | 1 => some 18
  | 2 => some 19
  | 3 => some 20
  | 4 => some 21
  | 5 => some 22
  | 6 => some 23
  | 9 => some 4
  | _ => none

theorem mf4_keep {c : Nat} {x y : Va} {w w' : World} (hk : ∀ g, c < g → LBlk w g nums → LBlk w' g nums) (j : Nat) (v : Value) (hj : j < 10) (h : mf4 c x y j v w) : mf4 c x y j v w' := by
  have : j = 0 ∨ j = 1 ∨ j = 2 ∨ j = 3 ∨ j = 4 ∨ j = 5 ∨ j = 6 ∨ j = 7 ∨ j = 8 ∨ j = 9 := by omega
  rcases this with rfl | rfl | rfl | rfl | rfl | rfl | rfl | rfl | rfl | rfl
  · exact h
  · exact h
  · obtain ⟨g, e, hg, ht⟩ := h; exact ⟨g, e, hg, hk g hg ht⟩
  · exact h
  · exact h
  · obtain ⟨g, K, hK, e, hg, ht⟩ := h; exact ⟨g, K, hK, e, hg, hk g hg ht⟩
  · exact h
  · exact h
  · exact h
  · exact h

def mf5 (c : Nat) (x y : Va) (i : Nat) (v : Value) : Prop := match i with
  | 0 => v = valV x
  | 1 => v = valV y
  | 2 => v = .pointer (some ⟨c, 0, none⟩)
  | 3 => InM v
  | 6 => InM v
  | _ => True

def md5 (i : Nat) : Option Nat := match i with
  | 0 => some 24
  | 1 => some 25
  | 2 => some 26
  | 3 => some 27
  | 6 => some 4
  | _ => none

set_option maxRecDepth 20000 in
set_option maxHeartbeats 4000000 in
theorem Mixed_draw (w : World) (a : Option Addr) (len cap : Nat) (h : Bytes w w.heap.size a len) :
    Calls Tryz.prog 7 #[.slice a len cap] w (GivenVVP w) := by
  go_enter Tryz.func7, Tryz.ntmps7
  go_wp2_with fail
  have hB0 : Below w.heap.size w ((w.alloc (.cells #[.int .i64 0, .int .i64 0, .int .i64 0, .int .i64 0, .int .i64 0, .int .i64 0, .string ⟨#[]⟩] 25)).alloc (.cells #[.int .i64 0, .int .i64 0, .int .i64 0, .int .i64 0, .int .i64 0, .int .i64 0, .string ⟨#[]⟩] 25)) := ((Below.refl _ _).alloc (Nat.le_refl _) _).alloc (by simp) _
  have hR0 : LBlk ((w.alloc (.cells #[.int .i64 0, .int .i64 0, .int .i64 0, .int .i64 0, .int .i64 0, .int .i64 0, .string ⟨#[]⟩] 25)).alloc (.cells #[.int .i64 0, .int .i64 0, .int .i64 0, .int .i64 0, .int .i64 0, .int .i64 0, .string ⟨#[]⟩] 25)) w.heap.size [.int .i64 0, .int .i64 0, .int .i64 0, .int .i64 0, .int .i64 0, .int .i64 0, .string ⟨#[]⟩] := (LBlk.new w [.int .i64 0, .int .i64 0, .int .i64 0, .int .i64 0, .int .i64 0, .int .i64 0, .string ⟨#[]⟩] 25).alloc _
  have hQ0 : LBlk ((w.alloc (.cells #[.int .i64 0, .int .i64 0, .int .i64 0, .int .i64 0, .int .i64 0, .int .i64 0, .string ⟨#[]⟩] 25)).alloc (.cells #[.int .i64 0, .int .i64 0, .int .i64 0, .int .i64 0, .int .i64 0, .int .i64 0, .string ⟨#[]⟩] 25)) (w.heap.size + 1) [.int .i64 0, .int .i64 0, .int .i64 0, .int .i64 0, .int .i64 0, .int .i64 0, .string ⟨#[]⟩] := by
    have := LBlk.new (w.alloc (.cells #[.int .i64 0, .int .i64 0, .int .i64 0, .int .i64 0, .int .i64 0, .int .i64 0, .string ⟨#[]⟩] 25)) [.int .i64 0, .int .i64 0, .int .i64 0, .int .i64 0, .int .i64 0, .int .i64 0, .string ⟨#[]⟩] 25
    rwa [World.size_alloc] at this
  have hsz : (((w.alloc (.cells #[.int .i64 0, .int .i64 0, .int .i64 0, .int .i64 0, .int .i64 0, .int .i64 0, .string ⟨#[]⟩] 25)).alloc (.cells #[.int .i64 0, .int .i64 0, .int .i64 0, .int .i64 0, .int .i64 0, .int .i64 0, .string ⟨#[]⟩] 25))).heap.size = w.heap.size + 2 := by simp
  have h0 := h.below hB0
  generalize ((w.alloc (.cells #[.int .i64 0, .int .i64 0, .int .i64 0, .int .i64 0, .int .i64 0, .int .i64 0, .string ⟨#[]⟩] 25)).alloc (.cells #[.int .i64 0, .int .i64 0, .int .i64 0, .int .i64 0, .int .i64 0, .int .i64 0, .string ⟨#[]⟩] 25)) = W0 at *
  refine (New_draw _ a len cap h0).mono ?_
  rintro e w1 ⟨rfl, hc1, ho1⟩
  rw [hsz] at hc1 ho1 ⊢
  have hby : Bytes w (w.heap.size + 2) a len := ⟨h.1, fun i hi => by
    obtain ⟨b, off, n, q1, q2, q3, q4⟩ := h.2 i hi
    exact ⟨b, off, n, q1, q2, by omega, q4⟩⟩
  have hF1 : Fr (w.heap.size + 2) a len cap w w1 := ⟨hc1, ⟨ho1.os.trans hB0.os, ho1.tape.trans hB0.tape, ho1.output.trans hB0.output, Nat.le_trans hB0.size ho1.size, fun k hk hs => (ho1.block k hk (by omega)).trans (hB0.block k hs)⟩, hby⟩
  have hR1 := hR0.only ho1 (by omega)
  have hQ1 := hQ0.only ho1 (by omega)
  clear ho1 h h0 hc1 hR0 hQ0 hby hB0
  go_wp2_with fail
  refine (l7Draw_draw _ (w.heap.size + 2) a len cap hF1.cur).mono ?_
  rintro e w2 ⟨⟨xk, xn, xr, xg, xb, xc, xt⟩, ⟨yk, yn, yr, yg, yb, yc, yt⟩, rfl, hxt, hyt, hc2, ho2⟩
  have hF2 := hF1.call hc2 ho2
  have hR2 := hR1.only ho2 (by omega)
  have hQ2 := hQ1.only ho2 (by omega)
  have hlt := hF2.cur.lt
  have hM0 : ∀ s1 s2, MB (w.heap.size + 2) a len cap w w2.heap.size (w2.heap.size + 1) ⟨xk, xn, xr, xg, xb, xc, xt⟩ ⟨yk, yn, yr, yg, yb, yc, yt⟩ s1 s2 (fun _ => false) ((w2.alloc (.cells #[.int .i64 xk, .int .i64 xn, .int .i64 xr, .int .i64 xg, .int .i64 xb, .int .i64 xc, .string ⟨xt.toArray⟩] 25)).alloc (.cells #[.int .i64 yk, .int .i64 yn, .int .i64 yr, .int .i64 yg, .int .i64 yb, .int .i64 yc, .string ⟨yt.toArray⟩] 25)) := fun s1 s2 => by
    refine ⟨(hF2.alloc _).alloc _, (LBlk.new w2 _ _).alloc _, ?_, ⟨_, _, _, _, _, _, _, (hR2.alloc _).alloc _, fun h => by cases h⟩, ⟨_, _, _, _, _, _, _, (hQ2.alloc _).alloc _, fun h => by cases h⟩, rfl, hlt, by omega⟩
    have := LBlk.new (w2.alloc (.cells #[.int .i64 xk, .int .i64 xn, .int .i64 xr, .int .i64 xg, .int .i64 xb, .int .i64 xc, .string ⟨xt.toArray⟩] 25)) [.int .i64 yk, .int .i64 yn, .int .i64 yr, .int .i64 yg, .int .i64 yb, .int .i64 yc, .string ⟨yt.toArray⟩] 25
    rwa [World.size_alloc] at this
  have hcur := (hF2.cur.alloc (.cells #[.int .i64 xk, .int .i64 xn, .int .i64 xr, .int .i64 xg, .int .i64 xb, .int .i64 xc, .string ⟨xt.toArray⟩] 25)).alloc (.cells #[.int .i64 yk, .int .i64 yn, .int .i64 yr, .int .i64 yg, .int .i64 yb, .int .i64 yc, .string ⟨yt.toArray⟩] 25)
  clear hF1 hR1 hQ1 hc2 ho2 hF2 hR2 hQ2
  unfold valV
  go_wp2_with fail
  refine (Once_draw _ (w.heap.size + 2) a len cap 4 hcur).mono ?_
  rintro e w3 ⟨qq, rfl, hc3, ho3⟩
  have hM3 : ∀ s1 s2, MB (w.heap.size + 2) a len cap w w2.heap.size (w2.heap.size + 1) ⟨xk, xn, xr, xg, xb, xc, xt⟩ ⟨yk, yn, yr, yg, yb, yc, yt⟩ s1 s2 (fun _ => false) w3 := fun s1 s2 => (hM0 s1 s2).call hc3 ho3 rfl rfl
  clear hM0 hcur hc3 ho3
  obtain ⟨bA, eA⟩ : ∃ bA, w2.heap.size = bA := ⟨_, rfl⟩
  rw [eA] at hM3 ⊢
  clear eA
  cases qq
  · go_wp2_with fail
    refine region_inv (by kernel_rfl) (Inv 7 28 md5 [(2, .pointer (some ⟨w.heap.size, 0, none⟩)), (3, .pointer (some ⟨w.heap.size + 1, 0, none⟩)), (5, .pointer (some ⟨w.heap.size + 2, 0, none⟩)), (6, .pointer (some ⟨bA, 0, none⟩)), (7, .pointer (some ⟨bA + 1, 0, none⟩))] (MB (w.heap.size + 2) a len cap w bA (bA + 1) ⟨xk, xn, xr, xg, xb, xc, xt⟩ ⟨yk, yn, yr, yg, yb, yc, yt⟩ 4 5) (fun i v _ => mf5 (w.heap.size + 2) ⟨xk, xn, xr, xg, xb, xc, xt⟩ ⟨yk, yn, yr, yg, yb, yc, yt⟩ i v)) ?_ ?_ ?_
    · refine Inv.start rfl rfl ?_ ((hM3 4 5).call (hM3 4 5).fr.cur.drew ((Only.refl _ _).drew) rfl rfl)
      simp
    · clear hM3
      intro L A W hL hJ i hi
      have hi7 : i < 7 := by
        unfold Region.ready at hi
        rw [List.mem_filter] at hi
        simpa using hi.1
      have s2 := hJ.ks (2, .pointer (some ⟨w.heap.size, 0, none⟩)) (by simp)
      have s3 := hJ.ks (3, .pointer (some ⟨w.heap.size + 1, 0, none⟩)) (by simp)
      have s5 := hJ.ks (5, .pointer (some ⟨w.heap.size + 2, 0, none⟩)) (by simp)
      have s6 := hJ.ks (6, .pointer (some ⟨bA, 0, none⟩)) (by simp)
      have s7 := hJ.ks (7, .pointer (some ⟨bA + 1, 0, none⟩)) (by simp)
      have hB := hJ.bs
      have hok : okI 7 28 md5 [2, 3, 5, 6, 7] = true := by decide
      have hcase : i = 0 ∨ i = 1 ∨ i = 2 ∨ i = 3 ∨ i = 4 ∨ i = 5 ∨ i = 6 := by omega
      rcases hcase with rfl | rfl | rfl | rfl | rfl | rfl | rfl
      · refine wpOp_of rfl rfl (wp_value (v := valV ⟨xk, xn, xr, xg, xb, xc, xt⟩) (W' := W) ?_ (Inv.step hok hJ hL (i := 0) (by decide) _ rfl (hB.same rfl rfl) (fun _ _ _ h => h) rfl))
        obtain ⟨c0, c1, c2, c3, c4, c5, c6, _⟩ := seven_cells hB.xa
        simp [execOp, Act.eval, s6, go_sem, c0, c1, c2, c3, c4, c5, c6, valV]
      · refine wpOp_of rfl rfl (wp_value (v := valV ⟨yk, yn, yr, yg, yb, yc, yt⟩) (W' := W) ?_ (Inv.step hok hJ hL (i := 1) (by decide) _ rfl (hB.same rfl rfl) (fun _ _ _ h => h) rfl))
        obtain ⟨c0, c1, c2, c3, c4, c5, c6, _⟩ := seven_cells hB.yb
        simp [execOp, Act.eval, s7, go_sem, c0, c1, c2, c3, c4, c5, c6, valV]
      · refine wpOp_of rfl rfl (wp_value (v := .pointer (some ⟨w.heap.size + 2, 0, none⟩)) (W' := W) ?_ (Inv.step hok hJ hL (i := 2) (by decide) _ rfl (hB.same rfl rfl) (fun _ _ _ h => h) rfl))
        simp [execOp, Act.eval, s5, go_sem]
      · obtain ⟨hnot, hdep⟩ := ready_of hL rfl hi
        have l2 : L[2]?.getD false = true := hdep ⟨2, .data⟩ (by simp) rfl
        have hs : A.tmps[26]?.getD undef = .pointer (some ⟨w.heap.size + 2, 0, none⟩) := hJ.fs 2 (by decide) 26 rfl l2
        refine wpOp_of rfl rfl (wp_enter (f := 25) (args := #[.pointer (some ⟨w.heap.size + 2, 0, none⟩)]) ?_ ?_)
        · simp [execOp, Act.eval, hs, go_sem]
        · refine (Part_draw _ _ a len cap hB.fr.cur).mono ?_
          rintro e w4 ⟨n, ⟨hn0, hn1⟩, rfl, hc4, ho4⟩
          exact ⟨_, rfl, Inv.step hok hJ hL (i := 3) (by decide) _ rfl (hB.call hc4 ho4 rfl rfl) (fun _ _ _ h => h) ⟨n, by omega, rfl⟩⟩
      · obtain ⟨hnot, hdep⟩ := ready_of hL rfl hi
        have l0 : L[0]?.getD false = true := hdep ⟨0, .data⟩ (by simp) rfl
        have hs : A.tmps[24]?.getD undef = valV ⟨xk, xn, xr, xg, xb, xc, xt⟩ := hJ.fs 0 (by decide) 24 rfl l0
        refine wpOp_of rfl rfl (wp_stored (W' := put7 W w.heap.size (.int .i64 xk) (.int .i64 xn) (.int .i64 xr) (.int .i64 xg) (.int .i64 xb) (.int .i64 xc) (.string ⟨xt.toArray⟩)) ?_ (Inv.step hok hJ hL (i := 4) (v := undef) (by decide) none rfl (hB.putr rfl) (fun _ _ _ h => h) trivial))
        obtain ⟨u0, u1, u2, u3, u4, u5, u6, hr, _⟩ := hB.r
        obtain ⟨c0, c1, c2, c3, c4, c5, c6, f0, f1, f2, f3, f4, f5, f6⟩ := seven_cells hr
        simp [execOp, Act.eval, s2, hs, go_sem, valV, put7, c0, c1, c2, c3, c4, c5, c6, f0, f1, f2, f3, f4, f5, f6]
      · obtain ⟨hnot, hdep⟩ := ready_of hL rfl hi
        have l0 : L[1]?.getD false = true := hdep ⟨1, .data⟩ (by simp) rfl
        have hs : A.tmps[25]?.getD undef = valV ⟨yk, yn, yr, yg, yb, yc, yt⟩ := hJ.fs 1 (by decide) 25 rfl l0
        refine wpOp_of rfl rfl (wp_stored (W' := put7 W (w.heap.size + 1) (.int .i64 yk) (.int .i64 yn) (.int .i64 yr) (.int .i64 yg) (.int .i64 yb) (.int .i64 yc) (.string ⟨yt.toArray⟩)) ?_ (Inv.step hok hJ hL (i := 5) (v := undef) (by decide) none rfl (hB.putq rfl) (fun _ _ _ h => h) trivial))
        obtain ⟨u0, u1, u2, u3, u4, u5, u6, hr, _⟩ := hB.q
        obtain ⟨c0, c1, c2, c3, c4, c5, c6, f0, f1, f2, f3, f4, f5, f6⟩ := seven_cells hr
        simp [execOp, Act.eval, s3, hs, go_sem, valV, put7, c0, c1, c2, c3, c4, c5, c6, f0, f1, f2, f3, f4, f5, f6]
      · obtain ⟨hnot, hdep⟩ := ready_of hL rfl hi
        have l3 : L[3]?.getD false = true := hdep ⟨3, .data⟩ (by simp) rfl
        obtain ⟨n, hn, hs⟩ := hJ.fs 3 (by decide) 27 rfl l3
        refine wpOp_of rfl rfl (wp_value (v := .int .i64 n) (W' := W) ?_ (Inv.step hok hJ hL (i := 6) (by decide) _ rfl (hB.same rfl rfl) (fun _ _ _ h => h) ⟨n, hn, rfl⟩))
        simp [execOp, Act.eval, hs, go_sem]
    · intro L A W hL hJ hr
      have hd := ready_all (by kernel_rfl) hL hr
      obtain ⟨n, hn, s4⟩ := hJ.fs 6 (by decide) 4 rfl (hd 6 (by decide))
      have s2 := hJ.ks (2, .pointer (some ⟨w.heap.size, 0, none⟩)) (by simp)
      have s3 := hJ.ks (3, .pointer (some ⟨w.heap.size + 1, 0, none⟩)) (by simp)
      obtain ⟨u0, u1, u2, u3, u4, u5, u6, hr, er⟩ := hJ.bs.r
      obtain ⟨z0, z1, z2, z3, z4, z5, z6, hq, eq⟩ := hJ.bs.q
      have hr' := er (hd 4 (by decide)) ▸ hr
      have hq' := eq (hd 5 (by decide)) ▸ hq
      obtain ⟨p0, p1, p2, p3, p4, p5, p6, _⟩ := seven_cells hr'
      obtain ⟨q0, q1, q2, q3, q4, q5, q6, _⟩ := seven_cells hq'
      have hdf := hJ.df
      have hbel := hJ.bs.fr.only.below (B := w.heap.size) (by omega) (Nat.le_refl _)
      go_wp2_with fail
      exact bodyPost_ret (v := .tuple #[valV ⟨xk, xn, xr, xg, xb, xc, xt⟩, valV ⟨yk, yn, yr, yg, yb, yc, yt⟩, .int .i64 n]) (by simp only [results, Tryz.results7]; simp [go_sem, s2, s3, s4, p0, p1, p2, p3, p4, p5, p6, q0, q1, q2, q3, q4, q5, q6, valV]) hdf ⟨_, _, _, rfl, hxt, hyt, hn, hbel⟩
  · go_wp2_with fail
    refine region_inv (by kernel_rfl) (Inv 10 28 md4 [(2, .pointer (some ⟨w.heap.size, 0, none⟩)), (3, .pointer (some ⟨w.heap.size + 1, 0, none⟩)), (5, .pointer (some ⟨w.heap.size + 2, 0, none⟩)), (6, .pointer (some ⟨bA, 0, none⟩)), (7, .pointer (some ⟨bA + 1, 0, none⟩))] (MB (w.heap.size + 2) a len cap w bA (bA + 1) ⟨xk, xn, xr, xg, xb, xc, xt⟩ ⟨yk, yn, yr, yg, yb, yc, yt⟩ 7 8) (mf4 (w.heap.size + 2) ⟨xk, xn, xr, xg, xb, xc, xt⟩ ⟨yk, yn, yr, yg, yb, yc, yt⟩)) ?_ ?_ ?_
    · refine Inv.start rfl rfl ?_ ((hM3 7 8).call (hM3 7 8).fr.cur.drew ((Only.refl _ _).drew) rfl rfl)
      simp
    · clear hM3
      intro L A W hL hJ i hi
      have hi10 : i < 10 := by
        unfold Region.ready at hi
        rw [List.mem_filter] at hi
        simpa using hi.1
      have s2 := hJ.ks (2, .pointer (some ⟨w.heap.size, 0, none⟩)) (by simp)
      have s3 := hJ.ks (3, .pointer (some ⟨w.heap.size + 1, 0, none⟩)) (by simp)
      have s5 := hJ.ks (5, .pointer (some ⟨w.heap.size + 2, 0, none⟩)) (by simp)
      have s6 := hJ.ks (6, .pointer (some ⟨bA, 0, none⟩)) (by simp)
      have s7 := hJ.ks (7, .pointer (some ⟨bA + 1, 0, none⟩)) (by simp)
      have hB := hJ.bs
      have hok : okI 10 28 md4 [2, 3, 5, 6, 7] = true := by decide
      have hcase : i = 0 ∨ i = 1 ∨ i = 2 ∨ i = 3 ∨ i = 4 ∨ i = 5 ∨ i = 6 ∨ i = 7 ∨ i = 8 ∨ i = 9 := by omega
      rcases hcase with rfl | rfl | rfl | rfl | rfl | rfl | rfl | rfl | rfl | rfl
      · refine wpOp_of rfl rfl (wp_value (v := valV ⟨xk, xn, xr, xg, xb, xc, xt⟩) (W' := W) ?_ (Inv.step hok hJ hL (i := 0) (by decide) _ rfl (hB.same rfl rfl) (fun _ _ _ h => h) rfl))
        obtain ⟨c0, c1, c2, c3, c4, c5, c6, _⟩ := seven_cells hB.xa
        simp [execOp, Act.eval, s6, go_sem, c0, c1, c2, c3, c4, c5, c6, valV]
      · refine wpOp_of rfl rfl (wp_value (v := valV ⟨yk, yn, yr, yg, yb, yc, yt⟩) (W' := W) ?_ (Inv.step hok hJ hL (i := 1) (by decide) _ rfl (hB.same rfl rfl) (fun _ _ _ h => h) rfl))
        obtain ⟨c0, c1, c2, c3, c4, c5, c6, _⟩ := seven_cells hB.yb
        simp [execOp, Act.eval, s7, go_sem, c0, c1, c2, c3, c4, c5, c6, valV]
      · refine wpOp_of rfl rfl (wp_value (v := .slice (some ⟨W.heap.size, 0, none⟩) 6 6) (W' := W.alloc (.cells nums.toArray 2)) ?_ (Inv.step hok hJ hL (i := 2) (by decide) _ rfl (hB.alloc _ rfl rfl) (mf4_keep fun g hg ht => ht.alloc _) ⟨W.heap.size, rfl, hB.fr.cur.lt, LBlk.new W _ _⟩))
        unfold nums
        go_simp
      · refine wpOp_of rfl rfl (wp_value (v := .pointer (some ⟨w.heap.size + 2, 0, none⟩)) (W' := W) ?_ (Inv.step hok hJ hL (i := 3) (by decide) _ rfl (hB.same rfl rfl) (fun _ _ _ h => h) rfl))
        simp [execOp, Act.eval, s5, go_sem]
      · obtain ⟨hnot, hdep⟩ := ready_of hL rfl hi
        have l3 : L[3]?.getD false = true := hdep ⟨3, .data⟩ (by simp) rfl
        have hs : A.tmps[20]?.getD undef = .pointer (some ⟨w.heap.size + 2, 0, none⟩) := hJ.fs 3 (by decide) 20 rfl l3
        refine wpOp_of rfl rfl (wp_enter (f := 24) (args := #[.pointer (some ⟨w.heap.size + 2, 0, none⟩), .int .i64 6]) ?_ ?_)
        · simp [execOp, Act.eval, hs, go_sem]
        · refine (Below_draw _ _ a len cap 6 hB.fr.cur).mono ?_
          rintro e w4 ⟨n, hn, rfl, hc4, ho4⟩
          obtain ⟨K, rfl, hK⟩ := below_nat (m := 6) hn (by omega)
          exact ⟨_, rfl, Inv.step hok hJ hL (i := 4) (by decide) _ rfl (hB.call hc4 ho4 rfl rfl) (mf4_keep fun g hg ht => ht.only ho4 (by omega)) ⟨K, hK, rfl⟩⟩
      · obtain ⟨hnot, hdep⟩ := ready_of hL rfl hi
        have l2 : L[2]?.getD false = true := hdep ⟨2, .data⟩ (by simp) rfl
        have l4 : L[4]?.getD false = true := hdep ⟨4, .data⟩ (by simp) rfl
        obtain ⟨g, es, hg, ht⟩ := hJ.fs 2 (by decide) 19 rfl l2
        obtain ⟨K, hK, ek⟩ := hJ.fs 4 (by decide) 21 rfl l4
        have hK0 : (0 : Int) ≤ (K : Int) := by omega
        have hK2 : (K : Int) < 6 := by omega
        refine wpOp_of rfl rfl (wp_value (v := .pointer (some ⟨g, K, none⟩)) (W' := W) ?_ (Inv.step hok hJ hL (i := 5) (by decide) _ rfl (hB.same rfl rfl) (fun _ _ _ h => h) ⟨g, K, hK, rfl, hg, ht⟩))
        simp [execOp, Act.eval, es, ek]
        go_simp
      · obtain ⟨hnot, hdep⟩ := ready_of hL rfl hi
        have l5 : L[5]?.getD false = true := hdep ⟨5, .data⟩ (by simp) rfl
        obtain ⟨g, K, hK, ep, hg, ht⟩ := hJ.fs 5 (by decide) 22 rfl l5
        obtain ⟨n, hn, hcell⟩ := nums_at ht hK
        refine wpOp_of rfl rfl (wp_value (v := .int .i64 n) (W' := W) ?_ (Inv.step hok hJ hL (i := 6) (by decide) _ rfl (hB.same rfl rfl) (fun _ _ _ h => h) ⟨n, hn, rfl⟩))
        simp [execOp, Act.eval, ep]
        go_simp
      · obtain ⟨hnot, hdep⟩ := ready_of hL rfl hi
        have l0 : L[0]?.getD false = true := hdep ⟨0, .data⟩ (by simp) rfl
        have hs : A.tmps[17]?.getD undef = valV ⟨xk, xn, xr, xg, xb, xc, xt⟩ := hJ.fs 0 (by decide) 17 rfl l0
        refine wpOp_of rfl rfl (wp_stored (W' := put7 W w.heap.size (.int .i64 xk) (.int .i64 xn) (.int .i64 xr) (.int .i64 xg) (.int .i64 xb) (.int .i64 xc) (.string ⟨xt.toArray⟩)) ?_ (Inv.step hok hJ hL (i := 7) (v := undef) (by decide) none rfl (hB.putr rfl) (mf4_keep fun g hg ht => put7_other ht (by omega) _ _ _ _ _ _ _) trivial))
        obtain ⟨u0, u1, u2, u3, u4, u5, u6, hr, _⟩ := hB.r
        obtain ⟨c0, c1, c2, c3, c4, c5, c6, f0, f1, f2, f3, f4, f5, f6⟩ := seven_cells hr
        simp [execOp, Act.eval, s2, hs, go_sem, valV, put7, c0, c1, c2, c3, c4, c5, c6, f0, f1, f2, f3, f4, f5, f6]
      · obtain ⟨hnot, hdep⟩ := ready_of hL rfl hi
        have l0 : L[1]?.getD false = true := hdep ⟨1, .data⟩ (by simp) rfl
        have hs : A.tmps[18]?.getD undef = valV ⟨yk, yn, yr, yg, yb, yc, yt⟩ := hJ.fs 1 (by decide) 18 rfl l0
        refine wpOp_of rfl rfl (wp_stored (W' := put7 W (w.heap.size + 1) (.int .i64 yk) (.int .i64 yn) (.int .i64 yr) (.int .i64 yg) (.int .i64 yb) (.int .i64 yc) (.string ⟨yt.toArray⟩)) ?_ (Inv.step hok hJ hL (i := 8) (v := undef) (by decide) none rfl (hB.putq rfl) (mf4_keep fun g hg ht => put7_other ht (by omega) _ _ _ _ _ _ _) trivial))
        obtain ⟨u0, u1, u2, u3, u4, u5, u6, hr, _⟩ := hB.q
        obtain ⟨c0, c1, c2, c3, c4, c5, c6, f0, f1, f2, f3, f4, f5, f6⟩ := seven_cells hr
        simp [execOp, Act.eval, s3, hs, go_sem, valV, put7, c0, c1, c2, c3, c4, c5, c6, f0, f1, f2, f3, f4, f5, f6]
      · obtain ⟨hnot, hdep⟩ := ready_of hL rfl hi
        have l6 : L[6]?.getD false = true := hdep ⟨6, .data⟩ (by simp) rfl
        obtain ⟨n, hn, hs⟩ := hJ.fs 6 (by decide) 23 rfl l6
        refine wpOp_of rfl rfl (wp_value (v := .int .i64 n) (W' := W) ?_ (Inv.step hok hJ hL (i := 9) (by decide) _ rfl (hB.same rfl rfl) (fun _ _ _ h => h) ⟨n, hn, rfl⟩))
        simp [execOp, Act.eval, hs, go_sem]
    · intro L A W hL hJ hr
      have hd := ready_all (by kernel_rfl) hL hr
      obtain ⟨n, hn, s4⟩ := hJ.fs 9 (by decide) 4 rfl (hd 9 (by decide))
      have s2 := hJ.ks (2, .pointer (some ⟨w.heap.size, 0, none⟩)) (by simp)
      have s3 := hJ.ks (3, .pointer (some ⟨w.heap.size + 1, 0, none⟩)) (by simp)
      obtain ⟨u0, u1, u2, u3, u4, u5, u6, hr, er⟩ := hJ.bs.r
      obtain ⟨z0, z1, z2, z3, z4, z5, z6, hq, eq⟩ := hJ.bs.q
      have hr' := er (hd 7 (by decide)) ▸ hr
      have hq' := eq (hd 8 (by decide)) ▸ hq
      obtain ⟨p0, p1, p2, p3, p4, p5, p6, _⟩ := seven_cells hr'
      obtain ⟨q0, q1, q2, q3, q4, q5, q6, _⟩ := seven_cells hq'
      have hdf := hJ.df
      have hbel := hJ.bs.fr.only.below (B := w.heap.size) (by omega) (Nat.le_refl _)
      go_wp2_with fail
      exact bodyPost_ret (v := .tuple #[valV ⟨xk, xn, xr, xg, xb, xc, xt⟩, valV ⟨yk, yn, yr, yg, yb, yc, yt⟩, .int .i64 n]) (by simp only [results, Tryz.results7]; simp [go_sem, s2, s3, s4, p0, p1, p2, p3, p4, p5, p6, q0, q1, q2, q3, q4, q5, q6, valV]) hdf ⟨_, _, _, rfl, hxt, hyt, hn, hbel⟩

end Go.Proofs.YtkeofllcccgbbaaGreatDoor.D7
