/- The draw l1Bend: a text bent at some places: some text that is at most two bytes longer. -/
import Derived.Test.YtmcjfjchpclamaaDoorBaseTs
import Derived.Test.YtmcjfjchpclamaaDoorLot
import Derived.Deep.RegionLaw
namespace Go.Proofs.YtmcjfjchpclamaaDoor.DB
open Go.Proofs.YtmcjfjchpclamaaDoor.P1 Go.Proofs.YtmcjfjchpclamaaDoor.B1 Go.Proofs.YtmcjfjchpclamaaDoor.B2 Go.Proofs.YtmcjfjchpclamaaDoor.T1 Go.Proofs.YtmcjfjchpclamaaDoor.BT Go.Proofs.YtmcjfjchpclamaaDoor.D1
open Go.ChangeShapes Go.WideShapes Go.ChangeAt Go.RowKit
set_option linter.unusedVariables false

/-- A slice of bytes of the call's own. -/
def Bts (w : World) (B g cap : Nat) (bs : List UInt8) : Prop :=
  B ≤ g ∧ g < w.heap.size ∧ bs.length ≤ cap ∧ cap ≤ maxLen ∧ ∀ j b, bs[j]? = some b → w.cell? ⟨g, j, none⟩ = some (.int .u8 (b.toNat : Int)) ∧ w.frozen? ⟨g, j, none⟩ = false

theorem Bts.keep {w w' : World} {B g cap : Nat} {bs : List UInt8} (h : Bts w B g cap bs) (hs : w.heap.size ≤ w'.heap.size) (hb : w'.heap[g]? = w.heap[g]?) : Bts w' B g cap bs := by
  refine ⟨h.1, Nat.lt_of_lt_of_le h.2.1 hs, h.2.2.1, h.2.2.2.1, fun j b hj => ?_⟩
  obtain ⟨c, f⟩ := h.2.2.2.2 j b hj
  exact ⟨(World.cell?_of_block (a := ⟨g, j, none⟩) hb).trans c, (World.frozen?_of_block (a := ⟨g, j, none⟩) hb).trans f⟩

theorem Bts.only {w w' : World} {B g cap c : Nat} {bs : List UInt8} (h : Bts w B g cap bs) (ho : Only c w w') (hc : c < B) : Bts w' B g cap bs :=
  h.keep ho.size (ho.block g (by have := h.1; omega) h.2.1)

theorem Bts.alloc {w : World} {B g cap : Nat} {bs : List UInt8} (h : Bts w B g cap bs) (o : Obj) : Bts (w.alloc o) B g cap bs :=
  h.keep (by simp) (Below.heap_alloc _ _ _ h.2.1)

theorem Bts.drew {w : World} {B g cap : Nat} {bs : List UInt8} (h : Bts w B g cap bs) : Bts w.drew B g cap bs := h

theorem Bts.grown {w w' : World} {B g cap : Nat} {bs : List UInt8} {row : Option Nat} (h : Bts w B g cap bs) (hg : w.grownBy w' row) (hr : some g ≠ row) : Bts w' B g cap bs :=
  h.keep hg.size (hg.block g h.2.1 hr)

theorem Bts.take {w : World} {B g cap : Nat} {bs : List UInt8} (h : Bts w B g cap bs) (k : Nat) : Bts w B g cap (bs.take k) :=
  ⟨h.1, h.2.1, by have := h.2.2.1; simp; omega, h.2.2.2.1, fun j b hj => h.2.2.2.2 j b (by
    rw [List.getElem?_take] at hj
    split at hj
    · exact hj
    · cases hj)⟩

theorem Bts.store {w : World} {B g cap : Nat} {bs : List UInt8} (h : Bts w B g cap bs) (k : Nat) (x : UInt8) : Bts (w.setCell ⟨g, k, none⟩ (.int .u8 (x.toNat : Int))) B g cap (bs.set k x) := by
  refine ⟨h.1, by simpa [World.setCell] using h.2.1, by simpa using h.2.2.1, h.2.2.2.1, fun j b hj => ?_⟩
  by_cases e : k = j
  · subst e
    have hk : k < bs.length := by
      have := (List.getElem?_eq_some_iff.1 hj).1
      simpa using this
    rw [List.getElem?_set_self hk] at hj
    cases hj
    obtain ⟨c, f⟩ := h.2.2.2.2 k _ (List.getElem?_eq_getElem hk)
    exact ⟨World.cell?_setCell_same _ _ _ c, by simpa using f⟩
  · rw [List.getElem?_set_ne e] at hj
    obtain ⟨c, f⟩ := h.2.2.2.2 j b hj
    exact ⟨by rw [World.cell?_setCell_other _ _ _ _ (by simp [*])]; exact c, by simpa using f⟩

/-- Bytes as values. -/
def bytesV (bs : List UInt8) : List Value := bs.map fun b => Value.int .u8 (b.toNat : Int)

theorem bytesV_at {bs : List UInt8} {j : Nat} {u : Value} (h : (bytesV bs)[j]? = some u) : ∃ b, bs[j]? = some b ∧ u = .int .u8 (b.toNat : Int) := by
  unfold bytesV at h
  rw [List.getElem?_map] at h
  obtain ⟨b, hb, rfl⟩ := Option.map_eq_some_iff.1 h
  exact ⟨b, hb, rfl⟩

theorem bytesV_one (bs : List UInt8) : ∀ u ∈ bytesV bs, u.oneCell' = true := by
  intro u hu
  obtain ⟨_, _, rfl⟩ := List.mem_map.1 hu
  rfl

theorem add_zero_at (g j : Nat) : (⟨g, 0, none⟩ : Addr).add j = ⟨g, j, none⟩ := by unfold Addr.add; split <;> simp_all
theorem add_at (g k j : Nat) : (⟨g, k, none⟩ : Addr).add j = ⟨g, k + j, none⟩ := by unfold Addr.add; split <;> simp_all

/-- The bytes of such a slice's beginning, to be appended. -/
theorem Bts.srcTake {w : World} {B g cap : Nat} {bs : List UInt8} (h : Bts w B g cap bs) (K : Nat) : ∀ j u, (bytesV (bs.take K))[j]? = some u → w.cell? ((⟨g, 0, none⟩ : Addr).add j) = some u := by
  intro j u hu
  obtain ⟨b, hb, rfl⟩ := bytesV_at hu
  rw [add_zero_at]
  exact ((h.take K).2.2.2.2 j b hb).1

/-- .. and of its rest. -/
theorem Bts.srcDrop {w : World} {B g cap : Nat} {bs : List UInt8} (h : Bts w B g cap bs) (K : Nat) : ∀ j u, (bytesV (bs.drop K))[j]? = some u → w.cell? ((⟨g, K, none⟩ : Addr).add j) = some u := by
  intro j u hu
  obtain ⟨b, hb, rfl⟩ := bytesV_at hu
  rw [add_at]
  rw [List.getElem?_drop] at hb
  exact (h.2.2.2.2 (K + j) b hb).1

theorem Bts.own {w : World} {B : Nat} {v : Value} {bs : List UInt8} {n : Nat} (h : w.ownsRow B 5 1 v n (bytesV bs)) (hv : v ≠ .slice none 0 0) : ∃ g cap, v = .slice (some ⟨g, 0, none⟩) bs.length cap ∧ Bts w B g cap bs := by
  have hn : bs.length = n := by simpa [bytesV] using h.1
  subst hn
  rcases h.2 with ⟨e, _⟩ | ⟨g, cap, cur, rfl, hb, hg, hnc, hm, _⟩
  · exact absurd e hv
  · refine ⟨g, cap, rfl, hb, (Array.getElem?_eq_some_iff.1 hg).1, hnc, hm, fun j b hj => ⟨?_, World.ownsRow.frozenAt h j⟩⟩
    have hjl := (List.getElem?_eq_some_iff.1 hj).1
    rw [World.ownsRow.cellAt h j (by omega)]
    simp [bytesV, hj]

/-- The bytes of a text, as []byte(s) lays them. -/
theorem Bts.made (w : World) (l : List UInt8) (cap : Nat) (hl : l.length ≤ cap) (hc : cap ≤ maxLen) :
    Bts (w.alloc (.cells (bytesRow ⟨l.toArray⟩ cap) 5 ((bytesRow ⟨l.toArray⟩ cap).size, (bytesRow ⟨l.toArray⟩ cap).size + 1))) w.heap.size w.heap.size cap l := by
  refine ⟨Nat.le_refl _, by simp, hl, hc, fun j b hj => ?_⟩
  have hjl := (List.getElem?_eq_some_iff.1 hj)
  obtain ⟨hjl, hje⟩ := hjl
  have hsz : l.length ≤ (bytesRow ⟨l.toArray⟩ cap).size := by simp [bytesRow]
  rw [World.cell?_alloc_mark, World.frozen?_alloc_mark, bytesRow_at _ _ _ (by simpa using hjl)]
  constructor
  · simp [hje]
  · simp; omega

/-- The frame of a draw behind an append to a row of the call's own. -/
theorem fr_grown {c : Nat} {a : Option Addr} {len cap : Nat} {w w' w2 : World} {row : Option Nat} (h : Fr c a len cap w w') (hc : c < w.heap.size) (hg : w'.grownBy w2 row) (hr : ∀ k, row = some k → w.heap.size ≤ k) : Fr c a len cap w w2 := by
  have hb : w2.heap[c]? = w'.heap[c]? := hg.block c h.cur.lt (fun e => by have := hr c e.symm; omega)
  have ho : Only c w w2 := ⟨hg.os.trans h.only.os, hg.tape.trans h.only.tape, hg.output.trans h.only.output, Nat.le_trans h.only.size hg.size, fun k hk hs =>
    (hg.block k (Nat.lt_of_lt_of_le hs h.only.size) (fun e => by have := hr k e.symm; omega)).trans (h.only.block k hk hs)⟩
  obtain ⟨hl, c0, ⟨i, hi, c1⟩, ⟨hh, c2⟩, f1, f2, hbt⟩ := h.cur
  have hcell (o : Nat) : w2.cell? ⟨c, o, none⟩ = w'.cell? ⟨c, o, none⟩ := World.cell?_of_block (a := ⟨c, o, none⟩) hb
  have hfro (o : Nat) : w2.frozen? ⟨c, o, none⟩ = w'.frozen? ⟨c, o, none⟩ := World.frozen?_of_block (a := ⟨c, o, none⟩) hb
  exact ⟨⟨Nat.lt_of_lt_of_le hl hg.size, (hcell 0).trans c0, ⟨i, hi, (hcell 1).trans c1⟩, ⟨hh, (hcell 2).trans c2⟩, (hfro 1).trans f1, (hfro 2).trans f2, h.bytes.only ho⟩, ho, h.bytes⟩

/-- append onto a row of the call's own, as one step of a region that draws. -/
theorem step_append_mine {P : Program} {ops : Array Oper} {o : Oper} {a : Act} {w : World} {K : Act → World → Prop} {Q : Exit → Act → World → Prop} {E : Prop}
    (hg : o.guard = none) (s x : Operand) (t : TypeId) (hop : o.op = Op.call { callee := Callee.builtin Builtin.append, args := #[s, x], argTypes := #[t, t] })
    (base : Nat) (e : TypeId) (i : TypeInfo) (z : Value) (size bytes : Nat) (h1 : P.underlying t = some (.slice e)) (h2 : P.info? e = some i) (h3 : i.zero = some z) (h4 : i.size = size) (h5 : i.bytes = bytes) (h6 : z.cells.size = size) (h7 : 0 < size)
    (v : Value) (n : Nat) (xs : List Value) (hs : a.eval s = v) (hown : w.ownsRow base e size v n xs)
    (ad : Addr) (m c : Nat) (news : List Value) (hx : a.eval x = .slice (some ad) m c) (hn : news.length = m * size) (hc : ∀ j u, news[j]? = some u → w.cell? (ad.add j) = some u) (h1c : ∀ u ∈ news, u.oneCell' = true)
    (b1 : n + m ≤ maxLen) (b2 : (n + m) * bytes ≤ 140737488355328) (hbase : base ≤ w.heap.size)
    (hK : ∀ v' w', w'.ownsRow base e size v' (n + m) (xs ++ news) → w.grownBy w' v.ownBlock → (v' = .slice none 0 0 ↔ v = .slice none 0 0 ∧ m = 0) → K (a.put o.dst v') w') :
    if Region.wanted o (yielded ops a.tmps) = true then Oper.wp P o a w K Q else E := by
  have hw : Region.wanted o (yielded ops a.tmps) = true := by simp [Region.wanted, hg]
  rw [if_pos hw]
  obtain ⟨v', w', hrun, r1, r2, r3⟩ := run_append_own (P := P) w base t o.type e i z size bytes h1 h2 h3 h4 h5 h6 h7 v n xs hown ad m c news hn hc h1c b1 b2 hbase
  unfold Oper.wp
  simp [execOp, hop, resolve, invoke, builtin, hs, hx, hrun, Result.andThen]
  exact hK v' w' r1 r2 r3

theorem infoByte : (Tryd.prog.info? 5).map (fun i => (i.zero, i.size, i.bytes)) = some (some (.int .u8 0), 1, 1) := by kernel_rfl

/-- string(b) of such a slice. -/
theorem Bts.text {w : World} {B g cap : Nat} {bs : List UInt8} (h : Bts w B g cap bs) : (convert 99 9 (.slice (some ⟨g, 0, none⟩) bs.length cap)).run Tryd.prog w = .ok (.string ⟨bs.toArray⟩) w :=
  run_convert_bytes_back (P := Tryd.prog) w 99 9 5 ⟨g, 0, none⟩ cap bs Tryd.underlying99 Tryd.underlying5 Tryd.underlying9 (fun j hj => by
    rw [show (⟨g, 0, none⟩ : Addr).add j = ⟨g, j, none⟩ by unfold Addr.add; split <;> simp_all]
    exact (h.2.2.2.2 j _ (List.getElem?_eq_getElem hj)).1)

/-- []byte(s). -/
theorem bytes_of (w : World) (l : List UInt8) (hl : l.length ≤ 1000000) :
    ∃ C W1 o, (convert 9 99 (.string ⟨l.toArray⟩)).run Tryd.prog w = .ok (.slice (some ⟨w.heap.size, 0, none⟩) l.length C) W1 ∧ W1 = w.drew.alloc o ∧ Bts W1 w.heap.size w.heap.size C l := by
  have hr := run_bytes_of_string (P := Tryd.prog) w 9 99 5 ⟨l.toArray⟩ Tryd.underlying9 Tryd.underlying99 Tryd.underlying5
  have hs : (ByteArray.mk l.toArray).size = l.length := by simp [ByteArray.size]
  rw [hs] at hr
  exact ⟨_, _, _, hr, rfl, Bts.made w.drew l _ (grownCap_ge w _ _ _) (grownCap_le_maxLen w _ _ _ (by simp [maxLen]; omega))⟩

/-- Behind the first append: a row of the call's own, the frame, the old bytes. -/
theorem first_own {c : Nat} {a : Option Addr} {len cap : Nat} {w wA w5 : World} {N B g C : Nat} {bs xs : List UInt8} {v5 : Value} {n : Nat} (hown : w5.ownsRow B 5 1 v5 n ([] ++ bytesV xs)) (hgrow : wA.grownBy w5 (Value.ownBlock (.slice (some ⟨N, 0, none⟩) 0 0))) {m : Nat} (hnil : v5 = .slice none 0 0 ↔ (Value.slice (some ⟨N, 0, none⟩) 0 0 = .slice none 0 0 ∧ m = 0))
    (hF : Fr c a len cap w wA) (hb : Bts wA B g C bs) (hN : B ≤ N) (hB : w.heap.size = B) (hc : c < B) (hgN : g ≠ N) (M : Nat) (hM : xs.length = M) :
    ∃ g5 C5, v5 = .slice (some ⟨g5, 0, none⟩) M C5 ∧ Fr c a len cap w w5 ∧ Bts w5 B g C bs ∧ B ≤ g5 ∧ g5 < w5.heap.size ∧ True := by
  subst hM
  obtain ⟨g5, C5, rfl, hb5⟩ := Bts.own (bs := xs) (by simpa using hown) (by rw [Ne, hnil]; simp)
  refine ⟨g5, C5, rfl, fr_grown hF (by omega) hgrow (fun k hk => ?_), hb.grown hgrow (by simp [Value.ownBlock, hgN]), hb5.1, hb5.2.1, trivial⟩
  simp [Value.ownBlock] at hk
  omega

/-- Behind a further append: a slice of bytes of the call's own. -/
theorem next_own {c : Nat} {a : Option Addr} {len cap : Nat} {w w5 w6 : World} {B g5 C5 n5 : Nat} {xs : List UInt8} {v6 : Value} {n m : Nat} (hown : w6.ownsRow B 5 1 v6 n (bytesV xs)) (hgrow : w5.grownBy w6 (Value.ownBlock (.slice (some ⟨g5, 0, none⟩) n5 C5))) (hnil : v6 = .slice none 0 0 ↔ (Value.slice (some ⟨g5, 0, none⟩) n5 C5 = .slice none 0 0 ∧ m = 0))
    (hF : Fr c a len cap w w5) (hg : B ≤ g5) (hB : w.heap.size = B) (hc : c < B) (M : Nat) (hM : xs.length = M) :
    ∃ g6 C6, v6 = .slice (some ⟨g6, 0, none⟩) M C6 ∧ Fr c a len cap w w6 ∧ Bts w6 B g6 C6 xs := by
  subst hM
  obtain ⟨g6, C6, rfl, hb6⟩ := Bts.own hown (by rw [Ne, hnil]; simp)
  refine ⟨g6, C6, rfl, fr_grown hF (by omega) hgrow (fun k hk => ?_), hb6⟩
  simp [Value.ownBlock] at hk
  omega

theorem own_only {w w' : World} {B e size n c : Nat} {v : Value} {xs : List Value} (h : w.ownsRow B e size v n xs) (ho : Only c w w') (hc : c < B) : w'.ownsRow B e size v n xs :=
  h.kept (row := some c) ⟨ho.os, ho.tape, ho.output, ho.size, fun k hk hne => ho.block k (by simpa using hne) hk⟩ (by
    cases hv : v.ownBlock with
    | none => exact Or.inl rfl
    | some k =>
      right
      have := (World.ownsRow.lt h k hv).1
      simp; omega)

theorem fr_size {c : Nat} {a : Option Addr} {len cap : Nat} {w w' : World} {B : Nat} (h : Fr c a len cap w w') (hB : w.heap.size = B) : B ≤ w'.heap.size := hB ▸ h.only.size

theorem sign_at (sg : List UInt8) (R : Nat) (h : R < sg.length) : ∃ y : UInt8, ∀ w, (Instr.index 9 (.string ⟨sg.toArray⟩) (.int .i64 (R : Int))).run Tryd.prog w = .ok (.int .u8 (y.toNat : Int)) w :=
  ⟨sg[R], fun w => str_at sg R _ (List.getElem?_eq_getElem h) w⟩

/-- A block of one cell behind an append to another row. -/
theorem one_kept {w w' : World} {x : Value} {N : Nat} {row : Option Nat} (h : ∀ j u, [x][j]? = some u → w.cell? ((⟨N, 0, none⟩ : Addr).add j) = some u) (hg : w.grownBy w' row) (hN : N < w.heap.size) (hr : some N ≠ row) : ∀ j u, [x][j]? = some u → w'.cell? ((⟨N, 0, none⟩ : Addr).add j) = some u := by
  intro j u hu
  have := h j u hu
  rw [add_zero_at] at this ⊢
  exact (World.cell?_of_block (a := ⟨N, j, none⟩) (hg.block N hN hr)).trans this

theorem one_alloc {w : World} {x : Value} {N : Nat} (h : ∀ j u, [x][j]? = some u → w.cell? ((⟨N, 0, none⟩ : Addr).add j) = some u) (hN : N < w.heap.size) (o : Obj) : ∀ j u, [x][j]? = some u → (w.alloc o).cell? ((⟨N, 0, none⟩ : Addr).add j) = some u := by
  intro j u hu
  have := h j u hu
  rw [add_zero_at] at this ⊢
  rw [World.cell?_alloc_lt _ _ _ hN]; exact this

theorem Bts.mono {w : World} {B B' g cap : Nat} {bs : List UInt8} (h : Bts w B' g cap bs) (hB : B ≤ B') : Bts w B g cap bs := ⟨Nat.le_trans hB h.1, h.2⟩

/-- Behind the first append, the new row's block above all that was there. -/
theorem first_own3 {c : Nat} {a : Option Addr} {len cap : Nat} {w wA w5 : World} {N B B4 g C : Nat} {bs xs : List UInt8} {v5 : Value} {n : Nat} (hown : w5.ownsRow B4 5 1 v5 n ([] ++ bytesV xs)) (hgrow : wA.grownBy w5 (Value.ownBlock (.slice (some ⟨N, 0, none⟩) 0 0))) {m : Nat} (hnil : v5 = .slice none 0 0 ↔ (Value.slice (some ⟨N, 0, none⟩) 0 0 = .slice none 0 0 ∧ m = 0))
    (hF : Fr c a len cap w wA) (hb : Bts wA B g C bs) (hN : B4 ≤ N) (hB : w.heap.size = B) (hBB : B ≤ B4) (hc : c < B) (hg4 : g < B4) (M : Nat) (hM : xs.length = M) :
    ∃ g5 C5, v5 = .slice (some ⟨g5, 0, none⟩) M C5 ∧ Fr c a len cap w w5 ∧ Bts w5 B g C bs ∧ B4 ≤ g5 ∧ wA.heap.size ≤ w5.heap.size := by
  subst hM
  obtain ⟨g5, C5, rfl, hb5⟩ := Bts.own (bs := xs) (by simpa using hown) (by rw [Ne, hnil]; simp)
  refine ⟨g5, C5, rfl, fr_grown hF (by omega) hgrow (fun k hk => ?_), hb.grown hgrow (by simp [Value.ownBlock]; omega), hb5.1, hgrow.size⟩
  simp [Value.ownBlock] at hk
  omega

/-- Behind an append in the middle: the row, the frame, the old bytes. -/
theorem more_own {c : Nat} {a : Option Addr} {len cap : Nat} {w w5 w6 : World} {B g C g5 C5 n5 n : Nat} {bs : List UInt8} {xs : List Value} {v6 : Value} {m : Nat} {B4 : Nat} (hown : w6.ownsRow B4 5 1 v6 n xs) (hgrow : w5.grownBy w6 (Value.ownBlock (.slice (some ⟨g5, 0, none⟩) n5 C5))) (hnil : v6 = .slice none 0 0 ↔ (Value.slice (some ⟨g5, 0, none⟩) n5 C5 = .slice none 0 0 ∧ m = 0))
    (hF : Fr c a len cap w w5) (hb : Bts w5 B g C bs) (hg : B4 ≤ g5) (hB : w.heap.size = B) (hBB : B ≤ B4) (hc : c < B) (hg4 : g < B4) (M : Nat) (hM : xs.length = M) :
    ∃ g6 C6, v6 = .slice (some ⟨g6, 0, none⟩) M C6 ∧ Fr c a len cap w w6 ∧ Bts w6 B g C bs ∧ B4 ≤ g6 ∧ w5.heap.size ≤ w6.heap.size := by
  have hn : n = M := by have := hown.1; omega
  subst hn
  rcases hown.2 with ⟨e, _⟩ | ⟨g6, cap6, cur, rfl, hb6, _⟩
  · exact absurd (hnil.1 e).1 (by simp)
  · refine ⟨g6, cap6, rfl, fr_grown hF (by omega) hgrow (fun k hk => ?_), hb.grown hgrow (by simp [Value.ownBlock]; omega), hb6, hgrow.size⟩
    simp [Value.ownBlock] at hk
    omega

theorem next_own3 {c : Nat} {a : Option Addr} {len cap : Nat} {w w5 w6 : World} {B B4 g5 C5 n5 : Nat} {xs : List UInt8} {v6 : Value} {n m : Nat} (hown : w6.ownsRow B4 5 1 v6 n (bytesV xs)) (hgrow : w5.grownBy w6 (Value.ownBlock (.slice (some ⟨g5, 0, none⟩) n5 C5))) (hnil : v6 = .slice none 0 0 ↔ (Value.slice (some ⟨g5, 0, none⟩) n5 C5 = .slice none 0 0 ∧ m = 0))
    (hF : Fr c a len cap w w5) (hg : B4 ≤ g5) (hB : w.heap.size = B) (hBB : B ≤ B4) (hc : c < B) (M : Nat) (hM : xs.length = M) :
    ∃ g6 C6, v6 = .slice (some ⟨g6, 0, none⟩) M C6 ∧ Fr c a len cap w w6 ∧ Bts w6 B g6 C6 xs := by
  subst hM
  obtain ⟨g6, C6, rfl, hb6⟩ := Bts.own hown (by rw [Ne, hnil]; simp)
  refine ⟨g6, C6, rfl, fr_grown hF (by omega) hgrow (fun k hk => ?_), hb6.mono hBB⟩
  simp [Value.ownBlock] at hk
  omega

/-- b[:k] and b[k:]. -/
theorem slice_to (g L C K : Nat) (h : K ≤ C) (w : World) : (Instr.slice 99 (.slice (some ⟨g, 0, none⟩) L C) none (some (.int .i64 (K : Int))) none).run Tryd.prog w = .ok (.slice (some ⟨g, 0, none⟩) K C) w := by
  have z3 := Tryd.sizeOf5
  have h' : (K : Int) ≤ (C : Int) := by omega
  by_cases hC : C = 0
  · subst hC
    obtain rfl : K = 0 := by omega
    go_simp
  · go_simp

theorem slice_from (g L C K : Nat) (h : K ≤ L) (hC : L ≤ C) (hne : C ≠ K) (w : World) : (Instr.slice 99 (.slice (some ⟨g, 0, none⟩) L C) (some (.int .i64 (K : Int))) none none).run Tryd.prog w = .ok (.slice (some ⟨g, K, none⟩) (L - K) (C - K)) w := by
  have z3 := Tryd.sizeOf5
  have h' : (K : Int) ≤ (L : Int) := by omega
  go_simp

theorem slice_end (g L C K : Nat) (h : K ≤ L) (hC : L ≤ C) (hne : C = K) (w : World) : (Instr.slice 99 (.slice (some ⟨g, 0, none⟩) L C) (some (.int .i64 (K : Int))) none none).run Tryd.prog w = .ok (.slice (some ⟨g, 0, none⟩) 0 0) w := by
  have z3 := Tryd.sizeOf5
  subst hne
  obtain rfl : L = C := by omega
  have h' : (L : Int) ≤ (L : Int) := by omega
  go_simp

/-- What a draw of a text answers. -/
def DrawnText (most : Nat) (c : Nat) (a : Option Addr) (len cap : Nat) (w : World) (e : Ending) (w' : World) : Prop :=
  ∃ t : List UInt8, t.length ≤ most ∧ e = .returned (.string ⟨t.toArray⟩) ∧ Cur w' c a len cap ∧ Only c w w'

theorem below_nat {n : Int} {m : Nat} (h : InBelow (m : Int) n) (hm : 0 < m) : ∃ k : Nat, n = (k : Int) ∧ k < m := by
  obtain ⟨h0, h1, _⟩ := h
  have := h1 (by omega)
  exact ⟨n.toNat, by omega, by omega⟩

theorem below_four {n : Int} (h : InBelow 4 n) : n = 0 ∨ n = 1 ∨ n = 2 ∨ n = 3 := by
  obtain ⟨h0, h1, _⟩ := h
  have := h1 (by omega); omega

end Go.Proofs.YtmcjfjchpclamaaDoor.DB
