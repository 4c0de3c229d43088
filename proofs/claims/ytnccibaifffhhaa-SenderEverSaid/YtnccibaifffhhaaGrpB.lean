/- Several texts in one. -/
import Derived.Test.YtnccibaifffhhaaGrpA
import Derived.Maps.AppendAt
import Derived.OwnWalk
import Derived.Laws.OwnMore
import Derived.Deep.RegionHeld3
/- Rows of ranges in memory: two cells a range. Nothing of the program's but the types' numbers. -/
namespace Go.Proofs.Ytnccibaifffhhaa.P
set_option linter.unusedVariables false
open Go.RowKit

/-- the cells of ranges, one behind the other -/
def cellsR (ps : List (Int × Int)) : List Value := ps.flatMap fun p => [.int .i64 p.1, .int .i64 p.2]
theorem cellsR_len (ps : List (Int × Int)) : (cellsR ps).length = ps.length * 2 := by
  induction ps with
  | nil => rfl
  | cons p ps ih => simp only [cellsR, List.flatMap_cons, List.length_append, List.length_cons, List.length_nil] at ih ⊢; omega
theorem cellsR_app (ps qs : List (Int × Int)) : cellsR (ps ++ qs) = cellsR ps ++ cellsR qs := by simp [cellsR]
theorem cellsR_at (ps : List (Int × Int)) (j : Nat) (h : j < ps.length) :
    (cellsR ps)[j * 2]? = some (.int .i64 (ps.getD j (0, 0)).1) ∧ (cellsR ps)[j * 2 + 1]? = some (.int .i64 (ps.getD j (0, 0)).2) := by
  induction ps generalizing j with
  | nil => simp at h
  | cons p ps ih =>
    have e : cellsR (p :: ps) = .int .i64 p.1 :: .int .i64 p.2 :: cellsR ps := rfl
    cases j with
    | zero => rw [e]; exact ⟨rfl, rfl⟩
    | succ j =>
      have := ih j (by simpa using h)
      rw [e, show (j + 1) * 2 = j * 2 + 1 + 1 from by omega]
      simpa using this
theorem cellsR_one (ps : List (Int × Int)) : ∀ u ∈ cellsR ps, u.oneCell' = true := by
  intro u hu
  obtain ⟨p, _, hp⟩ := List.mem_flatMap.1 hu
  rcases List.mem_cons.1 hp with rfl | hp
  · rfl
  · rcases List.mem_cons.1 hp with rfl | hp
    · rfl
    · cases hp

/-- 'A' leads to a row below block B whose cells are the ranges ps; where ps is empty nothing is said of A -/
def RRow (w : World) (B : Nat) (A : Option Addr) (ps : List (Int × Int)) : Prop :=
  0 < ps.length → ∃ b off, A = some ⟨b, off, none⟩ ∧ b < B ∧ ∀ j, j < ps.length →
    w.cell? ⟨b, off + j * 2, none⟩ = some (.int .i64 (ps.getD j (0, 0)).1) ∧ w.cell? ⟨b, off + j * 2 + 1, none⟩ = some (.int .i64 (ps.getD j (0, 0)).2)

theorem bt {a b c : World} (h : Below a.heap.size a b) (k : Below b.heap.size b c) : Below a.heap.size a c := h.trans (k.mono h.size)
theorem RRow.nil (w : World) (B : Nat) (A : Option Addr) : RRow w B A [] := fun h => absurd h (by simp)
theorem RRow.keep {w w' : World} {B : Nat} {A : Option Addr} {ps : List (Int × Int)} (h : RRow w B A ps) (hk : ∀ p : Addr, p.block < B → w'.cell? p = w.cell? p) : RRow w' B A ps := fun hn => by
  obtain ⟨b, off, e, hb, hc⟩ := h hn
  exact ⟨b, off, e, hb, fun j hj => ⟨(hk _ hb).trans (hc j hj).1, (hk _ hb).trans (hc j hj).2⟩⟩
theorem RRow.more {w : World} {B B' : Nat} {A : Option Addr} {ps : List (Int × Int)} (h : RRow w B A ps) (hB : B ≤ B') : RRow w B' A ps := fun hn => by
  obtain ⟨b, off, e, hb, hc⟩ := h hn
  exact ⟨b, off, e, by omega, hc⟩
theorem RRow.below {w w' : World} {B : Nat} {A : Option Addr} {ps : List (Int × Int)} (h : RRow w B A ps) (hb : Below B w w') : RRow w' B A ps := h.keep fun _ hp => hb.cell hp
theorem RRow.on {w w' : World} {A : Option Addr} {ps : List (Int × Int)} (h : RRow w w.heap.size A ps) (hb : Below w.heap.size w w') : RRow w' w'.heap.size A ps := (h.below hb).more hb.size
theorem getR_take {ps : List (Int × Int)} {k j : Nat} (h : j < k) : (ps.take k).getD j (0, 0) = ps.getD j (0, 0) := by
  rw [List.getD_eq_getElem?_getD, List.getElem?_take, if_pos h, ← List.getD_eq_getElem?_getD]
theorem getR_drop {ps : List (Int × Int)} {k j : Nat} : (ps.drop k).getD j (0, 0) = ps.getD (k + j) (0, 0) := by
  rw [List.getD_eq_getElem?_getD, List.getElem?_drop, ← List.getD_eq_getElem?_getD]
theorem RRow.take {w : World} {B : Nat} {A : Option Addr} {ps : List (Int × Int)} (h : RRow w B A ps) (k : Nat) : RRow w B A (ps.take k) := fun hn => by
  rw [List.length_take] at hn
  obtain ⟨b, off, e, hb, hc⟩ := h (by omega)
  refine ⟨b, off, e, hb, fun j hj => ?_⟩
  rw [List.length_take] at hj
  rw [getR_take (by omega)]
  exact hc j (by omega)
/-- the cells of a row, the model's way -/
theorem RRow.cells {w : World} {B b off : Nat} {ps : List (Int × Int)} (h : RRow w B (some ⟨b, off, none⟩) ps) : ∀ j u, (cellsR ps)[j]? = some u → w.cell? ⟨b, off + j, none⟩ = some u := by
  intro j u hj
  have hl := (List.getElem?_eq_some_iff.1 hj).1
  rw [cellsR_len] at hl
  obtain ⟨b', off', e, _, hc⟩ := h (by omega)
  cases e
  have hat := cellsR_at ps (j / 2) (by omega)
  have hc' := hc (j / 2) (by omega)
  rcases Nat.mod_two_eq_zero_or_one j with h2 | h2
  · rw [show j = j / 2 * 2 from by omega] at hj ⊢
    rw [hat.1] at hj
    rw [hc'.1]; exact hj
  · rw [show j = j / 2 * 2 + 1 from by omega] at hj ⊢
    rw [hat.2] at hj
    rw [← Nat.add_assoc, hc'.2]; exact hj
/-- an owned row of ranges, as a row that reads -/
theorem own_rrow {w : World} {base e n : Nat} {A : Option Addr} {c : Nat} {ps : List (Int × Int)} (h : w.ownsRow base e 2 (.slice A n c) n (cellsR ps)) : RRow w w.heap.size A ps ∧ ps.length = n := by
  have hl : ps.length = n := by have := h.1; rw [cellsR_len] at this; omega
  refine ⟨fun hp => ?_, hl⟩
  rcases h.2 with ⟨hv, h0⟩ | ⟨g, cap, cur, hv, _, hh, _⟩
  · omega
  · injection hv with hA _ hc
    subst hA hc
    have hlt : g < w.heap.size := by
      rcases Nat.lt_or_ge g w.heap.size with hlt | hge
      · exact hlt
      · rw [Array.getElem?_eq_none hge] at hh; cases hh
    refine ⟨g, 0, rfl, hlt, fun j hj => ?_⟩
    have hat := cellsR_at ps j hj
    rw [Nat.zero_add, h.cellAt (j * 2) (by omega), h.cellAt (j * 2 + 1) (by omega)]
    have x1 := List.getElem?_eq_some_iff.1 hat.1
    have x2 := List.getElem?_eq_some_iff.1 hat.2
    exact ⟨by simpa using hat.1, by simpa using hat.2⟩
theorem cells_new (w : World) (lo hi : Int) (t : TypeId) : ∀ j u, (cellsR [(lo, hi)])[j]? = some u → (w.alloc (.cells #[.int .i64 lo, .int .i64 hi] t)).cell? ((⟨w.heap.size, 0, none⟩ : Addr).add j) = some u := by
  intro j u hj
  match j, hj with
  | 0, hj => simp [cellsR] at hj; subst hj; simp [Addr.add]
  | 1, hj => simp [cellsR] at hj; subst hj; simp [Addr.add]
  | j + 2, hj => simp [cellsR] at hj

/-- 'v' owns the ranges qs, in a block of its own from 'base' on -/
def OwnR (w : World) (base : Nat) (e : TypeId) (v : Value) (qs : List (Int × Int)) : Prop := w.ownsRow base e 2 v qs.length (cellsR qs)
theorem OwnR.nil (w : World) (base : Nat) (e : TypeId) : OwnR w base e (.slice none 0 0) [] := ⟨rfl, .inl ⟨rfl, rfl⟩⟩
theorem OwnR.lt {w : World} {base : Nat} {e : TypeId} {v : Value} {qs : List (Int × Int)} (h : OwnR w base e v qs) : ∀ g, v.ownBlock = some g → base ≤ g ∧ g < w.heap.size := by
  intro g hg
  rcases h.2 with ⟨rfl, _⟩ | ⟨g', cap, cur, rfl, hb, hh, _⟩
  · cases hg
  · have : g' = g := by simpa [Value.ownBlock] using hg
    subst this
    refine ⟨hb, ?_⟩
    rcases Nat.lt_or_ge g' w.heap.size with hlt | hge
    · exact hlt
    · rw [Array.getElem?_eq_none hge] at hh; cases hh
theorem OwnR.slice {w : World} {base : Nat} {e : TypeId} {v : Value} {qs : List (Int × Int)} (h : OwnR w base e v qs) : ∃ A c, v = .slice A qs.length c ∧ qs.length ≤ c ∧ c ≤ maxLen ∧ RRow w w.heap.size A qs := by
  have h' := h
  rcases h.2 with ⟨rfl, h0⟩ | ⟨g, cap, cur, rfl, _, _, h1, h2, _⟩
  · have e0 : qs = [] := List.eq_nil_of_length_eq_zero h0
    subst e0
    exact ⟨none, 0, rfl, Nat.le_refl _, by unfold maxLen; omega, RRow.nil _ _ _⟩
  · exact ⟨_, _, rfl, h1, h2, (own_rrow h').1⟩
theorem OwnR.alloc {w : World} {base : Nat} {e : TypeId} {v : Value} {qs : List (Int × Int)} (h : OwnR w base e v qs) (o : Obj) : OwnR (w.alloc o) base e v qs := World.ownsRow.alloc h o
theorem OwnR.drew {w : World} {base : Nat} {e : TypeId} {v : Value} {qs : List (Int × Int)} (h : OwnR w base e v qs) : OwnR w.drew base e v qs := h

/-- a row of the call's own has grown: what was there is as it was, but for that row -/
structure GrowR (base : Nat) (w w' : World) (v : Value) : Prop where
  below : Below base w w'
  size : w.heap.size ≤ w'.heap.size
  keeps : ∀ (p : Addr) (u : Value), w.cell? p = some u → some p.block ≠ v.ownBlock → w'.cell? p = some u
theorem GrowR.of {base : Nat} {w w' : World} {v : Value} {e : TypeId} {qs : List (Int × Int)} (o : Obj) (ho : OwnR w base e v qs) (hb : base ≤ w.heap.size) (hg : (w.alloc o).grownBy w' v.ownBlock) : GrowR base w w' v := by
  have h1 : Below base w w' := ((Below.refl _ _).alloc hb o).grown hg (by simp; omega) (fun k hk => (ho.lt k hk).1)
  have h2 := ((Below.refl (w.heap.size) w).alloc (Nat.le_refl _) o).size
  refine ⟨h1, h1.size, fun p u hu hne => ?_⟩
  refine hg.cell ?_ hne
  rw [World.cell?_alloc_lt _ _ _ (World.block_lt_of_cell? w p hu)]
  exact hu
theorem GrowR.refl (base : Nat) (w : World) (v : Value) : GrowR base w w v := ⟨Below.refl _ _, Nat.le_refl _, fun _ _ h _ => h⟩

theorem add_plain2 (b off j : Nat) : (⟨b, off, none⟩ : Addr).add j = ⟨b, off + j, none⟩ := Go.WideShapes.add_plain b off j
theorem run_appR {P : Program} (w : World) (base : Nat) (t ty e : TypeId) (i : TypeInfo) (z : Value) (ht : P.underlying t = some (.slice e)) (hi : P.info? e = some i) (hz : i.zero = some z) (hsize : i.size = 2) (hby : i.bytes = 16) (hzs : z.cells.size = 2)
    (v : Value) (qs : List (Int × Int)) (hown : OwnR w base e v qs) (B : Nat) (A : Option Addr) (m c : Nat) (zs : List (Int × Int)) (hr : RRow w B A zs) (hm : zs.length = m)
    (hbytes : (qs.length + m) * 16 ≤ 140737488355328) (hbase : base ≤ w.heap.size) :
    ∃ v' w', (Builtin.append_ #[t, t] ty #[v, .slice A m c]).run P w = .ok v' w' ∧ OwnR w' base e v' (qs ++ zs) ∧ w.grownBy w' v.ownBlock := by
  rcases A with _ | ad
  · have h0 : m = 0 := by
      rcases Nat.eq_zero_or_pos zs.length with h | h
      · omega
      · obtain ⟨b, off, e, _⟩ := hr h; cases e
    subst h0
    have hz0 : zs = [] := List.eq_nil_of_length_eq_zero hm
    subst hz0
    refine ⟨v, w, ?_, by simpa using hown, World.grownBy.refl w _⟩
    rcases hown.2 with ⟨rfl, _⟩ | ⟨g, cap, cur, rfl, _, _, hnc, _⟩
    · simp [Builtin.append_, run_underlying ht, sizeOf, typeInfo, hi, Builtin.lenOf, Builtin.firstCells]
    · simp [Builtin.append_, run_underlying ht, sizeOf, typeInfo, hi, Builtin.lenOf, Builtin.firstCells, hnc, storeCells]
  · have hn : ∀ j u, (cellsR zs)[j]? = some u → w.cell? (ad.add j) = some u := by
      intro j u hj
      have hl := (List.getElem?_eq_some_iff.1 hj).1
      rw [cellsR_len] at hl
      obtain ⟨b, off, e, _, _⟩ := hr (by omega)
      cases e
      rw [add_plain2]
      exact hr.cells j u hj
    obtain ⟨v', w', hrun, h2, h3, _, _⟩ := run_append_own_at (P := P) w base t ty e i z 2 16 ht hi hz hsize hby hzs (by decide) v qs.length (cellsR qs) hown ad m c (cellsR zs) (by rw [cellsR_len, hm]) hn
      (cellsR_one zs) (by unfold maxLen; omega) hbytes hbase
    refine ⟨v', w', hrun, ?_, h3⟩
    unfold OwnR
    rw [List.length_append, hm, cellsR_app]
    exact h2

theorem wpList_appR {P : Program} (w : World) {ops : Array Oper} {rest : List Oper} {o : Oper} {a : Act} {Q : Exit → Act → World → Prop} (hgd : o.guard = none) (s x : Operand) (t : TypeId)
    (ho : o.op = .call { callee := .builtin .append, args := #[s, x], argTypes := #[t, t] })
    (base : Nat) (e : TypeId) (i : TypeInfo) (z : Value) (ht : P.underlying t = some (.slice e)) (hi : P.info? e = some i) (hz : i.zero = some z) (hsize : i.size = 2) (hby : i.bytes = 16) (hzs : z.cells.size = 2)
    (v : Value) (qs : List (Int × Int)) (hs : a.eval s = v) (hown : OwnR w base e v qs) (B : Nat) (A : Option Addr) (m c : Nat) (zs : List (Int × Int)) (hx : a.eval x = .slice A m c) (hr : RRow w B A zs) (hm : zs.length = m)
    (hbytes : (qs.length + m) * 16 ≤ 140737488355328) (hbase : base ≤ w.heap.size)
    (h : ∀ v' w', OwnR w' base e v' (qs ++ zs) → w.grownBy w' v.ownBlock → wpList P ops Q rest (a.put o.dst v') w') :
    wpList P ops Q (o :: rest) a w := by
  refine wpList_plain hgd fun K hK => ?_
  obtain ⟨v', w', hrun, h2, h3⟩ := run_appR (P := P) w base t o.type e i z ht hi hz hsize hby hzs v qs hown B A m c zs hr hm hbytes hbase
  unfold Oper.wp execOp
  simp only [ho, resolve, invoke, builtin, Sem.run_bind, Sem.run_pure, Result.andThen_ok, List.map_toArray, List.map_cons, List.map_nil, hs, hx, hrun]
  exact hK _ _ (h v' w' h2 h3)
/-- a cut of a row behind its k first ranges, in the model's own form -/
theorem RRow.cut {w : World} {B : Nat} {A : Option Addr} {ps : List (Int × Int)} (h : RRow w B A ps) (k cap : Nat) (hc : ps.length ≤ cap) : RRow w B (if cap = k then A else A.map (·.add (k * 2))) (ps.drop k) := fun hn => by
  rw [List.length_drop] at hn
  obtain ⟨b, off, rfl, hb, hcell⟩ := h (by omega)
  rw [if_neg (by omega)]
  refine ⟨b, off + k * 2, by simp [add_plain2], hb, fun j hj => ?_⟩
  rw [List.length_drop] at hj
  rw [getR_drop, show off + k * 2 + j * 2 = off + (k + j) * 2 from by omega]
  exact hcell (k + j) (by omega)
/-- one new range, in a block of its own -/
theorem RRow.one (w : World) (lo hi : Int) (t : TypeId) : RRow (w.alloc (.cells #[.int .i64 lo, .int .i64 hi] t)) (w.heap.size + 1) (some ⟨w.heap.size, 0, none⟩) [(lo, hi)] := fun _ =>
  ⟨_, 0, rfl, by omega, fun j hj => by
    have : j = 0 := by simpa using hj
    subst this
    constructor <;> simp⟩
end Go.Proofs.Ytnccibaifffhhaa.P
/- A frame as a value: seven cells, two of them rows. Nothing of the program's. -/
namespace Go.Proofs.Ytnccibaifffhhaa.P
set_option linter.unusedVariables false
open Go.RowKit

/-- a slice of ranges that reads as ps, a slice of bytes that reads as zs, below block B -/
structure RSl (w : World) (B : Nat) (v : Value) (ps : List (Int × Int)) : Prop where
  ex : ∃ A c, v = .slice A ps.length c ∧ ps.length ≤ c ∧ c ≤ maxLen ∧ RRow w B A ps
structure BSl (w : World) (B : Nat) (v : Value) (zs : List Int) : Prop where
  ex : ∃ A c, v = .slice A zs.length c ∧ zs.length ≤ c ∧ c ≤ maxLen ∧ (A = none → c = 0) ∧ BRow w B A zs
/-- the seven cells of a frame whose slices are r and d -/
def frCells (f : Fr) (r d : Value) : Array Value := #[.int .i64 f.kind, .int .i64 f.id, .int .i64 f.off, .bool f.fin, .int .i64 f.code, r, d]
/-- v says the frame f; its rows lie below block B -/
structure FrVal (w : World) (B : Nat) (v : Value) (f : Fr) : Prop where
  ex : ∃ r d, v = .agg #[.int .i64 f.kind, .int .i64 f.id, .int .i64 f.off, .bool f.fin, .int .i64 f.code, r, d] ∧ RSl w B r f.rs ∧ BSl w B d f.data
/-- its numbers fit -/
structure FrWf (f : Fr) : Prop where
  kind : (Lit.int .i64 f.kind).wf = true
  id : (Lit.int .i64 f.id).wf = true
  off : (Lit.int .i64 f.off).wf = true
  code : (Lit.int .i64 f.code).wf = true
theorem BRow.on {w w' : World} {A : Option Addr} {zs : List Int} (h : BRow w w.heap.size A zs) (hb : Below w.heap.size w w') : BRow w' w'.heap.size A zs := (h.below hb).more hb.size
theorem RSl.below {w w' : World} {B : Nat} {v : Value} {ps : List (Int × Int)} (h : RSl w B v ps) (hb : Below B w w') : RSl w' B v ps := by
  obtain ⟨A, c, rfl, h1, h2, h3⟩ := h.ex
  exact ⟨A, c, rfl, h1, h2, h3.below hb⟩
theorem RSl.more {w : World} {B B' : Nat} {v : Value} {ps : List (Int × Int)} (h : RSl w B v ps) (hB : B ≤ B') : RSl w B' v ps := by
  obtain ⟨A, c, rfl, h1, h2, h3⟩ := h.ex
  exact ⟨A, c, rfl, h1, h2, h3.more hB⟩
theorem BSl.below {w w' : World} {B : Nat} {v : Value} {zs : List Int} (h : BSl w B v zs) (hb : Below B w w') : BSl w' B v zs := by
  obtain ⟨A, c, rfl, h1, h2, h3, h4⟩ := h.ex
  exact ⟨A, c, rfl, h1, h2, h3, h4.below hb⟩
theorem BSl.more {w : World} {B B' : Nat} {v : Value} {zs : List Int} (h : BSl w B v zs) (hB : B ≤ B') : BSl w B' v zs := by
  obtain ⟨A, c, rfl, h1, h2, h3, h4⟩ := h.ex
  exact ⟨A, c, rfl, h1, h2, h3, h4.more hB⟩
theorem FrVal.below {w w' : World} {B : Nat} {v : Value} {f : Fr} (h : FrVal w B v f) (hb : Below B w w') : FrVal w' B v f := by
  obtain ⟨r, d, rfl, hr, hd⟩ := h.ex
  exact ⟨r, d, rfl, hr.below hb, hd.below hb⟩
theorem FrVal.more {w : World} {B B' : Nat} {v : Value} {f : Fr} (h : FrVal w B v f) (hB : B ≤ B') : FrVal w B' v f := by
  obtain ⟨r, d, rfl, hr, hd⟩ := h.ex
  exact ⟨r, d, rfl, hr.more hB, hd.more hB⟩
theorem FrVal.on {w w' : World} {v : Value} {f : Fr} (h : FrVal w w.heap.size v f) (hb : Below w.heap.size w w') : FrVal w' w'.heap.size v f := (h.below hb).more hb.size
theorem RSl.nil (w : World) (B : Nat) : RSl w B (.slice none 0 0) [] := ⟨none, 0, rfl, Nat.le_refl _, by unfold maxLen; omega, RRow.nil _ _ _⟩
theorem BSl.nil (w : World) (B : Nat) : BSl w B (.slice none 0 0) [] := ⟨none, 0, rfl, Nat.le_refl _, by unfold maxLen; omega, fun _ => rfl, BRow.nil _ _ _⟩

/-- which of some parts, bit by bit, are there -/
def maskOf (k : Int) : Int := if k = 2 then 64 else if k = 4 then 11 else if k = 5 then 9 else if k = 6 then 34 else if k = 7 then 32 else if k = 8 then 39 else if k = 16 then 2 else if k = 17 then 3 else if k = 18 then 2 else if k = 26 then 24 else if k = 27 then 24 else if k = 28 then 8 else 0
def hasM (m x : Int) : Bool := decide (bits .and .u64 m x = x)
def mbV (h : Bool) (n : Int) : Bool := !numBad h n
def inBV (m id off code n : Int) : Bool := mbV (hasM m 1) id && mbV (hasM m 2) off && mbV (hasM m 8) code && (!hasM m 34 || decide (off + n ≤ 4611686018427387903))
def inFV (m : Int) (f : Fr) : Bool := !(decide (0 < f.data.length) && !hasM m 32) && !(f.fin && !hasM m 4) && (decide (0 < f.rs.length) == hasM m 64) && decide (downL f.rs)
theorem mask_of {k : Int} {s : List Int} (h : partsOf k = some s) : hasM (maskOf k) 1 = decide (105 ∈ s) ∧ hasM (maskOf k) 2 = decide (111 ∈ s) ∧ hasM (maskOf k) 4 = decide (102 ∈ s) ∧ hasM (maskOf k) 8 = (decide (99 ∈ s) || decide (119 ∈ s)) ∧ hasM (maskOf k) 16 = decide (119 ∈ s) ∧
    hasM (maskOf k) 32 = decide (100 ∈ s) ∧ hasM (maskOf k) 64 = decide (114 ∈ s) ∧ hasM (maskOf k) 34 = (decide (111 ∈ s) && decide (100 ∈ s)) := by
  rcases parts_cases h with ⟨rfl, rfl | rfl | rfl⟩ | ⟨rfl, rfl⟩ | ⟨rfl, rfl⟩ | ⟨rfl, rfl⟩ | ⟨rfl, rfl⟩ | ⟨rfl, rfl⟩ | ⟨rfl, rfl⟩ | ⟨rfl, rfl | rfl⟩ | ⟨rfl, rfl⟩ | ⟨rfl, rfl | rfl⟩ | ⟨rfl, rfl⟩
  all_goals decide +kernel
theorem faultF_no {f : Fr} (h : partsOf f.kind = none) : faultF f = 2 := by unfold faultF; rw [h]
theorem faultF_some {f : Fr} {s : List Int} (h : partsOf f.kind = some s) : faultF f = if 120 < f.data.length ∨ 6 < f.rs.length then 1 else if inBV (maskOf f.kind) f.id f.off f.code f.data.length = false then 6 else if inFV (maskOf f.kind) f = false then 3 else 0 := by
  obtain ⟨h1, h2, h3, h4, h5, h6, h7, h8⟩ := mask_of h
  unfold faultF
  rw [h]
  simp only
  by_cases c1 : 120 < f.data.length ∨ 6 < f.rs.length
  · rw [if_pos c1, if_pos c1]
  rw [if_neg c1, if_neg c1]
  have hI : ∀ b, (!numBad (decide (105 ∈ s)) f.id && !numBad (decide (111 ∈ s)) f.off && !numBad (decide (99 ∈ s) || decide (119 ∈ s)) f.code && (!(decide (111 ∈ s) && decide (100 ∈ s)) || decide (f.off + f.data.length ≤ 4611686018427387903))) = b → inBV (maskOf f.kind) f.id f.off f.code f.data.length = b := by
    intro b hb
    unfold inBV mbV
    rw [h1, h2, h4, h8]
    exact hb
  have hF : ∀ b, (!(decide (0 < f.data.length) && !decide (100 ∈ s)) && !(f.fin && !decide (102 ∈ s)) && (decide (0 < f.rs.length) == decide (114 ∈ s)) && decide (downL f.rs)) = b → inFV (maskOf f.kind) f = b := by
    intro b hb
    unfold inFV
    rw [h3, h6, h7]
    exact hb
  by_cases c2 : numBad (decide (105 ∈ s)) f.id = true ∨ numBad (decide (111 ∈ s)) f.off = true ∨ numBad (decide (99 ∈ s) || decide (119 ∈ s)) f.code = true
  · have e := hI false (by rcases c2 with e | e | e <;> simp [e])
    rw [if_pos c2, if_pos e]
  rw [if_neg c2]
  simp only [not_or, Bool.not_eq_true] at c2
  obtain ⟨e1, e2, e3⟩ := c2
  by_cases c3 : 111 ∈ s ∧ 100 ∈ s ∧ 4611686018427387903 < f.off + f.data.length
  · have g : decide (f.off + (f.data.length : Int) ≤ 4611686018427387903) = false := decide_eq_false (by omega)
    have e := hI false (by rw [g]; simp [c3.1, c3.2.1])
    rw [if_pos c3, if_pos e]
  rw [if_neg c3]
  have e := hI true (by
    rw [e1, e2, e3]
    by_cases a : 111 ∈ s
    · by_cases b : 100 ∈ s
      · have : decide (f.off + (f.data.length : Int) ≤ 4611686018427387903) = true := by
          refine decide_eq_true (Int.not_lt.1 fun c => c3 ⟨a, b, c⟩)
        rw [this]; simp
      · simp [b]
    · simp [a])
  rw [if_neg (by rw [e]; decide : ¬ inBV (maskOf f.kind) f.id f.off f.code f.data.length = false)]
  by_cases c4 : decide (0 < f.rs.length) ≠ decide (114 ∈ s) ∨ ¬ downL f.rs ∨ (0 < f.data.length ∧ 100 ∉ s) ∨ (f.fin = true ∧ 102 ∉ s)
  · have k := hF false (by
      rcases c4 with e | e | e | e
      · have : (decide (0 < f.rs.length) == decide (114 ∈ s)) = false := by simpa using e
        rw [this]; simp
      · simp [e]
      · simp [e.1, e.2]
      · simp [e.1, e.2])
    rw [if_pos c4, if_pos k]
  · have k := hF true (by
      have d1 : decide (0 < f.rs.length) = decide (114 ∈ s) := Decidable.byContradiction fun e => c4 (.inl e)
      have d2 : downL f.rs := Decidable.byContradiction fun e => c4 (.inr (.inl e))
      have d3 : (decide (0 < f.data.length) && !decide (100 ∈ s)) = false := by
        by_cases a : 0 < f.data.length
        · by_cases b : 100 ∈ s
          · simp [b]
          · exact absurd (.inr (.inr (.inl ⟨a, b⟩))) c4
        · simp [a]
      have d4 : (f.fin && !decide (102 ∈ s)) = false := by
        cases a : f.fin
        · rfl
        · by_cases b : 102 ∈ s
          · simp [b]
          · exact absurd (.inr (.inr (.inr ⟨a, b⟩))) c4
      rw [d1, d3, d4]
      simp [d2])
    rw [if_neg c4, if_neg (by rw [k]; decide : ¬ inFV (maskOf f.kind) f = false)]
end Go.Proofs.Ytnccibaifffhhaa.P
/- Rows in memory whose elements are laid as so many cells each, whatever the elements are: read, cut, appended to. Nothing of the program's. -/
namespace Go.Proofs.Ytnccibaifffhhaa.P
set_option linter.unusedVariables false
open Go.RowKit

/-- how an element is laid: so many cells -/
structure Lay (α : Type) where
  f : α → List Value
  k : Nat
  len : ∀ x, (f x).length = k
  one : ∀ x, ∀ u ∈ f x, u.oneCell' = true
  pos : 0 < k
section
variable {α : Type} (E : Lay α)
def Lay.cat (xs : List α) : List Value := xs.flatMap E.f
theorem Lay.cat_len (xs : List α) : (E.cat xs).length = xs.length * E.k := by
  induction xs with
  | nil => simp [Lay.cat]
  | cons x xs ih => simp only [Lay.cat, List.flatMap_cons, List.length_append, List.length_cons, E.len, Nat.succ_mul] at ih ⊢; omega
theorem Lay.cat_app (xs ys : List α) : E.cat (xs ++ ys) = E.cat xs ++ E.cat ys := by simp [Lay.cat]
theorem Lay.cat_one (xs : List α) : ∀ u ∈ E.cat xs, u.oneCell' = true := by
  intro u hu
  obtain ⟨x, _, hx⟩ := List.mem_flatMap.1 hu
  exact E.one x u hx
theorem Lay.cat_at (xs : List α) (j i : Nat) (h : j < xs.length) (hi : i < E.k) : (E.cat xs)[j * E.k + i]? = (E.f xs[j])[i]? := by
  induction xs generalizing j with
  | nil => cases h
  | cons x xs ih =>
    have e : E.cat (x :: xs) = E.f x ++ E.cat xs := rfl
    rw [e]
    cases j with
    | zero => rw [Nat.zero_mul, Nat.zero_add, List.getElem?_append_left (by rw [E.len]; exact hi)]; rfl
    | succ j =>
      rw [List.getElem?_append_right (by rw [E.len, Nat.succ_mul]; omega), E.len, show (j + 1) * E.k + i - E.k = j * E.k + i by rw [Nat.succ_mul]; omega, ih j (by simpa using h)]
      rfl
/-- 'A' leads to a row below block B that reads as xs; where xs is empty nothing is said of A -/
def RowE (w : World) (B : Nat) (A : Option Addr) (xs : List α) : Prop :=
  0 < xs.length → ∃ b off, A = some ⟨b, off, none⟩ ∧ b < B ∧ ∀ j u, (E.cat xs)[j]? = some u → w.cell? ⟨b, off + j, none⟩ = some u
variable {E}
theorem RowE.nil (w : World) (B : Nat) (A : Option Addr) : RowE E w B A [] := fun h => absurd h (by simp)
theorem RowE.keep {w w' : World} {B : Nat} {A : Option Addr} {xs : List α} (h : RowE E w B A xs) (hk : ∀ p : Addr, p.block < B → w'.cell? p = w.cell? p) : RowE E w' B A xs := fun hn => by
  obtain ⟨b, off, e, hb, hc⟩ := h hn
  exact ⟨b, off, e, hb, fun j u hj => (hk _ hb).trans (hc j u hj)⟩
theorem RowE.more {w : World} {B B' : Nat} {A : Option Addr} {xs : List α} (h : RowE E w B A xs) (hB : B ≤ B') : RowE E w B' A xs := fun hn => by
  obtain ⟨b, off, e, hb, hc⟩ := h hn
  exact ⟨b, off, e, by omega, hc⟩
theorem RowE.below {w w' : World} {B : Nat} {A : Option Addr} {xs : List α} (h : RowE E w B A xs) (hb : Below B w w') : RowE E w' B A xs := h.keep fun _ hp => hb.cell hp
theorem RowE.on {w w' : World} {A : Option Addr} {xs : List α} (h : RowE E w w.heap.size A xs) (hb : Below w.heap.size w w') : RowE E w' w'.heap.size A xs := (h.below hb).more hb.size
theorem RowE.grown {w w' : World} {B b off : Nat} {xs : List α} {k : Option Nat} (h : RowE E w B (some ⟨b, off, none⟩) xs) (g : w.grownBy w' k) (hk : some b ≠ k) : RowE E w' B (some ⟨b, off, none⟩) xs := fun hn => by
  obtain ⟨b', off', e, hb, hc⟩ := h hn
  cases e
  exact ⟨b, off, rfl, hb, fun j u hj => g.cell (hc j u hj) hk⟩
theorem RowE.take {w : World} {B : Nat} {A : Option Addr} {xs : List α} (h : RowE E w B A xs) (n : Nat) : RowE E w B A (xs.take n) := fun hn => by
  obtain ⟨b, off, e, hb, hc⟩ := h (by rw [List.length_take] at hn; omega)
  refine ⟨b, off, e, hb, fun j u hj => hc j u ?_⟩
  rw [← List.take_append_drop n xs, E.cat_app, List.getElem?_append_left (List.getElem?_eq_some_iff.1 hj).1]
  exact hj
/-- a cut of a row behind its first n, in the model's own form -/
theorem RowE.cut {w : World} {B : Nat} {A : Option Addr} {xs : List α} (h : RowE E w B A xs) (n cap : Nat) (hc : xs.length ≤ cap) : RowE E w B (if cap = n then A else A.map (·.add (n * E.k))) (xs.drop n) := fun hn => by
  rw [List.length_drop] at hn
  obtain ⟨b, off, rfl, hb, hcell⟩ := h (by omega)
  rw [if_neg (by omega)]
  refine ⟨b, off + n * E.k, by simp [add_plain2], hb, fun j u hj => ?_⟩
  rw [Nat.add_assoc]
  refine hcell (n * E.k + j) u ?_
  have hl : (E.cat (xs.take n)).length = n * E.k := by rw [E.cat_len, List.length_take, Nat.min_eq_left (by omega)]
  rw [← List.take_append_drop n xs, E.cat_app, List.getElem?_append_right (by rw [hl]; omega), hl, Nat.add_sub_cancel_left]
  exact hj
/-- what an element's cells read -/
theorem RowE.at {w : World} {b off : Nat} {xs : List α} (hc : ∀ j u, (E.cat xs)[j]? = some u → w.cell? ⟨b, off + j, none⟩ = some u) (j i : Nat) (hj : j < xs.length) (hi : i < E.k) : w.cell? ⟨b, off + (j * E.k + i), none⟩ = (E.f xs[j])[i]? := by
  have e := E.cat_at xs j i hj hi
  have hl : i < (E.f xs[j]).length := by rw [E.len]; exact hi
  rw [List.getElem?_eq_getElem hl] at e ⊢
  exact hc _ _ e

/-- 'v' owns the elements xs, in a block of its own from 'base' on -/
def OwnE (E : Lay α) (w : World) (base : Nat) (e : TypeId) (v : Value) (xs : List α) : Prop := w.ownsRow base e E.k v xs.length (E.cat xs)
theorem OwnE.nil (w : World) (base : Nat) (e : TypeId) : OwnE E w base e (.slice none 0 0) [] := ⟨by simp [Lay.cat], .inl ⟨rfl, rfl⟩⟩
theorem OwnE.lt {w : World} {base : Nat} {e : TypeId} {v : Value} {xs : List α} (h : OwnE E w base e v xs) : ∀ g, v.ownBlock = some g → base ≤ g ∧ g < w.heap.size := by
  intro g hg
  rcases h.2 with ⟨rfl, _⟩ | ⟨g', cap, cur, rfl, hb, hh, _⟩
  · cases hg
  · have : g' = g := by simpa [Value.ownBlock] using hg
    subst this
    refine ⟨hb, ?_⟩
    rcases Nat.lt_or_ge g' w.heap.size with hlt | hge
    · exact hlt
    · rw [Array.getElem?_eq_none hge] at hh; cases hh
theorem OwnE.row {w : World} {base e n : Nat} {A : Option Addr} {c : Nat} {xs : List α} (h : w.ownsRow base e E.k (.slice A n c) n (E.cat xs)) : RowE E w w.heap.size A xs := by
  intro hp
  have hl : xs.length * E.k = n * E.k := by have := h.1; rw [E.cat_len] at this; exact this
  have hl' : xs.length = n := Nat.eq_of_mul_eq_mul_right E.pos hl
  rcases h.2 with ⟨hv, h0⟩ | ⟨g, cap, cur, hv, _, hh, _⟩
  · omega
  · injection hv with hA _ hc
    subst hA hc
    have hlt : g < w.heap.size := by
      rcases Nat.lt_or_ge g w.heap.size with hlt | hge
      · exact hlt
      · rw [Array.getElem?_eq_none hge] at hh; cases hh
    refine ⟨g, 0, rfl, hlt, fun j u hj => ?_⟩
    have hjl := (List.getElem?_eq_some_iff.1 hj).1
    rw [E.cat_len, hl'] at hjl
    rw [Nat.zero_add, h.cellAt j hjl]
    simpa using hj
theorem OwnE.slice {w : World} {base : Nat} {e : TypeId} {v : Value} {xs : List α} (h : OwnE E w base e v xs) : ∃ A c, v = .slice A xs.length c ∧ xs.length ≤ c ∧ c ≤ maxLen ∧ RowE E w w.heap.size A xs := by
  have h' := h
  rcases h.2 with ⟨rfl, h0⟩ | ⟨g, cap, cur, rfl, _, _, h1, h2, _⟩
  · have e0 : xs = [] := List.eq_nil_of_length_eq_zero h0
    subst e0
    exact ⟨none, 0, rfl, Nat.le_refl _, by unfold maxLen; omega, RowE.nil _ _ _⟩
  · exact ⟨_, _, rfl, h1, h2, OwnE.row h'⟩
theorem OwnE.alloc {w : World} {base : Nat} {e : TypeId} {v : Value} {xs : List α} (h : OwnE E w base e v xs) (o : Obj) : OwnE E (w.alloc o) base e v xs := World.ownsRow.alloc h o
theorem OwnE.drew {w : World} {base : Nat} {e : TypeId} {v : Value} {xs : List α} (h : OwnE E w base e v xs) : OwnE E w.drew base e v xs := h
theorem OwnE.later {w w' : World} {base : Nat} {e : TypeId} {v : Value} {xs : List α} (h : OwnE E w base e v xs) (hb : Below w.heap.size w w') : OwnE E w' base e v xs := by
  refine ⟨h.1, ?_⟩
  rcases h.2 with hn | ⟨g, cap, cur, hv, hg, hh, r⟩
  · exact .inl hn
  · refine .inr ⟨g, cap, cur, hv, hg, ?_, r⟩
    rw [hb.block g (lt_of_block hh)]
    exact hh
theorem OwnE.kept {w w' : World} {base y : Nat} {e : TypeId} {v : Value} {xs : List α} (h : OwnE E w base e v xs) (g : w.grownBy w' (some y)) (hy : v.ownBlock ≠ some y) : OwnE E w' base e v xs := by
  refine ⟨h.1, ?_⟩
  rcases h.2 with hn | ⟨k, cap, cur, hv, hg, hh, r⟩
  · exact .inl hn
  · refine .inr ⟨k, cap, cur, hv, hg, ?_, r⟩
    rw [g.block k (lt_of_block hh) (fun e => hy (by rw [hv]; simpa [Value.ownBlock] using e))]
    exact hh
theorem OwnE.low {w : World} {base base' : Nat} {e : TypeId} {v : Value} {xs : List α} (h : OwnE E w base e v xs) (hb : base' ≤ base) : OwnE E w base' e v xs := by
  refine ⟨h.1, ?_⟩
  rcases h.2 with hn | ⟨g, cap, cur, hv, hg, r⟩
  · exact .inl hn
  · exact .inr ⟨g, cap, cur, hv, by omega, r⟩

theorem run_appE {P : Program} (w : World) (base : Nat) (t ty e : TypeId) (i : TypeInfo) (z : Value) (by_ : Nat) (ht : P.underlying t = some (.slice e)) (hi : P.info? e = some i) (hz : i.zero = some z) (hsize : i.size = E.k) (hby : i.bytes = by_) (hzs : z.cells.size = E.k) (hb0 : 0 < by_)
    (v : Value) (xs : List α) (hown : OwnE E w base e v xs) (B : Nat) (A : Option Addr) (m c : Nat) (ys : List α) (hr : RowE E w B A ys) (hm : ys.length = m)
    (hbytes : (xs.length + m) * by_ ≤ 140737488355328) (hbase : base ≤ w.heap.size) :
    ∃ v' w', (Builtin.append_ #[t, t] ty #[v, .slice A m c]).run P w = .ok v' w' ∧ OwnE E w' base e v' (xs ++ ys) ∧ w.grownBy w' v.ownBlock := by
  rcases A with _ | ad
  · have h0 : m = 0 := by
      rcases Nat.eq_zero_or_pos ys.length with h | h
      · omega
      · obtain ⟨b, off, e, _⟩ := hr h; cases e
    subst h0
    have hz0 : ys = [] := List.eq_nil_of_length_eq_zero hm
    subst hz0
    refine ⟨v, w, ?_, by simpa using hown, World.grownBy.refl w _⟩
    rcases hown.2 with ⟨rfl, _⟩ | ⟨g, cap, cur, rfl, _, _, hnc, _⟩
    · simp [Builtin.append_, run_underlying ht, sizeOf, typeInfo, hi, Builtin.lenOf, Builtin.firstCells]
    · simp [Builtin.append_, run_underlying ht, sizeOf, typeInfo, hi, Builtin.lenOf, Builtin.firstCells, hnc, storeCells]
  · have hn : ∀ j u, (E.cat ys)[j]? = some u → w.cell? (ad.add j) = some u := by
      intro j u hj
      have hl := (List.getElem?_eq_some_iff.1 hj).1
      rw [E.cat_len] at hl
      obtain ⟨b, off, e, _, hc⟩ := hr (by rcases Nat.eq_zero_or_pos ys.length with h | h; (rw [h] at hl; simp at hl); exact h)
      cases e
      rw [add_plain2]
      exact hc j u hj
    have hx : xs.length + m ≤ 140737488355328 := Nat.le_trans (by exact Nat.le_mul_of_pos_right _ hb0) hbytes
    obtain ⟨v', w', hrun, h2, h3, _, _⟩ := run_append_own_at (P := P) w base t ty e i z E.k by_ ht hi hz hsize hby hzs E.pos v xs.length (E.cat xs) hown ad m c (E.cat ys) (by rw [E.cat_len, hm]) hn
      (E.cat_one ys) (by unfold maxLen; omega) hbytes hbase
    refine ⟨v', w', hrun, ?_, h3⟩
    unfold OwnE
    rw [List.length_append, hm, E.cat_app]
    exact h2
theorem wpList_appE {P : Program} (w : World) {ops : Array Oper} {rest : List Oper} {o : Oper} {a : Act} {Q : Exit → Act → World → Prop} (hgd : o.guard = none) (s x : Operand) (t : TypeId)
    (ho : o.op = .call { callee := .builtin .append, args := #[s, x], argTypes := #[t, t] })
    (base : Nat) (e : TypeId) (i : TypeInfo) (z : Value) (by_ : Nat) (ht : P.underlying t = some (.slice e)) (hi : P.info? e = some i) (hz : i.zero = some z) (hsize : i.size = E.k) (hby : i.bytes = by_) (hzs : z.cells.size = E.k) (hb0 : 0 < by_)
    (v : Value) (xs : List α) (hs : a.eval s = v) (hown : OwnE E w base e v xs) (B : Nat) (A : Option Addr) (m c : Nat) (ys : List α) (hx : a.eval x = .slice A m c) (hr : RowE E w B A ys) (hm : ys.length = m)
    (hbytes : (xs.length + m) * by_ ≤ 140737488355328) (hbase : base ≤ w.heap.size)
    (h : ∀ v' w', OwnE E w' base e v' (xs ++ ys) → w.grownBy w' v.ownBlock → wpList P ops Q rest (a.put o.dst v') w') :
    wpList P ops Q (o :: rest) a w := by
  refine wpList_plain hgd fun K hK => ?_
  obtain ⟨v', w', hrun, h2, h3⟩ := run_appE (P := P) w base t o.type e i z by_ ht hi hz hsize hby hzs hb0 v xs hown B A m c ys hr hm hbytes hbase
  unfold Oper.wp execOp
  simp only [ho, resolve, invoke, builtin, Sem.run_bind, Sem.run_pure, Result.andThen_ok, List.map_toArray, List.map_cons, List.map_nil, hs, hx, hrun]
  exact hK _ _ (h v' w' h2 h3)
theorem step_appE {P : Program} (w : World) {ops : Array Oper} {o : Oper} {a : Act} {K : Act → World → Prop} {Q : Exit → Act → World → Prop} {F : Prop} (hgd : o.guard = none) (s x : Operand) (t : TypeId)
    (ho : o.op = .call { callee := .builtin .append, args := #[s, x], argTypes := #[t, t] })
    (base : Nat) (e : TypeId) (i : TypeInfo) (z : Value) (by_ : Nat) (ht : P.underlying t = some (.slice e)) (hi : P.info? e = some i) (hz : i.zero = some z) (hsize : i.size = E.k) (hby : i.bytes = by_) (hzs : z.cells.size = E.k) (hb0 : 0 < by_)
    (v : Value) (xs : List α) (hs : a.eval s = v) (hown : OwnE E w base e v xs) (B : Nat) (A : Option Addr) (m c : Nat) (ys : List α) (hx : a.eval x = .slice A m c) (hr : RowE E w B A ys) (hm : ys.length = m)
    (hbytes : (xs.length + m) * by_ ≤ 140737488355328) (hbase : base ≤ w.heap.size)
    (h : ∀ v' w', OwnE E w' base e v' (xs ++ ys) → w.grownBy w' v.ownBlock → K (a.put o.dst v') w') :
    if Region.wanted o (yielded ops a.tmps) = true then Oper.wp P o a w K Q else F := by
  have hw : Region.wanted o (yielded ops a.tmps) = true := by simp [Region.wanted, hgd]
  rw [if_pos hw]
  obtain ⟨v', w', hrun, h2, h3⟩ := run_appE (P := P) w base t o.type e i z by_ ht hi hz hsize hby hzs hb0 v xs hown B A m c ys hr hm hbytes hbase
  unfold Oper.wp execOp
  simp only [ho, resolve, invoke, builtin, Sem.run_bind, Sem.run_pure, Result.andThen_ok, List.map_toArray, List.map_cons, List.map_nil, hs, hx, hrun]
  exact h v' w' h2 h3
/-- an empty row of its own: '[]T{}' -/
theorem OwnE.empty (w : World) (base : Nat) (t : TypeId) (k : Nat) (hk : w.heap.size = k) (hb : base ≤ k) : OwnE E (w.alloc (.cells #[] t)) base t (.slice (some ⟨k, 0, none⟩) 0 0) [] := by
  subst hk
  exact ⟨by simp [Lay.cat], .inr ⟨w.heap.size, 0, #[], rfl, hb, heap_alloc_new w (.cells #[] t), Nat.le_refl _, by unfold maxLen; omega, by simp, by simp [Lay.cat]⟩⟩
/-- one new element, in a block of its own -/
theorem RowE.one (w : World) (x : α) (cs : Array Value) (t : TypeId) (k : Nat) (hk : w.heap.size = k) (hcs : cs.toList = E.f x) : RowE E (w.alloc (.cells cs t)) (k + 1) (some ⟨k, 0, none⟩) [x] := fun _ => by
  subst hk
  refine ⟨_, 0, rfl, by omega, fun j u hj => ?_⟩
  have e : E.cat [x] = E.f x := by simp [Lay.cat]
  rw [e, ← hcs, Array.getElem?_toList] at hj
  rw [Nat.zero_add, World.cell?, heap_alloc_new]
  exact hj
end
theorem info_partsE {P : Program} {e : TypeId} {z : Option Value} {s b : Nat} (h : (P.info? e).map (fun i => (i.zero, i.size, i.bytes)) = some (z, s, b)) : ∃ i, P.info? e = some i ∧ i.zero = z ∧ i.size = s ∧ i.bytes = b := by
  obtain ⟨i, hi, he⟩ := Option.map_eq_some_iff.1 h
  exact ⟨i, hi, (Prod.mk.inj he).1, (Prod.mk.inj (Prod.mk.inj he).2).1, (Prod.mk.inj (Prod.mk.inj he).2).2⟩
end Go.Proofs.Ytnccibaifffhhaa.P
/- Blocks of cells: read, written; what a call may have done to memory. Nothing of the program's. -/
namespace Go.Proofs.Ytnccibaifffhhaa.P
set_option linter.unusedVariables false
open Go.RowKit

theorem bk_set {w : World} {b : Nat} {cs : Array Value} {T : TypeId} (h : w.heap[b]? = some (.cells cs T (0, 0))) (i : Nat) (v : Value) : (w.setCell ⟨b, i, none⟩ v).heap[b]? = some (.cells (cs.setIfInBounds i v) T (0, 0)) := by
  have hlt := lt_of_block h
  have h' : w.heap[b] = .cells cs T (0, 0) := by simpa [Array.getElem?_eq_getElem hlt] using h
  show (w.heap.modify b _)[b]? = _
  rw [Array.getElem?_eq_getElem (by simpa using hlt), Array.getElem_modify_self, h']
  rfl
theorem bk_cell {w : World} {b : Nat} {cs : Array Value} {T : TypeId} (h : w.heap[b]? = some (.cells cs T (0, 0))) (i : Nat) : w.cell? ⟨b, i, none⟩ = cs[i]? := by simp [World.cell?, h]
theorem bk_frz {w : World} {b : Nat} {cs : Array Value} {T : TypeId} (h : w.heap[b]? = some (.cells cs T (0, 0))) (i : Nat) : w.frozen? ⟨b, i, none⟩ = false := by simp [World.frozen?, h]
theorem gr_set (w : World) (y o : Nat) (u : Value) : w.grownBy (w.setCell ⟨y, o, none⟩ u) (some y) :=
  ⟨rfl, rfl, rfl, by simp [World.setCell], fun k _ hne => Below.heap_setCell _ _ _ _ (fun e => hne (by rw [e]))⟩
theorem gr_trans {a b c : World} {r : Option Nat} (h : a.grownBy b r) (k : b.grownBy c r) : a.grownBy c r :=
  ⟨k.os.trans h.os, k.tape.trans h.tape, k.output.trans h.output, Nat.le_trans h.size k.size, fun i hi hne => (k.block i (Nat.lt_of_lt_of_le hi h.size) hne).trans (h.block i hi hne)⟩
theorem gr_drew {a b : World} {r : Option Nat} (h : a.grownBy b r) : a.grownBy b.drew r := ⟨h.os, h.tape, h.output, h.size, h.block⟩
theorem gr_from {w a b : World} {B : Nat} (h : Below B w a) {y : Nat} (hB : B ≤ a.heap.size) (hy : B ≤ y) (g : a.grownBy b (some y)) : Below B w b :=
  h.grown g hB (fun k e => by cases e; exact hy)
/-- a row of bytes that lies elsewhere -/
theorem bsl_gr {w w' : World} {v : Value} {zs : List Int} {y : Nat} (h : BSl w w.heap.size v zs) (hn : v.ownBlock ≠ some y) (g : w.grownBy w' (some y)) : BSl w' w'.heap.size v zs := by
  obtain ⟨A, c, rfl, h1, h2, h3, h4⟩ := h.ex
  refine ⟨A, c, rfl, h1, h2, h3, h4.1, fun hz => ?_⟩
  obtain ⟨b, off, e, hb, hc⟩ := h4.2 hz
  subst e
  have hby : b ≠ y := fun e => hn (by subst e; rfl)
  have k := g.block b hb (by simp; exact hby)
  exact ⟨b, off, rfl, Nat.lt_of_lt_of_le hb g.size, fun j hj => (by simp only [World.cell?, k]; exact hc j hj)⟩
theorem bsl_drew {w : World} {v : Value} {zs : List Int} (h : BSl w w.heap.size v zs) : BSl w.drew w.drew.heap.size v zs := by
  obtain ⟨A, c, rfl, h1, h2, h3, h4⟩ := h.ex
  exact ⟨A, c, rfl, h1, h2, h3, h4⟩
/-- the six cells of a block -/
theorem bk6 {w : World} {b : Nat} {a0 a1 a2 a3 a4 a5 : Value} {T : TypeId} (h : w.heap[b]? = some (.cells #[a0, a1, a2, a3, a4, a5] T (0, 0))) :
    w.cell? ⟨b, 0, none⟩ = some a0 ∧ w.cell? ⟨b, 1, none⟩ = some a1 ∧ w.cell? ⟨b, 2, none⟩ = some a2 ∧ w.cell? ⟨b, 3, none⟩ = some a3 ∧ w.cell? ⟨b, 4, none⟩ = some a4 ∧ w.cell? ⟨b, 5, none⟩ = some a5 ∧ ∀ i, w.frozen? ⟨b, i, none⟩ = false :=
  ⟨bk_cell h 0, bk_cell h 1, bk_cell h 2, bk_cell h 3, bk_cell h 4, bk_cell h 5, fun i => bk_frz h i⟩
/-- all six written, one behind the other: each reads as it was written; what the block is, and that nothing else has turned -/
theorem bk6_put {w : World} {b : Nat} {a0 a1 a2 a3 a4 a5 : Value} {T : TypeId} (h : w.heap[b]? = some (.cells #[a0, a1, a2, a3, a4, a5] T (0, 0))) (v0 v1 v2 v3 v4 v5 : Value) :
    (w.setCell ⟨b, 0, none⟩ v0).cell? ⟨b, 0, none⟩ = some v0 ∧
    ((w.setCell ⟨b, 0, none⟩ v0).setCell ⟨b, 1, none⟩ v1).cell? ⟨b, 1, none⟩ = some v1 ∧
    (((w.setCell ⟨b, 0, none⟩ v0).setCell ⟨b, 1, none⟩ v1).setCell ⟨b, 2, none⟩ v2).cell? ⟨b, 2, none⟩ = some v2 ∧
    ((((w.setCell ⟨b, 0, none⟩ v0).setCell ⟨b, 1, none⟩ v1).setCell ⟨b, 2, none⟩ v2).setCell ⟨b, 3, none⟩ v3).cell? ⟨b, 3, none⟩ = some v3 ∧
    (((((w.setCell ⟨b, 0, none⟩ v0).setCell ⟨b, 1, none⟩ v1).setCell ⟨b, 2, none⟩ v2).setCell ⟨b, 3, none⟩ v3).setCell ⟨b, 4, none⟩ v4).cell? ⟨b, 4, none⟩ = some v4 ∧
    ((((((w.setCell ⟨b, 0, none⟩ v0).setCell ⟨b, 1, none⟩ v1).setCell ⟨b, 2, none⟩ v2).setCell ⟨b, 3, none⟩ v3).setCell ⟨b, 4, none⟩ v4).setCell ⟨b, 5, none⟩ v5).cell? ⟨b, 5, none⟩ = some v5 ∧
    ((((((w.setCell ⟨b, 0, none⟩ v0).setCell ⟨b, 1, none⟩ v1).setCell ⟨b, 2, none⟩ v2).setCell ⟨b, 3, none⟩ v3).setCell ⟨b, 4, none⟩ v4).setCell ⟨b, 5, none⟩ v5).heap[b]? = some (.cells #[v0, v1, v2, v3, v4, v5] T (0, 0)) ∧
    w.grownBy ((((((w.setCell ⟨b, 0, none⟩ v0).setCell ⟨b, 1, none⟩ v1).setCell ⟨b, 2, none⟩ v2).setCell ⟨b, 3, none⟩ v3).setCell ⟨b, 4, none⟩ v4).setCell ⟨b, 5, none⟩ v5) (some b) := by
  have h0 : (w.setCell ⟨b, 0, none⟩ v0).heap[b]? = some (.cells #[v0, a1, a2, a3, a4, a5] T (0, 0)) := by simpa using bk_set h 0 v0
  have h1 : ((w.setCell ⟨b, 0, none⟩ v0).setCell ⟨b, 1, none⟩ v1).heap[b]? = some (.cells #[v0, v1, a2, a3, a4, a5] T (0, 0)) := by simpa using bk_set h0 1 v1
  have h2 : (((w.setCell ⟨b, 0, none⟩ v0).setCell ⟨b, 1, none⟩ v1).setCell ⟨b, 2, none⟩ v2).heap[b]? = some (.cells #[v0, v1, v2, a3, a4, a5] T (0, 0)) := by simpa using bk_set h1 2 v2
  have h3 : ((((w.setCell ⟨b, 0, none⟩ v0).setCell ⟨b, 1, none⟩ v1).setCell ⟨b, 2, none⟩ v2).setCell ⟨b, 3, none⟩ v3).heap[b]? = some (.cells #[v0, v1, v2, v3, a4, a5] T (0, 0)) := by simpa using bk_set h2 3 v3
  have h4 : (((((w.setCell ⟨b, 0, none⟩ v0).setCell ⟨b, 1, none⟩ v1).setCell ⟨b, 2, none⟩ v2).setCell ⟨b, 3, none⟩ v3).setCell ⟨b, 4, none⟩ v4).heap[b]? = some (.cells #[v0, v1, v2, v3, v4, a5] T (0, 0)) := by simpa using bk_set h3 4 v4
  have h5 : ((((((w.setCell ⟨b, 0, none⟩ v0).setCell ⟨b, 1, none⟩ v1).setCell ⟨b, 2, none⟩ v2).setCell ⟨b, 3, none⟩ v3).setCell ⟨b, 4, none⟩ v4).setCell ⟨b, 5, none⟩ v5).heap[b]? = some (.cells #[v0, v1, v2, v3, v4, v5] T (0, 0)) := by simpa using bk_set h4 5 v5
  exact ⟨(bk6 h0).1, (bk6 h1).2.1, (bk6 h2).2.2.1, (bk6 h3).2.2.2.1, (bk6 h4).2.2.2.2.1, (bk6 h5).2.2.2.2.2.1, h5,
    gr_trans (gr_trans (gr_trans (gr_trans (gr_trans (gr_set _ b 0 v0) (gr_set _ b 1 v1)) (gr_set _ b 2 v2)) (gr_set _ b 3 v3)) (gr_set _ b 4 v4)) (gr_set _ b 5 v5)⟩
end Go.Proofs.Ytnccibaifffhhaa.P
/- append of bytes onto a row of the call's own: nil, empty or not. Nothing of the program's. -/
namespace Go.Proofs.Ytnccibaifffhhaa.P
set_option linter.unusedVariables false
open Go.RowKit

theorem run_app {P : Program} (w : World) (base : Nat) (t ty e : TypeId) (i : TypeInfo) (ht : P.underlying t = some (.slice e)) (hi : P.info? e = some i) (hz : i.zero = some (.int .u8 0)) (hsize : i.size = 1) (hby : i.bytes = 1)
    (v : Value) (n : Nat) (xs : List Value) (hown : w.ownsRow base e 1 v n xs) (B : Nat) (A : Option Addr) (m c : Nat) (zs : List Int) (hr : BRow w B A zs) (hm : zs.length = m) (hc : A = none → c = 0)
    (hbytes : n + m ≤ 140737488355328) (hbase : base ≤ w.heap.size) :
    ∃ v' w', (Builtin.append_ #[t, t] ty #[v, .slice A m c]).run P w = .ok v' w' ∧ w'.ownsRow base e 1 v' (n + m) (xs ++ zs.map (.int .u8)) ∧ w.grownBy w' v.ownBlock ∧ (v'.ownBlock = v.ownBlock ∨ v'.ownBlock = some w.heap.size) := by
  rcases A with _ | ad
  · have h0 : m = 0 := by
      rcases Nat.eq_zero_or_pos zs.length with h | h
      · omega
      · obtain ⟨b, off, e, _⟩ := hr.2 h; cases e
    subst h0
    have hz0 : zs = [] := List.eq_nil_of_length_eq_zero hm
    subst hz0
    rw [hc rfl]
    exact ⟨v, w, run_append_owned_none (P := P) (w := w) base t ty e i 1 ht hi v n xs hown, by simpa using hown, World.grownBy.refl w _, .inl rfl⟩
  · have hn : ∀ j u, (zs.map (Value.int .u8))[j]? = some u → w.cell? (ad.add j) = some u := by
      intro j u hj
      have hjl : j < zs.length := by
        have := (List.getElem?_eq_some_iff.1 hj).1
        simpa using this
      obtain ⟨b, off, e, _, hcell⟩ := hr.2 (by omega)
      cases e
      rw [Go.WideShapes.add_plain, hcell j hjl]
      simp [hjl] at hj
      rw [← hj]
      simp [hjl]
    obtain ⟨v', w', hrun, h2, h3, _, h5⟩ := run_append_own_at (P := P) w base t ty e i (.int .u8 0) 1 1 ht hi hz hsize hby rfl (by decide) v n xs hown ad m c (zs.map (.int .u8)) (by simp [hm]) hn
      (fun u hu => by obtain ⟨z, _, rfl⟩ := List.mem_map.1 hu; rfl) (by unfold maxLen; omega) (by omega) hbase
    exact ⟨v', w', hrun, h2, h3, h5⟩

theorem wpList_app {P : Program} (w : World) {ops : Array Oper} {rest : List Oper} {o : Oper} {a : Act} {Q : Exit → Act → World → Prop} (hgd : o.guard = none) (s x : Operand) (t : TypeId)
    (ho : o.op = .call { callee := .builtin .append, args := #[s, x], argTypes := #[t, t] })
    (base : Nat) (e : TypeId) (i : TypeInfo) (ht : P.underlying t = some (.slice e)) (hi : P.info? e = some i) (hz : i.zero = some (.int .u8 0)) (hsize : i.size = 1) (hby : i.bytes = 1)
    (v : Value) (n : Nat) (xs : List Value) (hs : a.eval s = v) (hown : w.ownsRow base e 1 v n xs) (B : Nat) (A : Option Addr) (m c : Nat) (zs : List Int) (hx : a.eval x = .slice A m c) (hr : BRow w B A zs) (hm : zs.length = m) (hc : A = none → c = 0)
    (hbytes : n + m ≤ 140737488355328) (hbase : base ≤ w.heap.size)
    (h : ∀ v' w', w'.ownsRow base e 1 v' (n + m) (xs ++ zs.map (.int .u8)) → w.grownBy w' v.ownBlock → (v'.ownBlock = v.ownBlock ∨ v'.ownBlock = some w.heap.size) → wpList P ops Q rest (a.put o.dst v') w') :
    wpList P ops Q (o :: rest) a w := by
  refine wpList_plain hgd fun K hK => ?_
  obtain ⟨v', w', hrun, h2, h3, h4⟩ := run_app (P := P) w base t o.type e i ht hi hz hsize hby v n xs hown B A m c zs hr hm hc hbytes hbase
  unfold Oper.wp execOp
  simp only [ho, resolve, invoke, builtin, Sem.run_bind, Sem.run_pure, Result.andThen_ok, List.map_toArray, List.map_cons, List.map_nil, hs, hx, hrun]
  exact hK _ _ (h v' w' h2 h3 h4)

/-- an owned row of bytes, as a row that reads -/
theorem own_brow {w : World} {base e n : Nat} {A : Option Addr} {c : Nat} {zs : List Int} (h : w.ownsRow base e 1 (.slice A n c) n (zs.map (.int .u8))) (hb : Byt zs) : BRow w w.heap.size A zs := by
  refine ⟨hb, fun hp => ?_⟩
  have hl : zs.length = n := by simpa using h.1
  rcases h.2 with ⟨hv, h0⟩ | ⟨g, cap, cur, hv, _, hh, _⟩
  · omega
  · injection hv with hA _ hc
    subst hA hc
    have hlt : g < w.heap.size := by
      rcases Nat.lt_or_ge g w.heap.size with hlt | hge
      · exact hlt
      · rw [Array.getElem?_eq_none hge] at hh; cases hh
    refine ⟨g, 0, rfl, hlt, fun j hj => ?_⟩
    rw [Nat.zero_add, h.cellAt j (by omega)]
    simp [hj]

/-- an owned row is a slice value -/
theorem own_slice {w : World} {base e n : Nat} {v : Value} {xs : List Value} (h : w.ownsRow base e 1 v n xs) : ∃ A c, v = .slice A n c ∧ n ≤ c ∧ c ≤ maxLen := by
  rcases h.2 with ⟨rfl, rfl⟩ | ⟨g, cap, cur, rfl, _, _, h1, h2, _⟩
  · exact ⟨none, 0, rfl, Nat.le_refl _, by unfold maxLen; omega⟩
  · exact ⟨_, _, rfl, h1, h2⟩
end Go.Proofs.Ytnccibaifffhhaa.P
/- Appends onto own rows of any elements, saying where the new row lies. Nothing of the program's. -/
namespace Go.Proofs.Ytnccibaifffhhaa.P
set_option linter.unusedVariables false
open Go.RowKit
section
variable {α : Type} {E : Lay α}
theorem run_appE2 {P : Program} (w : World) (base : Nat) (t ty e : TypeId) (i : TypeInfo) (z : Value) (by_ : Nat) (ht : P.underlying t = some (.slice e)) (hi : P.info? e = some i) (hz : i.zero = some z) (hsize : i.size = E.k) (hby : i.bytes = by_) (hzs : z.cells.size = E.k) (hb0 : 0 < by_)
    (v : Value) (xs : List α) (hown : OwnE E w base e v xs) (B : Nat) (A : Option Addr) (m c : Nat) (ys : List α) (hr : RowE E w B A ys) (hm : ys.length = m)
    (hbytes : (xs.length + m) * by_ ≤ 140737488355328) (hbase : base ≤ w.heap.size) :
    ∃ v' w', (Builtin.append_ #[t, t] ty #[v, .slice A m c]).run P w = .ok v' w' ∧ OwnE E w' base e v' (xs ++ ys) ∧ w.grownBy w' v.ownBlock ∧ (v'.ownBlock = v.ownBlock ∨ v'.ownBlock = some w.heap.size) := by
  rcases A with _ | ad
  · have h0 : m = 0 := by
      rcases Nat.eq_zero_or_pos ys.length with h | h
      · omega
      · obtain ⟨b, off, e, _⟩ := hr h; cases e
    subst h0
    have hz0 : ys = [] := List.eq_nil_of_length_eq_zero hm
    subst hz0
    refine ⟨v, w, ?_, by simpa using hown, World.grownBy.refl w _, .inl rfl⟩
    rcases hown.2 with ⟨rfl, _⟩ | ⟨g, cap, cur, rfl, _, _, hnc, _⟩
    · simp [Builtin.append_, run_underlying ht, sizeOf, typeInfo, hi, Builtin.lenOf, Builtin.firstCells]
    · simp [Builtin.append_, run_underlying ht, sizeOf, typeInfo, hi, Builtin.lenOf, Builtin.firstCells, hnc, storeCells]
  · have hn : ∀ j u, (E.cat ys)[j]? = some u → w.cell? (ad.add j) = some u := by
      intro j u hj
      have hl := (List.getElem?_eq_some_iff.1 hj).1
      rw [E.cat_len] at hl
      obtain ⟨b, off, e, _, hc⟩ := hr (by rcases Nat.eq_zero_or_pos ys.length with h | h; (rw [h] at hl; simp at hl); exact h)
      cases e
      rw [add_plain2]
      exact hc j u hj
    have hx : xs.length + m ≤ 140737488355328 := Nat.le_trans (by exact Nat.le_mul_of_pos_right _ hb0) hbytes
    obtain ⟨v', w', hrun, h2, h3, _, h5⟩ := run_append_own_at (P := P) w base t ty e i z E.k by_ ht hi hz hsize hby hzs E.pos v xs.length (E.cat xs) hown ad m c (E.cat ys) (by rw [E.cat_len, hm]) hn
      (E.cat_one ys) (by unfold maxLen; omega) hbytes hbase
    refine ⟨v', w', hrun, ?_, h3, h5⟩
    unfold OwnE
    rw [List.length_append, hm, E.cat_app]
    exact h2
theorem step_appE2 {P : Program} (w : World) {ops : Array Oper} {o : Oper} {a : Act} {K : Act → World → Prop} {Q : Exit → Act → World → Prop} {F : Prop} (hgd : o.guard = none) (s x : Operand) (t : TypeId)
    (ho : o.op = .call { callee := .builtin .append, args := #[s, x], argTypes := #[t, t] })
    (base : Nat) (e : TypeId) (i : TypeInfo) (z : Value) (by_ : Nat) (ht : P.underlying t = some (.slice e)) (hi : P.info? e = some i) (hz : i.zero = some z) (hsize : i.size = E.k) (hby : i.bytes = by_) (hzs : z.cells.size = E.k) (hb0 : 0 < by_)
    (v : Value) (xs : List α) (hs : a.eval s = v) (hown : OwnE E w base e v xs) (B : Nat) (A : Option Addr) (m c : Nat) (ys : List α) (hx : a.eval x = .slice A m c) (hr : RowE E w B A ys) (hm : ys.length = m)
    (hbytes : (xs.length + m) * by_ ≤ 140737488355328) (hbase : base ≤ w.heap.size)
    (h : ∀ v' w', OwnE E w' base e v' (xs ++ ys) → w.grownBy w' v.ownBlock → (v'.ownBlock = v.ownBlock ∨ v'.ownBlock = some w.heap.size) → K (a.put o.dst v') w') :
    if Region.wanted o (yielded ops a.tmps) = true then Oper.wp P o a w K Q else F := by
  have hw : Region.wanted o (yielded ops a.tmps) = true := by simp [Region.wanted, hgd]
  rw [if_pos hw]
  obtain ⟨v', w', hrun, h2, h3, h4⟩ := run_appE2 (P := P) w base t o.type e i z by_ ht hi hz hsize hby hzs hb0 v xs hown B A m c ys hr hm hbytes hbase
  unfold Oper.wp execOp
  simp only [ho, resolve, invoke, builtin, Sem.run_bind, Sem.run_pure, Result.andThen_ok, List.map_toArray, List.map_cons, List.map_nil, hs, hx, hrun]
  exact h v' w' h2 h3 h4
end
end Go.Proofs.Ytnccibaifffhhaa.P
