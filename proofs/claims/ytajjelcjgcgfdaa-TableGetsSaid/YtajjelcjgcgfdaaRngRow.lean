/- Rows of ranges in memory: two cells a range. Nothing of the program's but the types' numbers. -/
import Derived.Test.YtajjelcjgcgfdaaRngMath
import Derived.Test.YtajjelcjgcgfdaaBytes
import Derived.Maps.AppendAt
import Derived.OwnWalk
import Derived.Laws.OwnMore
namespace Go.Proofs.Ytajjelcjgcgfdaa.P
set_option linter.unusedVariables false
open Go.RowKit

/-- the cells of ranges, one behind the other -/
def cellsR (ps : List (Int × Int)) : List Value := ps.flatMap fun p => [.int .i64 p.1, .int .i64 p.2]
theorem cellsR_len (ps : List (Int × Int)) : (cellsR ps).length = ps.length * 2 := by
  induction ps with
  | nil => rfl
  | cons p ps ih => simp only [cellsR, List.flatMap_cons, List.length_append, List.length_cons, List.length_nil] at ih ⊢; omega
theorem cellsR_app (ps qs : List (Int × Int)) : cellsR (ps ++ qs) = cellsR ps ++ cellsR qs := by simp [cellsR]
theorem cellsR_at (ps : List (Int × Int)) (j : Nat) (h : j < ps.length) :
    (cellsR ps)[j * 2]? = some (.int .i64 (ps.getD j (0, 0)).1) ∧ (cellsR ps)[j * 2 + 1]? = some (.int .i64 (ps.getD j (0, 0)).2) := by
  induction ps generalizing j with
  | nil => simp at h
  | cons p ps ih =>
    have e : cellsR (p :: ps) = .int .i64 p.1 :: .int .i64 p.2 :: cellsR ps := rfl
    cases j with
    | zero => rw [e]; exact ⟨rfl, rfl⟩
    | succ j =>
      have := ih j (by simpa using h)
      rw [e, show (j + 1) * 2 = j * 2 + 1 + 1 from by omega]
      simpa using this
theorem cellsR_one (ps : List (Int × Int)) : ∀ u ∈ cellsR ps, u.oneCell' = true := by
  intro u hu
  obtain ⟨p, _, hp⟩ := List.mem_flatMap.1 hu
  rcases List.mem_cons.1 hp with rfl | hp
  · rfl
  · rcases List.mem_cons.1 hp with rfl | hp
    · rfl
    · cases hp

/-- 'A' leads to a row below block B whose cells are the ranges ps; where ps is empty nothing is said of A -/
def RRow (w : World) (B : Nat) (A : Option Addr) (ps : List (Int × Int)) : Prop :=
  0 < ps.length → ∃ b off, A = some ⟨b, off, none⟩ ∧ b < B ∧ ∀ j, j < ps.length →
    w.cell? ⟨b, off + j * 2, none⟩ = some (.int .i64 (ps.getD j (0, 0)).1) ∧ w.cell? ⟨b, off + j * 2 + 1, none⟩ = some (.int .i64 (ps.getD j (0, 0)).2)

theorem bt {a b c : World} (h : Below a.heap.size a b) (k : Below b.heap.size b c) : Below a.heap.size a c := h.trans (k.mono h.size)
theorem RRow.nil (w : World) (B : Nat) (A : Option Addr) : RRow w B A [] := fun h => absurd h (by simp)
theorem RRow.keep {w w' : World} {B : Nat} {A : Option Addr} {ps : List (Int × Int)} (h : RRow w B A ps) (hk : ∀ p : Addr, p.block < B → w'.cell? p = w.cell? p) : RRow w' B A ps := fun hn => by
  obtain ⟨b, off, e, hb, hc⟩ := h hn
  exact ⟨b, off, e, hb, fun j hj => ⟨(hk _ hb).trans (hc j hj).1, (hk _ hb).trans (hc j hj).2⟩⟩
theorem RRow.more {w : World} {B B' : Nat} {A : Option Addr} {ps : List (Int × Int)} (h : RRow w B A ps) (hB : B ≤ B') : RRow w B' A ps := fun hn => by
  obtain ⟨b, off, e, hb, hc⟩ := h hn
  exact ⟨b, off, e, by omega, hc⟩
theorem RRow.below {w w' : World} {B : Nat} {A : Option Addr} {ps : List (Int × Int)} (h : RRow w B A ps) (hb : Below B w w') : RRow w' B A ps := h.keep fun _ hp => hb.cell hp
theorem RRow.on {w w' : World} {A : Option Addr} {ps : List (Int × Int)} (h : RRow w w.heap.size A ps) (hb : Below w.heap.size w w') : RRow w' w'.heap.size A ps := (h.below hb).more hb.size
theorem getR_take {ps : List (Int × Int)} {k j : Nat} (h : j < k) : (ps.take k).getD j (0, 0) = ps.getD j (0, 0) := by
  rw [List.getD_eq_getElem?_getD, List.getElem?_take, if_pos h, ← List.getD_eq_getElem?_getD]
theorem getR_drop {ps : List (Int × Int)} {k j : Nat} : (ps.drop k).getD j (0, 0) = ps.getD (k + j) (0, 0) := by
  rw [List.getD_eq_getElem?_getD, List.getElem?_drop, ← List.getD_eq_getElem?_getD]
theorem RRow.take {w : World} {B : Nat} {A : Option Addr} {ps : List (Int × Int)} (h : RRow w B A ps) (k : Nat) : RRow w B A (ps.take k) := fun hn => by
  rw [List.length_take] at hn
  obtain ⟨b, off, e, hb, hc⟩ := h (by omega)
  refine ⟨b, off, e, hb, fun j hj => ?_⟩
  rw [List.length_take] at hj
  rw [getR_take (by omega)]
  exact hc j (by omega)
/-- the cells of a row, the model's way -/
theorem RRow.cells {w : World} {B b off : Nat} {ps : List (Int × Int)} (h : RRow w B (some ⟨b, off, none⟩) ps) : ∀ j u, (cellsR ps)[j]? = some u → w.cell? ⟨b, off + j, none⟩ = some u := by
  intro j u hj
  have hl := (List.getElem?_eq_some_iff.1 hj).1
  rw [cellsR_len] at hl
  obtain ⟨b', off', e, _, hc⟩ := h (by omega)
  cases e
  have hat := cellsR_at ps (j / 2) (by omega)
  have hc' := hc (j / 2) (by omega)
  rcases Nat.mod_two_eq_zero_or_one j with h2 | h2
  · rw [show j = j / 2 * 2 from by omega] at hj ⊢
    rw [hat.1] at hj
    rw [hc'.1]; exact hj
  · rw [show j = j / 2 * 2 + 1 from by omega] at hj ⊢
    rw [hat.2] at hj
    rw [← Nat.add_assoc, hc'.2]; exact hj
/-- an owned row of ranges, as a row that reads -/
theorem own_rrow {w : World} {base e n : Nat} {A : Option Addr} {c : Nat} {ps : List (Int × Int)} (h : w.ownsRow base e 2 (.slice A n c) n (cellsR ps)) : RRow w w.heap.size A ps ∧ ps.length = n := by
  have hl : ps.length = n := by have := h.1; rw [cellsR_len] at this; omega
  refine ⟨fun hp => ?_, hl⟩
  rcases h.2 with ⟨hv, h0⟩ | ⟨g, cap, cur, hv, _, hh, _⟩
  · omega
  · injection hv with hA _ hc
    subst hA hc
    have hlt : g < w.heap.size := by
      rcases Nat.lt_or_ge g w.heap.size with hlt | hge
      · exact hlt
      · rw [Array.getElem?_eq_none hge] at hh; cases hh
    refine ⟨g, 0, rfl, hlt, fun j hj => ?_⟩
    have hat := cellsR_at ps j hj
    rw [Nat.zero_add, h.cellAt (j * 2) (by omega), h.cellAt (j * 2 + 1) (by omega)]
    have x1 := List.getElem?_eq_some_iff.1 hat.1
    have x2 := List.getElem?_eq_some_iff.1 hat.2
    exact ⟨by simpa using hat.1, by simpa using hat.2⟩
theorem cells_new (w : World) (lo hi : Int) (t : TypeId) : ∀ j u, (cellsR [(lo, hi)])[j]? = some u → (w.alloc (.cells #[.int .i64 lo, .int .i64 hi] t)).cell? ((⟨w.heap.size, 0, none⟩ : Addr).add j) = some u := by
  intro j u hj
  match j, hj with
  | 0, hj => simp [cellsR] at hj; subst hj; simp [Addr.add]
  | 1, hj => simp [cellsR] at hj; subst hj; simp [Addr.add]
  | j + 2, hj => simp [cellsR] at hj

/-- 'v' owns the ranges qs, in a block of its own from 'base' on -/
def OwnR (w : World) (base : Nat) (e : TypeId) (v : Value) (qs : List (Int × Int)) : Prop := w.ownsRow base e 2 v qs.length (cellsR qs)
theorem OwnR.nil (w : World) (base : Nat) (e : TypeId) : OwnR w base e (.slice none 0 0) [] := ⟨rfl, .inl ⟨rfl, rfl⟩⟩
theorem OwnR.lt {w : World} {base : Nat} {e : TypeId} {v : Value} {qs : List (Int × Int)} (h : OwnR w base e v qs) : ∀ g, v.ownBlock = some g → base ≤ g ∧ g < w.heap.size := by
  intro g hg
  rcases h.2 with ⟨rfl, _⟩ | ⟨g', cap, cur, rfl, hb, hh, _⟩
  · cases hg
  · have : g' = g := by simpa [Value.ownBlock] using hg
    subst this
    refine ⟨hb, ?_⟩
    rcases Nat.lt_or_ge g' w.heap.size with hlt | hge
    · exact hlt
    · rw [Array.getElem?_eq_none hge] at hh; cases hh
theorem OwnR.slice {w : World} {base : Nat} {e : TypeId} {v : Value} {qs : List (Int × Int)} (h : OwnR w base e v qs) : ∃ A c, v = .slice A qs.length c ∧ qs.length ≤ c ∧ c ≤ maxLen ∧ RRow w w.heap.size A qs := by
  have h' := h
  rcases h.2 with ⟨rfl, h0⟩ | ⟨g, cap, cur, rfl, _, _, h1, h2, _⟩
  · have e0 : qs = [] := List.eq_nil_of_length_eq_zero h0
    subst e0
    exact ⟨none, 0, rfl, Nat.le_refl _, by unfold maxLen; omega, RRow.nil _ _ _⟩
  · exact ⟨_, _, rfl, h1, h2, (own_rrow h').1⟩
theorem OwnR.alloc {w : World} {base : Nat} {e : TypeId} {v : Value} {qs : List (Int × Int)} (h : OwnR w base e v qs) (o : Obj) : OwnR (w.alloc o) base e v qs := World.ownsRow.alloc h o
theorem OwnR.drew {w : World} {base : Nat} {e : TypeId} {v : Value} {qs : List (Int × Int)} (h : OwnR w base e v qs) : OwnR w.drew base e v qs := h

/-- a row of the call's own has grown: what was there is as it was, but for that row -/
structure GrowR (base : Nat) (w w' : World) (v : Value) : Prop where
  below : Below base w w'
  size : w.heap.size ≤ w'.heap.size
  keeps : ∀ (p : Addr) (u : Value), w.cell? p = some u → some p.block ≠ v.ownBlock → w'.cell? p = some u
theorem GrowR.of {base : Nat} {w w' : World} {v : Value} {e : TypeId} {qs : List (Int × Int)} (o : Obj) (ho : OwnR w base e v qs) (hb : base ≤ w.heap.size) (hg : (w.alloc o).grownBy w' v.ownBlock) : GrowR base w w' v := by
  have h1 : Below base w w' := ((Below.refl _ _).alloc hb o).grown hg (by simp; omega) (fun k hk => (ho.lt k hk).1)
  have h2 := ((Below.refl (w.heap.size) w).alloc (Nat.le_refl _) o).size
  refine ⟨h1, h1.size, fun p u hu hne => ?_⟩
  refine hg.cell ?_ hne
  rw [World.cell?_alloc_lt _ _ _ (World.block_lt_of_cell? w p hu)]
  exact hu
theorem GrowR.refl (base : Nat) (w : World) (v : Value) : GrowR base w w v := ⟨Below.refl _ _, Nat.le_refl _, fun _ _ h _ => h⟩

theorem add_plain2 (b off j : Nat) : (⟨b, off, none⟩ : Addr).add j = ⟨b, off + j, none⟩ := Go.WideShapes.add_plain b off j
theorem run_appR {P : Program} (w : World) (base : Nat) (t ty e : TypeId) (i : TypeInfo) (z : Value) (ht : P.underlying t = some (.slice e)) (hi : P.info? e = some i) (hz : i.zero = some z) (hsize : i.size = 2) (hby : i.bytes = 16) (hzs : z.cells.size = 2)
    (v : Value) (qs : List (Int × Int)) (hown : OwnR w base e v qs) (B : Nat) (A : Option Addr) (m c : Nat) (zs : List (Int × Int)) (hr : RRow w B A zs) (hm : zs.length = m)
    (hbytes : (qs.length + m) * 16 ≤ 140737488355328) (hbase : base ≤ w.heap.size) :
    ∃ v' w', (Builtin.append_ #[t, t] ty #[v, .slice A m c]).run P w = .ok v' w' ∧ OwnR w' base e v' (qs ++ zs) ∧ w.grownBy w' v.ownBlock := by
  rcases A with _ | ad
  · have h0 : m = 0 := by
      rcases Nat.eq_zero_or_pos zs.length with h | h
      · omega
      · obtain ⟨b, off, e, _⟩ := hr h; cases e
    subst h0
    have hz0 : zs = [] := List.eq_nil_of_length_eq_zero hm
    subst hz0
    refine ⟨v, w, ?_, by simpa using hown, World.grownBy.refl w _⟩
    rcases hown.2 with ⟨rfl, _⟩ | ⟨g, cap, cur, rfl, _, _, hnc, _⟩
    · simp [Builtin.append_, run_underlying ht, sizeOf, typeInfo, hi, Builtin.lenOf, Builtin.firstCells]
    · simp [Builtin.append_, run_underlying ht, sizeOf, typeInfo, hi, Builtin.lenOf, Builtin.firstCells, hnc, storeCells]
  · have hn : ∀ j u, (cellsR zs)[j]? = some u → w.cell? (ad.add j) = some u := by
      intro j u hj
      have hl := (List.getElem?_eq_some_iff.1 hj).1
      rw [cellsR_len] at hl
      obtain ⟨b, off, e, _, _⟩ := hr (by omega)
      cases e
      rw [add_plain2]
      exact hr.cells j u hj
    obtain ⟨v', w', hrun, h2, h3, _, _⟩ := run_append_own_at (P := P) w base t ty e i z 2 16 ht hi hz hsize hby hzs (by decide) v qs.length (cellsR qs) hown ad m c (cellsR zs) (by rw [cellsR_len, hm]) hn
      (cellsR_one zs) (by unfold maxLen; omega) hbytes hbase
    refine ⟨v', w', hrun, ?_, h3⟩
    unfold OwnR
    rw [List.length_append, hm, cellsR_app]
    exact h2

theorem wpList_appR {P : Program} (w : World) {ops : Array Oper} {rest : List Oper} {o : Oper} {a : Act} {Q : Exit → Act → World → Prop} (hgd : o.guard = none) (s x : Operand) (t : TypeId)
    (ho : o.op = .call { callee := .builtin .append, args := #[s, x], argTypes := #[t, t] })
    (base : Nat) (e : TypeId) (i : TypeInfo) (z : Value) (ht : P.underlying t = some (.slice e)) (hi : P.info? e = some i) (hz : i.zero = some z) (hsize : i.size = 2) (hby : i.bytes = 16) (hzs : z.cells.size = 2)
    (v : Value) (qs : List (Int × Int)) (hs : a.eval s = v) (hown : OwnR w base e v qs) (B : Nat) (A : Option Addr) (m c : Nat) (zs : List (Int × Int)) (hx : a.eval x = .slice A m c) (hr : RRow w B A zs) (hm : zs.length = m)
    (hbytes : (qs.length + m) * 16 ≤ 140737488355328) (hbase : base ≤ w.heap.size)
    (h : ∀ v' w', OwnR w' base e v' (qs ++ zs) → w.grownBy w' v.ownBlock → wpList P ops Q rest (a.put o.dst v') w') :
    wpList P ops Q (o :: rest) a w := by
  refine wpList_plain hgd fun K hK => ?_
  obtain ⟨v', w', hrun, h2, h3⟩ := run_appR (P := P) w base t o.type e i z ht hi hz hsize hby hzs v qs hown B A m c zs hr hm hbytes hbase
  unfold Oper.wp execOp
  simp only [ho, resolve, invoke, builtin, Sem.run_bind, Sem.run_pure, Result.andThen_ok, List.map_toArray, List.map_cons, List.map_nil, hs, hx, hrun]
  exact hK _ _ (h v' w' h2 h3)
/-- a cut of a row behind its k first ranges, in the model's own form -/
theorem RRow.cut {w : World} {B : Nat} {A : Option Addr} {ps : List (Int × Int)} (h : RRow w B A ps) (k cap : Nat) (hc : ps.length ≤ cap) : RRow w B (if cap = k then A else A.map (·.add (k * 2))) (ps.drop k) := fun hn => by
  rw [List.length_drop] at hn
  obtain ⟨b, off, rfl, hb, hcell⟩ := h (by omega)
  rw [if_neg (by omega)]
  refine ⟨b, off + k * 2, by simp [add_plain2], hb, fun j hj => ?_⟩
  rw [List.length_drop] at hj
  rw [getR_drop, show off + k * 2 + j * 2 = off + (k + j) * 2 from by omega]
  exact hcell (k + j) (by omega)
/-- one new range, in a block of its own -/
theorem RRow.one (w : World) (lo hi : Int) (t : TypeId) : RRow (w.alloc (.cells #[.int .i64 lo, .int .i64 hi] t)) (w.heap.size + 1) (some ⟨w.heap.size, 0, none⟩) [(lo, hi)] := fun _ =>
  ⟨_, 0, rfl, by omega, fun j hj => by
    have : j = 0 := by simpa using hj
    subst this
    constructor <;> simp⟩
end Go.Proofs.Ytajjelcjgcgfdaa.P
