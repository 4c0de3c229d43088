/- Rows in memory whose elements are laid as so many cells each, whatever the elements are: read, cut, appended to. Nothing of the program's. -/
import Derived.Test.YtajjelcjgcgfdaaRngRow
import Derived.Deep.RegionHeld3
namespace Go.Proofs.Ytajjelcjgcgfdaa.P
set_option linter.unusedVariables false
open Go.RowKit

/-- how an element is laid: so many cells -/
structure Lay (α : Type) where
  f : α → List Value
  k : Nat
  len : ∀ x, (f x).length = k
  one : ∀ x, ∀ u ∈ f x, u.oneCell' = true
  pos : 0 < k
section
variable {α : Type} (E : Lay α)
def Lay.cat (xs : List α) : List Value := xs.flatMap E.f
theorem Lay.cat_len (xs : List α) : (E.cat xs).length = xs.length * E.k := by
  induction xs with
  | nil => simp [Lay.cat]
  | cons x xs ih => simp only [Lay.cat, List.flatMap_cons, List.length_append, List.length_cons, E.len, Nat.succ_mul] at ih ⊢; omega
theorem Lay.cat_app (xs ys : List α) : E.cat (xs ++ ys) = E.cat xs ++ E.cat ys := by simp [Lay.cat]
theorem Lay.cat_one (xs : List α) : ∀ u ∈ E.cat xs, u.oneCell' = true := by
  intro u hu
  obtain ⟨x, _, hx⟩ := List.mem_flatMap.1 hu
  exact E.one x u hx
theorem Lay.cat_at (xs : List α) (j i : Nat) (h : j < xs.length) (hi : i < E.k) : (E.cat xs)[j * E.k + i]? = (E.f xs[j])[i]? := by
  induction xs generalizing j with
  | nil => cases h
  | cons x xs ih =>
    have e : E.cat (x :: xs) = E.f x ++ E.cat xs := rfl
    rw [e]
    cases j with
    | zero => rw [Nat.zero_mul, Nat.zero_add, List.getElem?_append_left (by rw [E.len]; exact hi)]; rfl
    | succ j =>
      rw [List.getElem?_append_right (by rw [E.len, Nat.succ_mul]; omega), E.len, show (j + 1) * E.k + i - E.k = j * E.k + i by rw [Nat.succ_mul]; omega, ih j (by simpa using h)]
      rfl
/-- 'A' leads to a row below block B that reads as xs; where xs is empty nothing is said of A -/
def RowE (w : World) (B : Nat) (A : Option Addr) (xs : List α) : Prop :=
  0 < xs.length → ∃ b off, A = some ⟨b, off, none⟩ ∧ b < B ∧ ∀ j u, (E.cat xs)[j]? = some u → w.cell? ⟨b, off + j, none⟩ = some u
variable {E}
theorem RowE.nil (w : World) (B : Nat) (A : Option Addr) : RowE E w B A [] := fun h => absurd h (by simp)
theorem RowE.keep {w w' : World} {B : Nat} {A : Option Addr} {xs : List α} (h : RowE E w B A xs) (hk : ∀ p : Addr, p.block < B → w'.cell? p = w.cell? p) : RowE E w' B A xs := fun hn => by
  obtain ⟨b, off, e, hb, hc⟩ := h hn
  exact ⟨b, off, e, hb, fun j u hj => (hk _ hb).trans (hc j u hj)⟩
theorem RowE.more {w : World} {B B' : Nat} {A : Option Addr} {xs : List α} (h : RowE E w B A xs) (hB : B ≤ B') : RowE E w B' A xs := fun hn => by
  obtain ⟨b, off, e, hb, hc⟩ := h hn
  exact ⟨b, off, e, by omega, hc⟩
theorem RowE.below {w w' : World} {B : Nat} {A : Option Addr} {xs : List α} (h : RowE E w B A xs) (hb : Below B w w') : RowE E w' B A xs := h.keep fun _ hp => hb.cell hp
theorem RowE.on {w w' : World} {A : Option Addr} {xs : List α} (h : RowE E w w.heap.size A xs) (hb : Below w.heap.size w w') : RowE E w' w'.heap.size A xs := (h.below hb).more hb.size
theorem RowE.grown {w w' : World} {B b off : Nat} {xs : List α} {k : Option Nat} (h : RowE E w B (some ⟨b, off, none⟩) xs) (g : w.grownBy w' k) (hk : some b ≠ k) : RowE E w' B (some ⟨b, off, none⟩) xs := fun hn => by
  obtain ⟨b', off', e, hb, hc⟩ := h hn
  cases e
  exact ⟨b, off, rfl, hb, fun j u hj => g.cell (hc j u hj) hk⟩
theorem RowE.take {w : World} {B : Nat} {A : Option Addr} {xs : List α} (h : RowE E w B A xs) (n : Nat) : RowE E w B A (xs.take n) := fun hn => by
  obtain ⟨b, off, e, hb, hc⟩ := h (by rw [List.length_take] at hn; omega)
  refine ⟨b, off, e, hb, fun j u hj => hc j u ?_⟩
  rw [← List.take_append_drop n xs, E.cat_app, List.getElem?_append_left (List.getElem?_eq_some_iff.1 hj).1]
  exact hj
/-- a cut of a row behind its first n, in the model's own form -/
theorem RowE.cut {w : World} {B : Nat} {A : Option Addr} {xs : List α} (h : RowE E w B A xs) (n cap : Nat) (hc : xs.length ≤ cap) : RowE E w B (if cap = n then A else A.map (·.add (n * E.k))) (xs.drop n) := fun hn => by
  rw [List.length_drop] at hn
  obtain ⟨b, off, rfl, hb, hcell⟩ := h (by omega)
  rw [if_neg (by omega)]
  refine ⟨b, off + n * E.k, by simp [add_plain2], hb, fun j u hj => ?_⟩
  rw [Nat.add_assoc]
  refine hcell (n * E.k + j) u ?_
  have hl : (E.cat (xs.take n)).length = n * E.k := by rw [E.cat_len, List.length_take, Nat.min_eq_left (by omega)]
  rw [← List.take_append_drop n xs, E.cat_app, List.getElem?_append_right (by rw [hl]; omega), hl, Nat.add_sub_cancel_left]
  exact hj
/-- what an element's cells read -/
theorem RowE.at {w : World} {b off : Nat} {xs : List α} (hc : ∀ j u, (E.cat xs)[j]? = some u → w.cell? ⟨b, off + j, none⟩ = some u) (j i : Nat) (hj : j < xs.length) (hi : i < E.k) : w.cell? ⟨b, off + (j * E.k + i), none⟩ = (E.f xs[j])[i]? := by
  have e := E.cat_at xs j i hj hi
  have hl : i < (E.f xs[j]).length := by rw [E.len]; exact hi
  rw [List.getElem?_eq_getElem hl] at e ⊢
  exact hc _ _ e

/-- 'v' owns the elements xs, in a block of its own from 'base' on -/
def OwnE (E : Lay α) (w : World) (base : Nat) (e : TypeId) (v : Value) (xs : List α) : Prop := w.ownsRow base e E.k v xs.length (E.cat xs)
theorem OwnE.nil (w : World) (base : Nat) (e : TypeId) : OwnE E w base e (.slice none 0 0) [] := ⟨by simp [Lay.cat], .inl ⟨rfl, rfl⟩⟩
theorem OwnE.lt {w : World} {base : Nat} {e : TypeId} {v : Value} {xs : List α} (h : OwnE E w base e v xs) : ∀ g, v.ownBlock = some g → base ≤ g ∧ g < w.heap.size := by
  intro g hg
  rcases h.2 with ⟨rfl, _⟩ | ⟨g', cap, cur, rfl, hb, hh, _⟩
  · cases hg
  · have : g' = g := by simpa [Value.ownBlock] using hg
    subst this
    refine ⟨hb, ?_⟩
    rcases Nat.lt_or_ge g' w.heap.size with hlt | hge
    · exact hlt
    · rw [Array.getElem?_eq_none hge] at hh; cases hh
theorem OwnE.row {w : World} {base e n : Nat} {A : Option Addr} {c : Nat} {xs : List α} (h : w.ownsRow base e E.k (.slice A n c) n (E.cat xs)) : RowE E w w.heap.size A xs := by
  intro hp
  have hl : xs.length * E.k = n * E.k := by have := h.1; rw [E.cat_len] at this; exact this
  have hl' : xs.length = n := Nat.eq_of_mul_eq_mul_right E.pos hl
  rcases h.2 with ⟨hv, h0⟩ | ⟨g, cap, cur, hv, _, hh, _⟩
  · omega
  · injection hv with hA _ hc
    subst hA hc
    have hlt : g < w.heap.size := by
      rcases Nat.lt_or_ge g w.heap.size with hlt | hge
      · exact hlt
      · rw [Array.getElem?_eq_none hge] at hh; cases hh
    refine ⟨g, 0, rfl, hlt, fun j u hj => ?_⟩
    have hjl := (List.getElem?_eq_some_iff.1 hj).1
    rw [E.cat_len, hl'] at hjl
    rw [Nat.zero_add, h.cellAt j hjl]
    simpa using hj
theorem OwnE.slice {w : World} {base : Nat} {e : TypeId} {v : Value} {xs : List α} (h : OwnE E w base e v xs) : ∃ A c, v = .slice A xs.length c ∧ xs.length ≤ c ∧ c ≤ maxLen ∧ RowE E w w.heap.size A xs := by
  have h' := h
  rcases h.2 with ⟨rfl, h0⟩ | ⟨g, cap, cur, rfl, _, _, h1, h2, _⟩
  · have e0 : xs = [] := List.eq_nil_of_length_eq_zero h0
    subst e0
    exact ⟨none, 0, rfl, Nat.le_refl _, by unfold maxLen; omega, RowE.nil _ _ _⟩
  · exact ⟨_, _, rfl, h1, h2, OwnE.row h'⟩
theorem OwnE.alloc {w : World} {base : Nat} {e : TypeId} {v : Value} {xs : List α} (h : OwnE E w base e v xs) (o : Obj) : OwnE E (w.alloc o) base e v xs := World.ownsRow.alloc h o
theorem OwnE.drew {w : World} {base : Nat} {e : TypeId} {v : Value} {xs : List α} (h : OwnE E w base e v xs) : OwnE E w.drew base e v xs := h
theorem OwnE.later {w w' : World} {base : Nat} {e : TypeId} {v : Value} {xs : List α} (h : OwnE E w base e v xs) (hb : Below w.heap.size w w') : OwnE E w' base e v xs := by
  refine ⟨h.1, ?_⟩
  rcases h.2 with hn | ⟨g, cap, cur, hv, hg, hh, r⟩
  · exact .inl hn
  · refine .inr ⟨g, cap, cur, hv, hg, ?_, r⟩
    rw [hb.block g (lt_of_block hh)]
    exact hh
theorem OwnE.kept {w w' : World} {base y : Nat} {e : TypeId} {v : Value} {xs : List α} (h : OwnE E w base e v xs) (g : w.grownBy w' (some y)) (hy : v.ownBlock ≠ some y) : OwnE E w' base e v xs := by
  refine ⟨h.1, ?_⟩
  rcases h.2 with hn | ⟨k, cap, cur, hv, hg, hh, r⟩
  · exact .inl hn
  · refine .inr ⟨k, cap, cur, hv, hg, ?_, r⟩
    rw [g.block k (lt_of_block hh) (fun e => hy (by rw [hv]; simpa [Value.ownBlock] using e))]
    exact hh
theorem OwnE.low {w : World} {base base' : Nat} {e : TypeId} {v : Value} {xs : List α} (h : OwnE E w base e v xs) (hb : base' ≤ base) : OwnE E w base' e v xs := by
  refine ⟨h.1, ?_⟩
  rcases h.2 with hn | ⟨g, cap, cur, hv, hg, r⟩
  · exact .inl hn
  · exact .inr ⟨g, cap, cur, hv, by omega, r⟩

theorem run_appE {P : Program} (w : World) (base : Nat) (t ty e : TypeId) (i : TypeInfo) (z : Value) (by_ : Nat) (ht : P.underlying t = some (.slice e)) (hi : P.info? e = some i) (hz : i.zero = some z) (hsize : i.size = E.k) (hby : i.bytes = by_) (hzs : z.cells.size = E.k) (hb0 : 0 < by_)
    (v : Value) (xs : List α) (hown : OwnE E w base e v xs) (B : Nat) (A : Option Addr) (m c : Nat) (ys : List α) (hr : RowE E w B A ys) (hm : ys.length = m)
    (hbytes : (xs.length + m) * by_ ≤ 140737488355328) (hbase : base ≤ w.heap.size) :
    ∃ v' w', (Builtin.append_ #[t, t] ty #[v, .slice A m c]).run P w = .ok v' w' ∧ OwnE E w' base e v' (xs ++ ys) ∧ w.grownBy w' v.ownBlock := by
  rcases A with _ | ad
  · have h0 : m = 0 := by
      rcases Nat.eq_zero_or_pos ys.length with h | h
      · omega
      · obtain ⟨b, off, e, _⟩ := hr h; cases e
    subst h0
    have hz0 : ys = [] := List.eq_nil_of_length_eq_zero hm
    subst hz0
    refine ⟨v, w, ?_, by simpa using hown, World.grownBy.refl w _⟩
    rcases hown.2 with ⟨rfl, _⟩ | ⟨g, cap, cur, rfl, _, _, hnc, _⟩
    · simp [Builtin.append_, run_underlying ht, sizeOf, typeInfo, hi, Builtin.lenOf, Builtin.firstCells]
    · simp [Builtin.append_, run_underlying ht, sizeOf, typeInfo, hi, Builtin.lenOf, Builtin.firstCells, hnc, storeCells]
  · have hn : ∀ j u, (E.cat ys)[j]? = some u → w.cell? (ad.add j) = some u := by
      intro j u hj
      have hl := (List.getElem?_eq_some_iff.1 hj).1
      rw [E.cat_len] at hl
      obtain ⟨b, off, e, _, hc⟩ := hr (by rcases Nat.eq_zero_or_pos ys.length with h | h; (rw [h] at hl; simp at hl); exact h)
      cases e
      rw [add_plain2]
      exact hc j u hj
    have hx : xs.length + m ≤ 140737488355328 := Nat.le_trans (by exact Nat.le_mul_of_pos_right _ hb0) hbytes
    obtain ⟨v', w', hrun, h2, h3, _, _⟩ := run_append_own_at (P := P) w base t ty e i z E.k by_ ht hi hz hsize hby hzs E.pos v xs.length (E.cat xs) hown ad m c (E.cat ys) (by rw [E.cat_len, hm]) hn
      (E.cat_one ys) (by unfold maxLen; omega) hbytes hbase
    refine ⟨v', w', hrun, ?_, h3⟩
    unfold OwnE
    rw [List.length_append, hm, E.cat_app]
    exact h2
theorem wpList_appE {P : Program} (w : World) {ops : Array Oper} {rest : List Oper} {o : Oper} {a : Act} {Q : Exit → Act → World → Prop} (hgd : o.guard = none) (s x : Operand) (t : TypeId)
    (ho : o.op = .call { callee := .builtin .append, args := #[s, x], argTypes := #[t, t] })
    (base : Nat) (e : TypeId) (i : TypeInfo) (z : Value) (by_ : Nat) (ht : P.underlying t = some (.slice e)) (hi : P.info? e = some i) (hz : i.zero = some z) (hsize : i.size = E.k) (hby : i.bytes = by_) (hzs : z.cells.size = E.k) (hb0 : 0 < by_)
    (v : Value) (xs : List α) (hs : a.eval s = v) (hown : OwnE E w base e v xs) (B : Nat) (A : Option Addr) (m c : Nat) (ys : List α) (hx : a.eval x = .slice A m c) (hr : RowE E w B A ys) (hm : ys.length = m)
    (hbytes : (xs.length + m) * by_ ≤ 140737488355328) (hbase : base ≤ w.heap.size)
    (h : ∀ v' w', OwnE E w' base e v' (xs ++ ys) → w.grownBy w' v.ownBlock → wpList P ops Q rest (a.put o.dst v') w') :
    wpList P ops Q (o :: rest) a w := by
  refine wpList_plain hgd fun K hK => ?_
  obtain ⟨v', w', hrun, h2, h3⟩ := run_appE (P := P) w base t o.type e i z by_ ht hi hz hsize hby hzs hb0 v xs hown B A m c ys hr hm hbytes hbase
  unfold Oper.wp execOp
  simp only [ho, resolve, invoke, builtin, Sem.run_bind, Sem.run_pure, Result.andThen_ok, List.map_toArray, List.map_cons, List.map_nil, hs, hx, hrun]
  exact hK _ _ (h v' w' h2 h3)
theorem step_appE {P : Program} (w : World) {ops : Array Oper} {o : Oper} {a : Act} {K : Act → World → Prop} {Q : Exit → Act → World → Prop} {F : Prop} (hgd : o.guard = none) (s x : Operand) (t : TypeId)
    (ho : o.op = .call { callee := .builtin .append, args := #[s, x], argTypes := #[t, t] })
    (base : Nat) (e : TypeId) (i : TypeInfo) (z : Value) (by_ : Nat) (ht : P.underlying t = some (.slice e)) (hi : P.info? e = some i) (hz : i.zero = some z) (hsize : i.size = E.k) (hby : i.bytes = by_) (hzs : z.cells.size = E.k) (hb0 : 0 < by_)
    (v : Value) (xs : List α) (hs : a.eval s = v) (hown : OwnE E w base e v xs) (B : Nat) (A : Option Addr) (m c : Nat) (ys : List α) (hx : a.eval x = .slice A m c) (hr : RowE E w B A ys) (hm : ys.length = m)
    (hbytes : (xs.length + m) * by_ ≤ 140737488355328) (hbase : base ≤ w.heap.size)
    (h : ∀ v' w', OwnE E w' base e v' (xs ++ ys) → w.grownBy w' v.ownBlock → K (a.put o.dst v') w') :
    if Region.wanted o (yielded ops a.tmps) = true then Oper.wp P o a w K Q else F := by
  have hw : Region.wanted o (yielded ops a.tmps) = true := by simp [Region.wanted, hgd]
  rw [if_pos hw]
  obtain ⟨v', w', hrun, h2, h3⟩ := run_appE (P := P) w base t o.type e i z by_ ht hi hz hsize hby hzs hb0 v xs hown B A m c ys hr hm hbytes hbase
  unfold Oper.wp execOp
  simp only [ho, resolve, invoke, builtin, Sem.run_bind, Sem.run_pure, Result.andThen_ok, List.map_toArray, List.map_cons, List.map_nil, hs, hx, hrun]
  exact h v' w' h2 h3
/-- an empty row of its own: '[]T{}' -/
theorem OwnE.empty (w : World) (base : Nat) (t : TypeId) (k : Nat) (hk : w.heap.size = k) (hb : base ≤ k) : OwnE E (w.alloc (.cells #[] t)) base t (.slice (some ⟨k, 0, none⟩) 0 0) [] := by
  subst hk
  exact ⟨by simp [Lay.cat], .inr ⟨w.heap.size, 0, #[], rfl, hb, heap_alloc_new w (.cells #[] t), Nat.le_refl _, by unfold maxLen; omega, by simp, by simp [Lay.cat]⟩⟩
/-- one new element, in a block of its own -/
theorem RowE.one (w : World) (x : α) (cs : Array Value) (t : TypeId) (k : Nat) (hk : w.heap.size = k) (hcs : cs.toList = E.f x) : RowE E (w.alloc (.cells cs t)) (k + 1) (some ⟨k, 0, none⟩) [x] := fun _ => by
  subst hk
  refine ⟨_, 0, rfl, by omega, fun j u hj => ?_⟩
  have e : E.cat [x] = E.f x := by simp [Lay.cat]
  rw [e, ← hcs, Array.getElem?_toList] at hj
  rw [Nat.zero_add, World.cell?, heap_alloc_new]
  exact hj
end
theorem info_partsE {P : Program} {e : TypeId} {z : Option Value} {s b : Nat} (h : (P.info? e).map (fun i => (i.zero, i.size, i.bytes)) = some (z, s, b)) : ∃ i, P.info? e = some i ∧ i.zero = z ∧ i.size = s ∧ i.bytes = b := by
  obtain ⟨i, hi, he⟩ := Option.map_eq_some_iff.1 h
  exact ⟨i, hi, (Prod.mk.inj he).1, (Prod.mk.inj (Prod.mk.inj he).2).1, (Prod.mk.inj (Prod.mk.inj he).2).2⟩
end Go.Proofs.Ytajjelcjgcgfdaa.P
