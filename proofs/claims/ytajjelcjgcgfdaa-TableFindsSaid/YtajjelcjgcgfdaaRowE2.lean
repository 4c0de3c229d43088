/- Appends onto own rows of any elements, saying where the new row lies. Nothing of the program's. -/
import Derived.Test.YtajjelcjgcgfdaaRowE
namespace Go.Proofs.Ytajjelcjgcgfdaa.P
set_option linter.unusedVariables false
open Go.RowKit
section
variable {α : Type} {E : Lay α}
theorem run_appE2 {P : Program} (w : World) (base : Nat) (t ty e : TypeId) (i : TypeInfo) (z : Value) (by_ : Nat) (ht : P.underlying t = some (.slice e)) (hi : P.info? e = some i) (hz : i.zero = some z) (hsize : i.size = E.k) (hby : i.bytes = by_) (hzs : z.cells.size = E.k) (hb0 : 0 < by_)
    (v : Value) (xs : List α) (hown : OwnE E w base e v xs) (B : Nat) (A : Option Addr) (m c : Nat) (ys : List α) (hr : RowE E w B A ys) (hm : ys.length = m)
    (hbytes : (xs.length + m) * by_ ≤ 140737488355328) (hbase : base ≤ w.heap.size) :
    ∃ v' w', (Builtin.append_ #[t, t] ty #[v, .slice A m c]).run P w = .ok v' w' ∧ OwnE E w' base e v' (xs ++ ys) ∧ w.grownBy w' v.ownBlock ∧ (v'.ownBlock = v.ownBlock ∨ v'.ownBlock = some w.heap.size) := by
  rcases A with _ | ad
  · have h0 : m = 0 := by
      rcases Nat.eq_zero_or_pos ys.length with h | h
      · omega
      · obtain ⟨b, off, e, _⟩ := hr h; cases e
    subst h0
    have hz0 : ys = [] := List.eq_nil_of_length_eq_zero hm
    subst hz0
    refine ⟨v, w, ?_, by simpa using hown, World.grownBy.refl w _, .inl rfl⟩
    rcases hown.2 with ⟨rfl, _⟩ | ⟨g, cap, cur, rfl, _, _, hnc, _⟩
    · simp [Builtin.append_, run_underlying ht, sizeOf, typeInfo, hi, Builtin.lenOf, Builtin.firstCells]
    · simp [Builtin.append_, run_underlying ht, sizeOf, typeInfo, hi, Builtin.lenOf, Builtin.firstCells, hnc, storeCells]
  · have hn : ∀ j u, (E.cat ys)[j]? = some u → w.cell? (ad.add j) = some u := by
      intro j u hj
      have hl := (List.getElem?_eq_some_iff.1 hj).1
      rw [E.cat_len] at hl
      obtain ⟨b, off, e, _, hc⟩ := hr (by rcases Nat.eq_zero_or_pos ys.length with h | h; (rw [h] at hl; simp at hl); exact h)
      cases e
      rw [add_plain2]
      exact hc j u hj
    have hx : xs.length + m ≤ 140737488355328 := Nat.le_trans (by exact Nat.le_mul_of_pos_right _ hb0) hbytes
    obtain ⟨v', w', hrun, h2, h3, _, h5⟩ := run_append_own_at (P := P) w base t ty e i z E.k by_ ht hi hz hsize hby hzs E.pos v xs.length (E.cat xs) hown ad m c (E.cat ys) (by rw [E.cat_len, hm]) hn
      (E.cat_one ys) (by unfold maxLen; omega) hbytes hbase
    refine ⟨v', w', hrun, ?_, h3, h5⟩
    unfold OwnE
    rw [List.length_append, hm, E.cat_app]
    exact h2
theorem step_appE2 {P : Program} (w : World) {ops : Array Oper} {o : Oper} {a : Act} {K : Act → World → Prop} {Q : Exit → Act → World → Prop} {F : Prop} (hgd : o.guard = none) (s x : Operand) (t : TypeId)
    (ho : o.op = .call { callee := .builtin .append, args := #[s, x], argTypes := #[t, t] })
    (base : Nat) (e : TypeId) (i : TypeInfo) (z : Value) (by_ : Nat) (ht : P.underlying t = some (.slice e)) (hi : P.info? e = some i) (hz : i.zero = some z) (hsize : i.size = E.k) (hby : i.bytes = by_) (hzs : z.cells.size = E.k) (hb0 : 0 < by_)
    (v : Value) (xs : List α) (hs : a.eval s = v) (hown : OwnE E w base e v xs) (B : Nat) (A : Option Addr) (m c : Nat) (ys : List α) (hx : a.eval x = .slice A m c) (hr : RowE E w B A ys) (hm : ys.length = m)
    (hbytes : (xs.length + m) * by_ ≤ 140737488355328) (hbase : base ≤ w.heap.size)
    (h : ∀ v' w', OwnE E w' base e v' (xs ++ ys) → w.grownBy w' v.ownBlock → (v'.ownBlock = v.ownBlock ∨ v'.ownBlock = some w.heap.size) → K (a.put o.dst v') w') :
    if Region.wanted o (yielded ops a.tmps) = true then Oper.wp P o a w K Q else F := by
  have hw : Region.wanted o (yielded ops a.tmps) = true := by simp [Region.wanted, hgd]
  rw [if_pos hw]
  obtain ⟨v', w', hrun, h2, h3, h4⟩ := run_appE2 (P := P) w base t o.type e i z by_ ht hi hz hsize hby hzs hb0 v xs hown B A m c ys hr hm hbytes hbase
  unfold Oper.wp execOp
  simp only [ho, resolve, invoke, builtin, Sem.run_bind, Sem.run_pure, Result.andThen_ok, List.map_toArray, List.map_cons, List.map_nil, hs, hx, hrun]
  exact h v' w' h2 h3 h4
end
end Go.Proofs.Ytajjelcjgcgfdaa.P
