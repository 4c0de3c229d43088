/- A whole block stored at once: the world behind it is a name, with what the block is then. Nothing of the program's. -/
import Derived.Test.YtnccibaifffhhaaGrpB
import Derived.Deep.MidRow
namespace Go.Proofs.Ytnccibaifffhhaa.P
set_option linter.unusedVariables false
open Go.RowKit

theorem setCells_full : ∀ (vs : List Value) (o : Nat) (w : World) (pre : List Value) (post : List Value) (b : Nat) (T : TypeId), pre.length = o → w.heap[b]? = some (.cells (pre ++ post).toArray T (0, 0)) → vs.length = post.length →
    (w.setCells b o vs).heap[b]? = some (.cells (pre ++ vs).toArray T (0, 0)) ∧ w.grownBy (w.setCells b o vs) (some b)
  | [], o, w, pre, post, b, T, ho, h, hl => by
    have : post = [] := List.eq_nil_of_length_eq_zero hl.symm
    subst this
    exact ⟨h, World.grownBy.refl w _⟩
  | v :: vs, o, w, pre, post, b, T, ho, h, hl => by
    rcases post with _ | ⟨p, post⟩
    · cases hl
    have h1 := bk_set h o v
    have e : ((pre ++ p :: post).toArray.setIfInBounds o v) = ((pre ++ [v]) ++ post).toArray := by
      subst ho
      simp
    rw [e] at h1
    obtain ⟨k1, k2⟩ := setCells_full vs (o + 1) (w.setCell ⟨b, o, none⟩ v) (pre ++ [v]) post b T (by simp [ho]) h1 (by simpa using hl)
    exact ⟨by rw [List.append_assoc] at k1; exact k1, gr_trans (gr_set w b o v) k2⟩
theorem store_blk {P : Program} {w : World} {b : Nat} {cs cs' : Array Value} {T ty : TypeId} (h : w.heap[b]? = some (.cells cs T (0, 0))) (hl : cs'.size = cs.size) (hi : (P.info? ty).map (·.size) = some cs'.size) (h1 : cs'.all (·.oneCell') = true) :
    ∃ W', (Instr.storeAt ty (.pointer (some ⟨b, 0, none⟩)) (.agg cs')).run P w = .ok () W' ∧ W'.heap[b]? = some (.cells cs' T (0, 0)) ∧ w.grownBy W' (some b) := by
  have ht : w.there b 0 cs'.size := fun j hj => by
    rw [Nat.zero_add, bk_cell h, Array.getElem?_eq_getElem (by omega)]
    exact ⟨rfl, bk_frz h j⟩
  obtain ⟨k1, k2⟩ := setCells_full cs'.toList 0 w [] cs.toList b T rfl (by simpa using h) (by simpa using hl)
  exact ⟨_, run_storeAt_mid w b 0 ty cs' ht hi h1, by simpa using k1, k2⟩
theorem loadVar_blk {P : Program} {w : World} {b : Nat} {cs : Array Value} {T ty : TypeId} {d : TypeDesc} (h : w.heap[b]? = some (.cells cs T (0, 0))) (hu : P.underlying ty = some d) (hd : d.isRow = true) (hi : (P.info? ty).map (·.size) = some cs.size) :
    (loadVar ty ⟨b, 0, none⟩).run P w = .ok (.agg cs) w := by
  have hr : w.rangeAt b 0 cs.toList := fun j v hj => by rw [Nat.zero_add, bk_cell h]; simpa using hj
  exact run_loadVar_mid w b 0 ty cs.toList d hr hu hd (by simpa using hi)
theorem loadAt_blk {P : Program} {w : World} {b : Nat} {cs : Array Value} {T ty : TypeId} {d : TypeDesc} (h : w.heap[b]? = some (.cells cs T (0, 0))) (hu : P.underlying ty = some d) (hd : d.isRow = true) (hi : (P.info? ty).map (·.size) = some cs.size) :
    (Instr.loadAt ty (.pointer (some ⟨b, 0, none⟩))).run P w = .ok (.agg cs) w := by
  simp only [Instr.loadAt, Instr.sureAddr, Sem.run_bind, Sem.run_pure, Result.andThen_ok, loadVar_blk h hu hd hi]
/-- at a plain region's list: a whole block stored -/
theorem wpList_store_blk {P : Program} {ops : Array Oper} {rest : List Oper} {op : Oper} {a : Act} {w : World} {Q : Exit → Act → World → Prop} (hgd : op.guard = none) (ty : TypeId) (x y : Operand) (ho : op.op = .store ty x y)
    (b : Nat) {cs cs' : Array Value} {T : TypeId} (h : w.heap[b]? = some (.cells cs T (0, 0))) (hx : a.eval x = .pointer (some ⟨b, 0, none⟩)) (hy : a.eval y = .agg cs') (hl : cs'.size = cs.size) (hi : (P.info? ty).map (·.size) = some cs'.size) (h1 : cs'.all (·.oneCell') = true)
    (k : ∀ W', W'.heap[b]? = some (.cells cs' T (0, 0)) → w.grownBy W' (some b) → wpList P ops Q rest (a.put op.dst undef) W') : wpList P ops Q (op :: rest) a w := by
  have ht : w.there b 0 cs'.size := fun j hj => by
    rw [Nat.zero_add, bk_cell h, Array.getElem?_eq_getElem (by omega)]
    exact ⟨rfl, bk_frz h j⟩
  obtain ⟨k1, k2⟩ := setCells_full cs'.toList 0 w [] cs.toList b T rfl (by simpa using h) (by simpa using hl)
  exact wpList_store_mid hgd ty x y ho b 0 cs' hx hy ht hi h1 (k _ (by simpa using k1) k2)
end Go.Proofs.Ytnccibaifffhhaa.P
