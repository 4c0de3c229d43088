/- A block of cells, all written one behind the other. Nothing of the program's. -/
import Derived.Test.YtkmkcpjmhcpjpaaGrpB
namespace Go.Proofs.Ytkmkcpjmhcpjpaa.P
set_option linter.unusedVariables false
open Go.RowKit

def setAll (w : World) (b : Nat) : Nat → List Value → World
  | _, [] => w
  | i, v :: vs => setAll (w.setCell ⟨b, i, none⟩ v) b (i + 1) vs
theorem set_parts (l : List Value) (i : Nat) (v : Value) (vs : List Value) (h : i + (vs.length + 1) ≤ l.length) :
    (l.set i v).take (i + 1) ++ vs ++ (l.set i v).drop (i + 1 + vs.length) = l.take i ++ (v :: vs) ++ l.drop (i + (vs.length + 1)) := by
  have h1 : (l.set i v).take (i + 1) = l.take i ++ [v] := by
    apply List.ext_getElem?
    intro k
    rw [List.getElem?_take, List.getElem?_set, List.getElem?_append, List.length_take, List.getElem?_take]
    by_cases h1 : k < i
    · rw [if_pos (by omega), if_neg (by omega), if_pos (by omega), if_pos h1]
    · by_cases h2 : k = i
      · subst h2
        rw [if_pos (by omega), if_pos rfl, if_pos (by omega), if_neg (by omega)]
        simp [show k - min k l.length = 0 by omega]
      · rw [if_neg (by omega), if_neg (by omega)]
        rw [List.getElem?_eq_none]
        simp; omega
  have h2 : (l.set i v).drop (i + 1 + vs.length) = l.drop (i + (vs.length + 1)) := by
    rw [show i + (vs.length + 1) = i + 1 + vs.length by omega]
    exact List.drop_set_of_lt (by omega)
  rw [h1, h2]
  simp
theorem setAll_is {b : Nat} {T : TypeId} : ∀ (vs : List Value) (i : Nat) (w : World) (l : List Value), w.heap[b]? = some (.cells l.toArray T (0, 0)) → i + vs.length ≤ l.length →
    (setAll w b i vs).heap[b]? = some (.cells (l.take i ++ vs ++ l.drop (i + vs.length)).toArray T (0, 0)) ∧ w.grownBy (setAll w b i vs) (some b)
  | [], i, w, l, h, hl => by
    refine ⟨?_, ⟨rfl, rfl, rfl, Nat.le_refl _, fun _ _ _ => rfl⟩⟩
    simp only [setAll, List.append_nil, List.length_nil, Nat.add_zero, List.take_append_drop]
    exact h
  | v :: vs, i, w, l, h, hl => by
    rw [List.length_cons] at hl
    have h1 : (w.setCell ⟨b, i, none⟩ v).heap[b]? = some (.cells (l.set i v).toArray T (0, 0)) := by simpa using bk_set h i v
    have ih := setAll_is vs (i + 1) _ _ h1 (by rw [List.length_set]; omega)
    rw [set_parts l i v vs hl] at ih
    exact ⟨ih.1, gr_trans (gr_set w b i v) ih.2⟩
/-- all of a block written -/
theorem setAll_full {w : World} {b : Nat} {T : TypeId} {cs : Array Value} (h : w.heap[b]? = some (.cells cs T (0, 0))) (vs : List Value) (hl : vs.length = cs.size) :
    (setAll w b 0 vs).heap[b]? = some (.cells vs.toArray T (0, 0)) ∧ (∀ k, (setAll w b 0 vs).cell? ⟨b, k, none⟩ = vs[k]?) ∧ w.grownBy (setAll w b 0 vs) (some b) := by
  have h' : w.heap[b]? = some (.cells cs.toList.toArray T (0, 0)) := by simpa using h
  have k := setAll_is vs 0 w cs.toList h' (by simp; omega)
  have e : cs.toList.take 0 ++ vs ++ cs.toList.drop (0 + vs.length) = vs := by
    rw [List.take_zero, List.nil_append, List.drop_eq_nil_of_le (by simp; omega), List.append_nil]
  rw [e] at k
  exact ⟨k.1, fun j => by rw [bk_cell k.1 j]; simp, k.2⟩
end Go.Proofs.Ytkmkcpjmhcpjpaa.P
