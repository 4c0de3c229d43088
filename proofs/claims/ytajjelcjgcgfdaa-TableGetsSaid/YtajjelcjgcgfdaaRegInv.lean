/- A region that draws its order, by an invariant over what has come up: each operation is looked at once, whatever came up before it. Nothing of the program's. -/
import Derived.Deep.RegionHeld
namespace Go.Proofs.Ytajjelcjgcgfdaa.P
set_option linter.unusedVariables false

section
variable {P : Program} {ops : Array Oper} {Q : Exit → Act → World → Prop} {md : Region.Mode}
/-- how many have not come up -/
def pend (l : List Bool) : Nat := l.countP (fun b => !b)
theorem pend_set : ∀ (l : List Bool) (i : Nat), l[i]? = some false → pend (l.set i true) + 1 = pend l
  | [], i, h => by simp at h
  | b :: l, 0, h => by
    simp only [List.getElem?_cons_zero, Option.some.injEq] at h
    subst h
    simp [pend]
  | b :: l, i + 1, h => by
    simp only [List.getElem?_cons_succ] at h
    have := pend_set l i h
    simp only [pend, List.set_cons_succ, List.countP_cons] at *
    omega
theorem pend_zero : ∀ (l : List Bool), pend l = 0 → ∀ i : Nat, l[i]? ≠ some false
  | [], _, i => by simp
  | b :: l, h, 0 => by
    simp only [pend, List.countP_cons] at h
    cases b
    · simp at h
    · simp
  | b :: l, h, i + 1 => by
    simp only [List.getElem?_cons_succ]
    exact pend_zero l (by simp only [pend, List.countP_cons] at *; omega) i

theorem ready_bit {i : Nat} {listed : Array Bool} (h : i ∈ Region.ready md ops listed) : listed.toList[i]? = some false := by
  have h1 := (mem_ready.1 h).1
  rw [Array.getElem?_toList]
  rcases Nat.lt_or_ge i listed.size with h2 | h2
  · simp only [Array.getD, h2, dite_true] at h1
    simp [h2, ← h1]
  · simp only [Array.getD, Nat.not_lt.2 h2, dite_false] at h1
    cases h1

/-- the law: I holds at the beginning, each operation that may come up hands it on, and in the end it gives what is wanted -/
theorem wpAny_inv (I : Array Bool → Act → World → Prop) (hfin : ∀ listed a w, I listed a w → Region.ready md ops listed = [] → Q .normal a w)
    (hI : ∀ listed a w, I listed a w → ∀ i ∈ Region.ready md ops listed, wpOp P ops Q i (I (listed.setIfInBounds i true)) a w) :
    ∀ fuel (listed : Array Bool) a w, pend listed.toList ≤ fuel → I listed a w → wpAny P md ops Q fuel listed a w
  | 0, listed, a, w, hp, h => by
    have hr : Region.ready md ops listed = [] := by
      rcases hc : Region.ready md ops listed with _ | ⟨i, l⟩
      · rfl
      · exact absurd (ready_bit (i := i) (md := md) (ops := ops) (by rw [hc]; simp)) (pend_zero _ (by omega) i)
    exact ⟨hr, hfin _ _ _ h hr⟩
  | fuel + 1, listed, a, w, hp, h => by
    refine ⟨fun hr => hfin _ _ _ h hr, fun i hi => ?_⟩
    have hb := pend_set _ _ (ready_bit hi)
    refine wpOp_mono (fun a' w' h' => ?_) (hI _ _ _ h i hi)
    exact wpAny_inv I hfin hI fuel _ _ _ (by rw [Array.toList_setIfInBounds]; omega) h'

theorem wp_region_inv {id : Nat} {a : Act} {w : World} (I : Array Bool → Act → World → Prop) (hm : P.follows .mixedOrders = true) (h0 : I (Array.replicate ops.size false) a w.drew)
    (hfin : ∀ listed a w, I listed a w → Region.ready .any ops listed = [] → Q .normal a w)
    (hI : ∀ listed a w, I listed a w → ∀ i ∈ Region.ready .any ops listed, wpOp P ops Q i (I (listed.setIfInBounds i true)) a w) : (Code.region id ops true).wp P Q a w :=
  wp_region_any hm (wpAny_inv I hfin hI _ _ _ _ (by rw [Array.toList_replicate]; unfold pend; exact Nat.le_trans List.countP_le_length (by simp)) h0)
end
end Go.Proofs.Ytajjelcjgcgfdaa.P
