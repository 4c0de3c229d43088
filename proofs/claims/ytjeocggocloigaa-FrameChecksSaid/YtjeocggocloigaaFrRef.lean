/- What Check says, as the document's answers reckon it. Nothing of the program's. -/
import Derived.Test.YtjeocggocloigaaFrMath
namespace Go.Proofs.Ytjeocggocloigaa.P
set_option linter.unusedVariables false

def inS (s : List Int) (c : Int) : Bool := decide (c ∈ s)
def upB (n m : Int) : Bool := decide (0 ≤ n) && decide (n ≤ m)
def nbV (h : Bool) (n : Int) : Bool := !upB n 4611686018427387903 || (!h && !(n == 0))
theorem nbV_eq (h : Bool) (n : Int) : numBad h n = nbV h n := by
  unfold numBad nbV upB
  by_cases e : n = 0
  · subst e; simp
  · have : (n == 0) = false := by simp [e]
    rw [this]; simp [e]
theorem faultR {f : Fr} {s : List Int} (h : partsOf f.kind = some s) (c1 : f.data.length ≤ 120) (c2 : f.rs.length ≤ 6) :
    faultF f = if (nbV (inS s 105) f.id || nbV (inS s 111) f.off || nbV (inS s 99 || inS s 119) f.code) = true then 6 else if (inS s 100 && decide (4611686018427387903 < f.off + f.data.length)) = true then 6
      else if ((decide (0 < f.rs.length) == inS s 114) && decide (downL f.rs) && !(decide (0 < f.data.length) && !inS s 100) && !(f.fin && !inS s 102)) = true then 0 else 3 := by
  unfold faultF
  rw [h]
  simp only
  rw [if_neg (by omega)]
  simp only [nbV_eq]
  unfold inS
  by_cases k1 : nbV (decide (105 ∈ s)) f.id = true ∨ nbV (decide (111 ∈ s)) f.off = true ∨ nbV (decide (99 ∈ s) || decide (119 ∈ s)) f.code = true
  · rw [if_pos k1, if_pos (by rcases k1 with e | e | e <;> simp [e])]
  rw [if_neg k1]
  have k1' : (nbV (decide (105 ∈ s)) f.id || nbV (decide (111 ∈ s)) f.off || nbV (decide (99 ∈ s) || decide (119 ∈ s)) f.code) = false := by
    simp only [not_or, Bool.not_eq_true] at k1
    simp [k1.1, k1.2.1, k1.2.2]
  rw [k1']
  rw [if_neg (by decide : ¬ false = true)]
  have ho : 111 ∉ s → f.off = 0 := fun hs => by
    have : nbV (decide (111 ∈ s)) f.off = false := by
      simp only [not_or, Bool.not_eq_true] at k1
      exact k1.2.1
    unfold nbV at this
    simp [hs] at this
    exact this.2
  by_cases k2 : 111 ∈ s ∧ 100 ∈ s ∧ 4611686018427387903 < f.off + f.data.length
  · rw [if_pos k2, if_pos (by simp only [Bool.and_eq_true, decide_eq_true_eq]; exact k2.2)]
  rw [if_neg k2]
  have k2' : (decide (100 ∈ s) && decide (4611686018427387903 < f.off + (f.data.length : Int))) = false := by
    by_cases a : 100 ∈ s
    · have : ¬ 4611686018427387903 < f.off + (f.data.length : Int) := fun b => by
        by_cases c : 111 ∈ s
        · exact k2 ⟨c, a, b⟩
        · have := ho c; omega
      simp [a, this]
    · simp [a]
  rw [k2', if_neg (by decide : ¬ false = true)]
  by_cases k3 : decide (0 < f.rs.length) ≠ decide (114 ∈ s) ∨ ¬ downL f.rs ∨ (0 < f.data.length ∧ 100 ∉ s) ∨ (f.fin = true ∧ 102 ∉ s)
  · rw [if_pos k3]
    have : ((decide (0 < f.rs.length) == decide (114 ∈ s)) && decide (downL f.rs) && !(decide (0 < f.data.length) && !decide (100 ∈ s)) && !(f.fin && !decide (102 ∈ s))) = false := by
      rcases k3 with e | e | e | e
      · have : (decide (0 < f.rs.length) == decide (114 ∈ s)) = false := by simpa using e
        rw [this]; rfl
      · simp [e]
      · simp [e.1, e.2]
      · simp [e.1, e.2]
    rw [this]; rfl
  · rw [if_neg k3]
    have d1 : decide (0 < f.rs.length) = decide (114 ∈ s) := Decidable.byContradiction fun e => k3 (.inl e)
    have d2 : downL f.rs := Decidable.byContradiction fun e => k3 (.inr (.inl e))
    have d3 : (decide (0 < f.data.length) && !decide (100 ∈ s)) = false := by
      by_cases a : 0 < f.data.length
      · by_cases b : 100 ∈ s
        · simp [b]
        · exact absurd (.inr (.inr (.inl ⟨a, b⟩))) k3
      · simp [a]
    have d4 : (f.fin && !decide (102 ∈ s)) = false := by
      cases a : f.fin
      · rfl
      · by_cases b : 102 ∈ s
        · simp [b]
        · exact absurd (.inr (.inr (.inr ⟨a, b⟩))) k3
    rw [d1, d3, d4]
    simp [d2]
end Go.Proofs.Ytjeocggocloigaa.P
