/- The verifier's texts' 'sameRanges', both ways: rows of ranges are the same just if they read the same. -/
import Derived.Test.YtnccibaifffhhaaRngSame
namespace Go.Proofs.Ytnccibaifffhhaa
set_option linter.unusedVariables false
open Go.RowKit P

theorem listR_eq {ps qs : List (Int × Int)} (hl : ps.length = qs.length) : (ps = qs) ↔ ∀ j, j < ps.length → ps.getD j (0, 0) = qs.getD j (0, 0) := by
  constructor
  · rintro rfl _ _; rfl
  · intro h
    refine List.ext_getElem hl fun j h1 h2 => ?_
    have := h j h1
    rw [List.getD_eq_getElem?_getD, List.getD_eq_getElem?_getD, List.getElem?_eq_getElem h1, List.getElem?_eq_getElem h2] at this
    exact this

/-- up to k the rows are the same just if b -/
def SamePre (ps qs : List (Int × Int)) (k : Nat) (b : Bool) : Prop := b = true ↔ ∀ j, j < k → ps.getD j (0, 0) = qs.getD j (0, 0)
theorem SamePre.zero (ps qs : List (Int × Int)) : SamePre ps qs 0 true := ⟨fun _ j hj => absurd hj (Nat.not_lt_zero j), fun _ => rfl⟩
theorem SamePre.ok {ps qs : List (Int × Int)} {k : Nat} {x : Int × Int} (h : SamePre ps qs k true) (hp : ps.getD k (0, 0) = x) (hq : qs.getD k (0, 0) = x) : SamePre ps qs (k + 1) true :=
  ⟨fun _ j hj => (Nat.lt_succ_iff_lt_or_eq.1 hj).elim (h.1 rfl j) (fun e => by rw [e, hp, hq]), fun _ => rfl⟩
theorem SamePre.no {ps qs : List (Int × Int)} {k : Nat} {x y : Int × Int} (hp : ps.getD k (0, 0) = x) (hq : qs.getD k (0, 0) = y) (hne : x ≠ y) : SamePre ps qs (k + 1) false :=
  ⟨fun h => (by cases h), fun h => absurd (by rw [← hp, ← hq]; exact h k (Nat.lt_succ_self k)) hne⟩
theorem SamePre.false {ps qs : List (Int × Int)} {k : Nat} (h : SamePre ps qs k false) : decide (ps = qs) = false := decide_eq_false (by
  rintro e
  have := h.2 (fun j hj => by rw [e])
  cases this)
theorem SamePre.true {ps qs : List (Int × Int)} {k : Nat} (h : SamePre ps qs k true) (hl : ps.length = qs.length) (hk : ps.length = k) : decide (ps = qs) = true := decide_eq_true ((listR_eq hl).2 (fun j hj => h.1 rfl j (hk ▸ hj)))

end Go.Proofs.Ytnccibaifffhhaa
