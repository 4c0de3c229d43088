/- Several texts in one. -/
import Derived.Test.YtnccibaifffhhaaGrpB
import Derived.Test.YtnccibaifffhhaaRows
import Derived.WalkLawsBesides
import Derived.WalkSpells
import Derived.Outline
import Derived.Handy
import Derived.Deep.LoopGhost
import Derived.Test.YtnccibaifffhhaaRngSome
/- The document's answers on numbers and ranges: upTo, isRange. -/
namespace Go.Proofs.Ytnccibaifffhhaa
set_option linter.unusedVariables false
open Go.RowKit P

end Go.Proofs.Ytnccibaifffhhaa
/- The document's answers on ranges: upTo, isRange, RangesFault, rangeFault, inside, RangeHas. -/
namespace Go.Proofs.Ytnccibaifffhhaa
set_option linter.unusedVariables false
open Go.RowKit P

theorem lastHi_bd {l : List (Int × Int)} (h : okL l) : -2 ≤ lastHi (-2) l ∧ lastHi (-2) l ≤ 4611686018427387903 := by
  have : ∀ {a : Int} {l : List (Int × Int)}, okFrom a l → -2 ≤ a → a ≤ 4611686018427387903 → -2 ≤ lastHi a l ∧ lastHi a l ≤ 4611686018427387903 := by
    intro a l
    induction l generalizing a with
    | nil => intro _ h1 h2; exact ⟨h1, h2⟩
    | cons x l ih =>
      intro h h1 h2
      have e : lastHi a (x :: l) = lastHi x.2 l := rfl
      rw [e]
      exact ih h.2.2 (by have := h.1.1; have := h.1.2.1; omega) h.1.2.2
  exact this h (Int.le_refl _) (by omega)
theorem ok_snoc (l : List (Int × Int)) (k : Nat) (h : k < l.length) : okL (l.take (k + 1)) ↔ okL (l.take k) ∧ okR (l.getD k (0, 0)) ∧ lastHi (-2) (l.take k) + 2 ≤ (l.getD k (0, 0)).1 := by
  unfold okL
  rw [takeR_snoc l k h, okFrom_snoc]

end Go.Proofs.Ytnccibaifffhhaa
