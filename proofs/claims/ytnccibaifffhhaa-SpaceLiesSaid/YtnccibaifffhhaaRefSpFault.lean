/- The document's Check of a space. -/
import Derived.Test.YtnccibaifffhhaaSpFlt
import Derived.Deep.CutRange
namespace Go.Proofs.Ytnccibaifffhhaa
set_option linter.unusedVariables false
open Go.RowKit P

theorem pc4C {w : World} {b : Nat} {a0 a1 a2 a3 : Value} {T : TypeId} (h : w.heap[b]? = some (.cells #[a0, a1, a2, a3] T (0, 0))) :
    w.cell? ⟨b, 0, none⟩ = some a0 ∧ w.cell? ⟨b, 1, none⟩ = some a1 ∧ w.cell? ⟨b, 2, none⟩ = some a2 ∧ w.cell? ⟨b, 3, none⟩ = some a3 := ⟨bk_cell h 0, bk_cell h 1, bk_cell h 2, bk_cell h 3⟩
end Go.Proofs.Ytnccibaifffhhaa
