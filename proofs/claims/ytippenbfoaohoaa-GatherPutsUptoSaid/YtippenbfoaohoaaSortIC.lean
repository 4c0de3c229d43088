/- What is asked of sort.Ints. -/
import Derived.Test.YtippenbfoaohoaaRows
import Derived.Laws.AppendOwn
import Derived.RowKit
namespace Go.Proofs.Ytippenbfoaohoaa
set_option linter.unusedVariables false
open Go.RowKit

/-- what is asked of sort.Ints, over a row of the call's own -/
def SortInts (P : Program) (f : FuncId) : Prop := ∀ (base : Nat) (v : Value) (ks : List Int) (w : World), w.ownsRow base 3 1 v ks.length (ks.map (.int .i64)) → base ≤ w.heap.size → ks.length ≤ 10000000 →
  Calls P f #[v] w fun e w' => e = .returned (.tuple #[]) ∧ w'.ownsRow base 3 1 v ks.length ((ks.mergeSort fun x y => decide (x ≤ y)).map (.int .i64)) ∧ w.grownBy w' v.ownBlock
end Go.Proofs.Ytippenbfoaohoaa
