/- The walk of GatherTakes. -/
import Derived.Test.YtfbjgbnlgaajaaaGaTake
import Derived.Test.YtfbjgbnlgaajaaaGatherLawW
namespace Go.Proofs.Ytfbjgbnlgaajaaa
set_option linter.unusedVariables false
open Go.RowKit P

theorem gatherTakes_walk (v : Value) (g : Ga) (w : World) (hv : GaVal w w.heap.size v g) (hw : GaWf g) (hl : ∀ p ∈ g.held, p.2.length ≤ 140737488351232) :
    Calls Try.prog 5 #[v] w fun e w' => e = .returned (.bool true) ∧ Below w.heap.size w w' :=
  gatherTakes_core gaTake_any v g w hv hw (held_fit hl)
end Go.Proofs.Ytfbjgbnlgaajaaa
