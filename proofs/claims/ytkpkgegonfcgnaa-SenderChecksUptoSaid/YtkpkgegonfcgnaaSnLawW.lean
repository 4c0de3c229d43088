/- The walks of the statements on senders. -/
import Derived.Test.YtkpkgegonfcgnaaSnLawC
import Derived.Test.YtkpkgegonfcgnaaSnF
import Derived.Test.YtkpkgegonfcgnaaOpenSn
namespace Go.Proofs.Ytkpkgegonfcgnaa
set_option linter.unusedVariables false
open Go.RowKit P
theorem senderChecks_walk (v : Value) (s : Sn) (w : World) (hv : SnVal w w.heap.size v s) (hw : SnWf s) :
    Calls Try.prog 3 #[v] w fun e w' => e = .returned (.bool true) ∧ Below w.heap.size w w' :=
  senderChecks_core snChk_any snOv_any v s w hv hw
end Go.Proofs.Ytkpkgegonfcgnaa
