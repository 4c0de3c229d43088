/- The walk of SenderLoses. -/
import Derived.Test.YtkpkgegonfcgnaaSnLaws
import Derived.Test.YtkpkgegonfcgnaaSnLose
import Derived.Test.YtkpkgegonfcgnaaRefSnLost
import Derived.Test.YtkpkgegonfcgnaaOpenSnV
namespace Go.Proofs.Ytkpkgegonfcgnaa
set_option linter.unusedVariables false
open Go.RowKit P
theorem senderLoses_walk (v : Value) (s : Sn) (off n : Int) (fin : Bool) (w : World) (hv : SnVal w w.heap.size v s) (hw : SnWf s) (hn : -9223372036854775808 ≤ n ∧ n ≤ 9223372036854775807) :
    Calls Try.prog 7 #[v, .int .i64 off, .int .i64 n, .bool fin] w fun e w' => e = .returned (.bool true) ∧ Below w.heap.size w w' :=
  senderLoses_core snLose_any refSnLs_any v s off n fin w hv hw hn
end Go.Proofs.Ytkpkgegonfcgnaa
