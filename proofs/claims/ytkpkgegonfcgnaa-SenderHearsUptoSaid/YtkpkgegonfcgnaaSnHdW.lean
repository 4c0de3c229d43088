/- The walk of SenderHears. -/
import Derived.Test.YtkpkgegonfcgnaaSnLaws
import Derived.Test.YtkpkgegonfcgnaaSnHeard
import Derived.Test.YtkpkgegonfcgnaaRefSnHeard
import Derived.Test.YtkpkgegonfcgnaaOpenSnV
namespace Go.Proofs.Ytkpkgegonfcgnaa
set_option linter.unusedVariables false
open Go.RowKit P
theorem senderHears_walk (v : Value) (s : Sn) (off n : Int) (fin : Bool) (w : World) (hv : SnVal w w.heap.size v s) (hw : SnWf s) (hn : -9223372036854775808 ≤ n ∧ n ≤ 9223372036854775807) :
    Calls Try.prog 6 #[v, .int .i64 off, .int .i64 n, .bool fin] w fun e w' => e = .returned (.bool true) ∧ Below w.heap.size w w' :=
  senderHears_core snHeard_any refSnHd_any v s off n fin w hv hw hn
end Go.Proofs.Ytkpkgegonfcgnaa
