/- The walk of SenderWrites. -/
import Derived.Test.YtkpkgegonfcgnaaSnLaws
import Derived.Test.YtkpkgegonfcgnaaSnWrite
import Derived.Test.YtkpkgegonfcgnaaRefSnGrant
import Derived.Test.YtkpkgegonfcgnaaOpenSn
namespace Go.Proofs.Ytkpkgegonfcgnaa
set_option linter.unusedVariables false
open Go.RowKit P
theorem senderWrites_walk (v : Value) (s : Sn) (A : Option Addr) (m c : Nat) (zs : List Int) (fin : Bool) (n : Int) (w : World) (hv : SnVal w w.heap.size v s) (hw : SnWf s) (hz : IsRow .u8 w A m c zs) (hm : m ≤ 1048576) :
    Calls Try.prog 4 #[v, .slice A m c, .bool fin, .int .i64 n] w fun e w' => e = .returned (.bool true) ∧ Below w.heap.size w w' :=
  senderWrites_core snWrite_any snGrant_any refSnWr_any refSnGr_any v _ s (zs.take m) fin n w hv hw (row_bsl hz).1 (by rw [(row_bsl hz).2.1]; exact hm)
end Go.Proofs.Ytkpkgegonfcgnaa
