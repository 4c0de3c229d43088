/- The walk of SenderPieces. -/
import Derived.Test.YtkpkgegonfcgnaaSnLawP
import Derived.Test.YtkpkgegonfcgnaaSnPiece
import Derived.Test.YtkpkgegonfcgnaaRefSnPiece
import Derived.Test.YtkpkgegonfcgnaaOpenSnV
namespace Go.Proofs.Ytkpkgegonfcgnaa
set_option linter.unusedVariables false
open Go.RowKit P
theorem senderPieces_walk (v : Value) (s : Sn) (room credit : Int) (w : World) (hv : SnVal w w.heap.size v s) (hw : SnWf s) :
    Calls Try.prog 5 #[v, .int .i64 room, .int .i64 credit] w fun e w' => e = .returned (.bool true) ∧ Below w.heap.size w w' :=
  senderPieces_core snPiece_any refSnPc_any v s room credit w hv hw
end Go.Proofs.Ytkpkgegonfcgnaa
