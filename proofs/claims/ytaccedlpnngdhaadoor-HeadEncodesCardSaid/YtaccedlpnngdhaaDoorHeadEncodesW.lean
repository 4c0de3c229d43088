/- The walk of HeadEncodes. -/
import Derived.Test.YtaccedlpnngdhaaDoorHeadEncodesC
import Derived.Test.YtaccedlpnngdhaaDoorHdEncode
import Derived.Test.YtaccedlpnngdhaaDoorRefHdFault
import Derived.Test.YtaccedlpnngdhaaDoorRefHdBytes
import Derived.Test.YtaccedlpnngdhaaDoorOpenHd
namespace Go.Proofs.YtaccedlpnngdhaaDoor
set_option linter.unusedVariables false
open Go.RowKit P

theorem headEncodes_walk (v : Value) (h : Hd) (W : World) (T : Tab W) (hv : HdVal W W.heap.size v h) (hw : HdWf h) :
    Calls Tryd.prog 3 #[v] W fun e w' => e = .returned (.bool true) ∧ Below W.heap.size W w' :=
  headEncodes_core (fun v h w hv _ => hdCheck_any v h w hv) v h W (fun w' hb hv' => hdEncode_any v h w' hv' (T.below hb)) refHdFault_any (fun v h w hv hw => refHdBytes_any v h w hv hw) hv hw
end Go.Proofs.YtaccedlpnngdhaaDoor
