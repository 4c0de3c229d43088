/- The walk of HeadAny. -/
import Derived.Test.YtaccedlpnngdhaaDoorHeadAnyC
import Derived.Test.YtaccedlpnngdhaaDoorHdDecAny
import Derived.Test.YtaccedlpnngdhaaDoorHdEncode
namespace Go.Proofs.YtaccedlpnngdhaaDoor
set_option linter.unusedVariables false
open Go.RowKit P

theorem headAny_walk (a0 : Option Addr) (len cap : Nat) (z0 : List Int) (W : World) (T : Tab W) (h : IsRow .u8 W a0 len cap z0) (hr : cap * 1 ≤ 140737488351232) :
    Calls Tryd.prog 5 #[.slice a0 len cap] W fun e w' => e = .returned (.bool true) ∧ Below W.heap.size W w' :=
  headAny_core a0 len cap z0 W (fun v h w hv _ => hdCheck_any v h w hv) hdDecode_any (fun v h w' hb hv _ => hdEncode_any v h w' hv (T.below hb)) h hr
end Go.Proofs.YtaccedlpnngdhaaDoor
