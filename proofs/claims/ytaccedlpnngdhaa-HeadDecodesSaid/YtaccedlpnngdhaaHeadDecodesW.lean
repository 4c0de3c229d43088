/- The walk of HeadDecodes. -/
import Derived.Test.YtaccedlpnngdhaaHeadDecodesC
import Derived.Test.YtaccedlpnngdhaaHdDecAny
import Derived.Test.YtaccedlpnngdhaaRefHdOf
namespace Go.Proofs.Ytaccedlpnngdhaa
set_option linter.unusedVariables false
open Go.RowKit P

theorem headDecodes_walk (a0 : Option Addr) (len cap : Nat) (z0 : List Int) (W : World) (h : IsRow .u8 W a0 len cap z0) (hr : cap * 1 ≤ 140737488351232) :
    Calls Try.prog 3 #[.slice a0 len cap] W fun e w' => e = .returned (.bool true) ∧ Below W.heap.size W w' :=
  headDecodes_core hdDecode_any (fun zs hy w => refHdOf_any zs hy w) a0 len cap z0 W h hr
end Go.Proofs.Ytaccedlpnngdhaa
