/- The walk of HeadBack. -/
import Derived.Test.YtaccedlpnngdhaaDoorHeadBackC
import Derived.Test.YtaccedlpnngdhaaDoorHdDecAny
import Derived.Test.YtaccedlpnngdhaaDoorHdEncode
import Derived.Test.YtaccedlpnngdhaaDoorOpen
import Derived.Test.YtaccedlpnngdhaaDoorOpenFr
namespace Go.Proofs.YtaccedlpnngdhaaDoor
set_option linter.unusedVariables false
open Go.RowKit P

theorem headBack_walk (x0 : RawT) (hs : x0.text.size ≤ maxLen) (at_ : Int) (A : Option Addr) (len cap : Nat) (z : List Int) (W : World) (T : Tab W) (h : IsRow .u8 W A len cap z) (hreach : cap * 1 ≤ 140737488351232) :
    Calls Tryd.prog 4 #[.agg #[.int .i64 x0.kind, .int .i64 x0.a, .int .i64 x0.b, .string x0.text], .slice A len cap, .int .i64 at_] W fun e w' => e = .returned (.bool true) ∧ Below W.heap.size W w' :=
  headBack_core x0.kind x0.a x0.b x0.text hs at_ A len cap z W (fun v h w hv _ => hdCheck_any v h w hv) hdDecode_any (fun v h w' hb hv _ => hdEncode_any v h w' hv (T.below hb)) h hreach
end Go.Proofs.YtaccedlpnngdhaaDoor
