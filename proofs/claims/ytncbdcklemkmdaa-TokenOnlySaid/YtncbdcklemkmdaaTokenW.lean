/- The walks of TokenMakes, TokenChecks, TokenGood, TokenOnly and TokenApart. -/
import Derived.Test.YtncbdcklemkmdaaTokenLawC
import Derived.Test.YtncbdcklemkmdaaTokenGoodC
import Derived.Test.YtncbdcklemkmdaaTokenOnlyC
import Derived.Test.YtncbdcklemkmdaaTkMake
namespace Go.Proofs.Ytncbdcklemkmdaa
set_option linter.unusedVariables false
open Go.RowKit P

theorem tokenMakes_walk (x a now : Int) (x0 : 0 ≤ x) (x1 : x ≤ 18446744073709551615) (hn : -9223372036854775808 ≤ now ∧ now ≤ 9223372036854775807) (W : World) :
    Calls Try.prog 3 #[.int .u64 x, .int .i64 a, .int .i64 now] W fun e w' => e = .returned (.bool true) ∧ Below W.heap.size W w' :=
  tokenMakes_core make_any x a now x0 x1 hn W
theorem tokenChecks_walk (x a now : Int) (x0 : 0 ≤ x) (x1 : x ≤ 18446744073709551615) (hn : -9223372036854775808 ≤ now ∧ now ≤ 9223372036854775807) (A : Option Addr) (n c : Nat) (z : List Int) (W : World) (h : IsRow .u8 W A n c z) (hr : c * 1 ≤ 140737488351232) :
    Calls Try.prog 4 #[.int .u64 x, .int .i64 a, .int .i64 now, .slice A n c] W fun e w' => e = .returned (.bool true) ∧ Below W.heap.size W w' :=
  tokenChecks_core check_any x a now x0 x1 hn A n c z W h hr
theorem tokenGood_walk (x a now later : Int) (W : World) :
    Calls Try.prog 5 #[.int .i64 x, .int .i64 a, .int .i64 now, .int .i64 later] W fun e w' => e = .returned (.bool true) ∧ Below W.heap.size W w' :=
  tokenGood_core make_any check_any x a now later W
theorem tokenApart_walk (x a b now then_ : Int) (ha : -9223372036854775808 ≤ a ∧ a ≤ 9223372036854775807) (hb : -9223372036854775808 ≤ b ∧ b ≤ 9223372036854775807) (W : World) :
    Calls Try.prog 7 #[.int .i64 x, .int .i64 a, .int .i64 b, .int .i64 now, .int .i64 then_] W fun e w' => e = .returned (.bool true) ∧ Below W.heap.size W w' :=
  tokenApart_core make_any x a b now then_ ha hb W
theorem tokenOnly_walk (x a o now at_ y : Int) (y0 : 0 ≤ y) (y1 : y ≤ 255) (W : World) :
    Calls Try.prog 6 #[.int .i64 x, .int .i64 a, .int .i64 o, .int .i64 now, .int .i64 at_, .int .u8 y] W fun e w' => e = .returned (.bool true) ∧ Below W.heap.size W w' :=
  tokenOnly_core make_any check_any x a o now at_ y y0 y1 W
end Go.Proofs.Ytncbdcklemkmdaa
