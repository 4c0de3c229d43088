/- The walks of LockBack, LockFixed and MixApart. -/
import Derived.Test.YtlmckklgmijapaaLockBackC
import Derived.Test.YtlmckklgmijapaaLockFixedC
import Derived.Test.YtlmckklgmijapaaMixApartC
import Derived.Test.YtlmckklgmijapaaLkOpen
namespace Go.Proofs.Ytlmckklgmijapaa
set_option linter.unusedVariables false
open Go.RowKit P

theorem lockBack_walk (x n at_ : Int) (A1 A2 : Option Addr) (n1 c1 n2 c2 : Nat) (z1 z2 : List Int) (W : World) (h1 : IsRow .u8 W A1 n1 c1 z1) (r1 : c1 * 1 ≤ 140737488351232) (h2 : IsRow .u8 W A2 n2 c2 z2) (r2 : c2 * 1 ≤ 140737488351232) :
    Calls Try.prog 6 #[.int .i64 x, .int .i64 n, .slice A1 n1 c1, .slice A2 n2 c2, .int .i64 at_] W fun e w' => e = .returned (.bool true) ∧ Below W.heap.size W w' :=
  lockBack_core seal_any open_any x n at_ A1 A2 n1 c1 n2 c2 z1 z2 W h1 r1 h2 r2
theorem lockFixed_walk (x n at_ y : Int) (y0 : 0 ≤ y) (y1 : y ≤ 255) (A1 A2 : Option Addr) (n1 c1 n2 c2 : Nat) (z1 z2 : List Int) (W : World) (h1 : IsRow .u8 W A1 n1 c1 z1) (r1 : c1 * 1 ≤ 140737488351232) (h2 : IsRow .u8 W A2 n2 c2 z2) (r2 : c2 * 1 ≤ 140737488351232) :
    Calls Try.prog 7 #[.int .i64 x, .int .i64 n, .slice A1 n1 c1, .slice A2 n2 c2, .int .i64 at_, .int .u8 y] W fun e w' => e = .returned (.bool true) ∧ Below W.heap.size W w' :=
  lockFixed_core seal_any open_any x n at_ y y0 y1 A1 A2 n1 c1 n2 c2 z1 z2 W h1 r1 h2 r2
theorem mixApart_walk (a b s : Int) (a0 : -9223372036854775808 ≤ a ∧ a ≤ 9223372036854775807) (b0 : -9223372036854775808 ≤ b ∧ b ≤ 9223372036854775807) (w : World) :
    Calls Try.prog 8 #[.int .i64 a, .int .i64 b, .int .i64 s] w fun e w' => e = .returned (.bool true) ∧ Below w.heap.size w w' :=
  mixApart_core mix_any key_any a b s a0 b0 w
end Go.Proofs.Ytlmckklgmijapaa
