/- The walk of LockMixes. -/
import Derived.Test.YtlmckklgmijapaaLockMixesC
import Derived.Test.YtlmckklgmijapaaLkMix
namespace Go.Proofs.Ytlmckklgmijapaa
set_option linter.unusedVariables false
open Go.RowKit P

theorem lockMixes_walk (x n : Int) (x0 : 0 ≤ x) (x1 : x ≤ 18446744073709551615) (w : World) :
    Calls Try.prog 3 #[.int .u64 x, .int .i64 n] w fun e w' => e = .returned (.bool true) ∧ Below w.heap.size w w' :=
  lockMixes_core mix_any key_any refMix_any refKey_any x n x0 x1 w
end Go.Proofs.Ytlmckklgmijapaa
