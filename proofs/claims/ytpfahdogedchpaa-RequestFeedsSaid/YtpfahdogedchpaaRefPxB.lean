/- The document's answers on numbers behind bits: PrefixBytes. -/
import Derived.Test.YtpfahdogedchpaaGrpE
import Derived.Test.YtpfahdogedchpaaGrpA
namespace Go.Proofs.Ytpfahdogedchpaa
set_option linter.unusedVariables false
open Go.RowKit P

/-- the eight tops, by place -/
theorem tops_at (k : Nat) (h : k < 8) : (#[.int .i64 1, .int .i64 3, .int .i64 7, .int .i64 15, .int .i64 31, .int .i64 63, .int .i64 127, .int .i64 255] : Array Value)[k]? = some (.int .i64 (topW ((k : Int) + 1))) := by
  match k, h with
  | 0, _ => rfl
  | 1, _ => rfl
  | 2, _ => rfl
  | 3, _ => rfl
  | 4, _ => rfl
  | 5, _ => rfl
  | 6, _ => rfl
  | 7, _ => rfl
theorem pxL_T (first w n : Int) : pxL first w n = pxT first (topW w) n := rfl
end Go.Proofs.Ytpfahdogedchpaa
