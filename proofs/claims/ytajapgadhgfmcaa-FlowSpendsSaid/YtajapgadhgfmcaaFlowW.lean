/- The walks of stage 9. -/
import Derived.Test.YtajapgadhgfmcaaFlow
import Derived.Test.YtajapgadhgfmcaaFlowLawC
import Derived.Test.YtajapgadhgfmcaaFlowSumC
import Derived.Test.YtajapgadhgfmcaaOpen
namespace Go.Proofs.Ytajapgadhgfmcaa
set_option linter.unusedVariables false
open Go.RowKit P

theorem i64_of {n : Int} (h : (Lit.int .i64 n).wf = true) : -9223372036854775808 ≤ n ∧ n ≤ 9223372036854775807 := bounds_i64 h
theorem flowSpends_walk (x y a : Int) (W : World) (h : (Lit.int .i64 a).wf = true) :
    Calls Try.prog 3 #[.agg #[.int .i64 x, .int .i64 y], .int .i64 a] W fun e w' => e = .returned (.bool true) ∧ Below W.heap.size W w' :=
  flowSpends_core flCheck_any flSpend_any x y a (i64_of h) W
theorem flowGrants_walk (x y a : Int) (W : World) :
    Calls Try.prog 4 #[.agg #[.int .i64 x, .int .i64 y], .int .i64 a] W fun e w' => e = .returned (.bool true) ∧ Below W.heap.size W w' :=
  flowGrants_core flGrant_any x y a W
theorem flowSum_walk (A : Option Addr) (len cap : Nat) (rs : List RawT) (w : World) (h : RawRow w w.heap.size A rs) (hl : rs.length = len) (hlc : len ≤ cap) (hcm : cap ≤ maxLen) :
    Calls Try.prog 5 #[.slice A len cap] w fun e w' => e = .returned (.bool true) ∧ Below w.heap.size w w' :=
  flowSum_core flCheck_any flSpend_any flGrant_any A len cap rs w h hl hlc hcm
end Go.Proofs.Ytajapgadhgfmcaa
