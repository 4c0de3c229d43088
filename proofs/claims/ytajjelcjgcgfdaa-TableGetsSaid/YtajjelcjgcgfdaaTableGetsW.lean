/- The walk of TableGets. -/
import Derived.Test.YtajjelcjgcgfdaaTabP7
import Derived.Test.YtajjelcjgcgfdaaTabFind
import Derived.Test.YtajjelcjgcgfdaaOpenTb
namespace Go.Proofs.Ytajjelcjgcgfdaa
set_option linter.unusedVariables false
open Go.RowKit P

theorem tableGets_walk (v : Value) (t : Tb) (n : Int) (f : Fld) (W : World) (hv : TbVal W W.heap.size v t) (hw : TbWf t) (hf : FdWf f) (hn : -9223372036854775808 ≤ n ∧ n ≤ 9223372036854775807) :
    Calls Try.prog 5 #[v, .int .i64 n, fdV f] W fun e w' => e = .returned (.bool true) ∧ Below W.heap.size W w' := tableGets_core tget_any tfin_any v t n f W hv hw hn hf
end Go.Proofs.Ytajjelcjgcgfdaa
