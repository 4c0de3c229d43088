/- The walks of TableInserts, TableResizes. -/
import Derived.Test.YtajjelcjgcgfdaaTabP5
import Derived.Test.YtajjelcjgcgfdaaTabP6
import Derived.Test.YtajjelcjgcgfdaaOpenTb
namespace Go.Proofs.Ytajjelcjgcgfdaa
set_option linter.unusedVariables false
open Go.RowKit P

theorem tableResizes_walk (v : Value) (t : Tb) (n : Int) (W : World) (hv : TbVal W W.heap.size v t) (hw : TbWf t) :
    Calls Try.prog 4 #[v, .int .i64 n] W fun e w' => e = .returned (.bool true) ∧ Below W.heap.size W w' := tableResizes_core tres_any v t n W hv hw
theorem tableInserts_walk (v : Value) (t : Tb) (f : Fld) (W : World) (hv : TbVal W W.heap.size v t) (hw : TbWf t) (hf : FdWf f) :
    Calls Try.prog 3 #[v, fdV f] W fun e w' => e = .returned (.bool true) ∧ Below W.heap.size W w' := tableInserts_core tchk_any tins_any tsize_any v t f W hv hw hf
end Go.Proofs.Ytajjelcjgcgfdaa
