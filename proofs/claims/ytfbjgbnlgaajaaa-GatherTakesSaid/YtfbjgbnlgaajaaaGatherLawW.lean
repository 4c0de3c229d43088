/- The walks of GatherChecks and GatherWidens. -/
import Derived.Test.YtfbjgbnlgaajaaaGaWiden
import Derived.Test.YtfbjgbnlgaajaaaOpenGa
namespace Go.Proofs.Ytfbjgbnlgaajaaa
set_option linter.unusedVariables false
open Go.RowKit P

theorem held_fit {g : Ga} (h : ∀ p ∈ g.held, p.2.length ≤ 140737488351232) : ∀ p ∈ g.held, p.2.length ≤ 140737488355328 := fun p hp => Nat.le_trans (h p hp) (by decide)
theorem gatherChecks_walk (v : Value) (g : Ga) (n : Int) (w : World) (hn : (Lit.int .i64 n).wf = true) (hv : GaVal w w.heap.size v g) (hw : GaWf g) (hl : ∀ p ∈ g.held, p.2.length ≤ 140737488351232) :
    Calls Try.prog 3 #[v, .int .i64 n] w fun e w' => e = .returned (.bool true) ∧ Below w.heap.size w w' :=
  gatherChecks_core gaChk_any gaBegin_any v g n (ga_i64.1 hn) w hv hw (held_fit hl)
theorem gatherWidens_walk (v : Value) (g : Ga) (n : Int) (w : World) (hv : GaVal w w.heap.size v g) (hw : GaWf g) (hl : ∀ p ∈ g.held, p.2.length ≤ 140737488351232) :
    Calls Try.prog 6 #[v, .int .i64 n] w fun e w' => e = .returned (.bool true) ∧ Below w.heap.size w w' :=
  gatherWidens_core gaWiden_any v g n w hv hw (held_fit hl)
end Go.Proofs.Ytfbjgbnlgaajaaa
