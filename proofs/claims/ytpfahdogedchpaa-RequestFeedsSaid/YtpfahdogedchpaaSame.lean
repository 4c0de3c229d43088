/- The verifier's texts' test that two rows of bytes are the same. -/
import Derived.Test.YtpfahdogedchpaaGrpC
namespace Go.Proofs.Ytpfahdogedchpaa
set_option linter.unusedVariables false
open Go.RowKit P

theorem sameBytes_eq (w : World) (B B' n c n' c' : Nat) (A A' : Option Addr) (zs : List Int) (h : BRow w B A zs) (h' : BRow w B' A' zs) (hn : zs.length = n) (hn' : zs.length = n') :
    Calls Try.prog 26 #[.slice A n c, .slice A' n' c'] w fun e w' => e = .returned (.bool true) ∧ w = w' := by
  have c1 := run_str (P := Try.prog) h hn 22 9 5 c Try.underlying22 Try.underlying5 Try.underlying9
  have c2 := run_str (P := Try.prog) h' hn' 22 9 5 c' Try.underlying22 Try.underlying5 Try.underlying9
  clear h h' hn hn'
  go_enter Try.func26, Try.ntmps26
  go_wp2
  go_ret
  exact ⟨rfl, rfl⟩

end Go.Proofs.Ytpfahdogedchpaa
