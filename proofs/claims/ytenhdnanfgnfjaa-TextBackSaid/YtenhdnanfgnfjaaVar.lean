/- What varint.Size answers, and the mask of the verifier's texts: contracts by a walk of the Go text. -/
import Derived.Test.YtenhdnanfgnfjaaVarMath
import Derived.Test.YtenhdnanfgnfjaaRows
import Derived.Test.YtenhdnanfgnfjaaMath
import Derived.WalkKit
import Derived.Handy
import Derived.Lib.Hide
import Derived.WalkLawsBesides
import Derived.WalkSpells
import Derived.Outline
import Derived.Deep.QuietTactic
import Derived.BigQuiet
namespace Go.Proofs.Ytenhdnanfgnfjaa
set_option linter.unusedVariables false
open Go.RowKit P

theorem number_any (n : Int) (w : World) : Calls Try.prog 17 #[.int .i64 n] w fun e w' => e = .returned (.int .i64 (num n)) ∧ w = w' := by
  have hn := and_num n
  go_enter Try.func17, Try.ntmps17
  go_wp2
  go_ret
  exact ⟨rfl, rfl⟩

end Go.Proofs.Ytenhdnanfgnfjaa
