/- The walk of MixApart, over what is asked of Mix and Key. -/
import Derived.Test.YtgfbonfoimiknaaLkMath
import Derived.Test.YtgfbonfoimiknaaRows
import Derived.WalkLawsBesides
import Derived.WalkSpells
import Derived.Outline
import Derived.Handy
import Derived.Below
namespace Go.Proofs.Ytgfbonfoimiknaa
set_option linter.unusedVariables false
open Go.RowKit P

theorem wd_inj {a b : Int} (a0 : -9223372036854775808 ≤ a ∧ a ≤ 9223372036854775807) (b0 : -9223372036854775808 ≤ b ∧ b ≤ 9223372036854775807) (h : wd a = wd b) : a = b := by
  unfold wd at h
  omega
end Go.Proofs.Ytgfbonfoimiknaa
