/- The verifier's texts' 'sameRanges': two rows that read the same are the same. -/
import Derived.Test.YtnccibaifffhhaaRngChk
import Derived.Deep.LoopGhost
namespace Go.Proofs.Ytnccibaifffhhaa
set_option linter.unusedVariables false
open Go.RowKit P

end Go.Proofs.Ytnccibaifffhhaa
