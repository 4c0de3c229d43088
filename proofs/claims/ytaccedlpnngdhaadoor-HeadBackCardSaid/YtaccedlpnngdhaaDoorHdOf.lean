/- The texts' own 'headOf': a head that may be, whatever the raw thing. -/
import Derived.Test.YtaccedlpnngdhaaDoorHdOf0
import Derived.Test.YtaccedlpnngdhaaDoorHdOf1
import Derived.Test.YtaccedlpnngdhaaDoorHdOf2
namespace Go.Proofs.YtaccedlpnngdhaaDoor
set_option linter.unusedVariables false
open Go.RowKit P

theorem headOf_any (k x y : Int) (s : ByteArray) (hs : s.size ≤ maxLen) (w : World) :
    Calls Tryd.prog 11 #[.agg #[.int .i64 k, .int .i64 x, .int .i64 y, .string s]] w (HdOut w) := by
  rcases (show k % 3 = 0 ∨ k % 3 = 1 ∨ k % 3 = 2 by omega) with hk | hk | hk
  · rcases (show y % 4 = 0 ∨ y % 4 = 1 ∨ y % 4 = 2 ∨ y % 4 = 3 by omega) with hj | hj | hj | hj
    · exact headOf_0_0 k x y _ s hk hj rfl hs w
    · exact headOf_0_1 k x y _ s hk hj rfl hs w
    · exact headOf_0_2 k x y _ s hk hj rfl hs w
    · exact headOf_0_3 k x y _ s hk hj rfl hs w
  · rcases (show y % 4 = 0 ∨ y % 4 = 1 ∨ y % 4 = 2 ∨ y % 4 = 3 by omega) with hj | hj | hj | hj
    · exact headOf_1_0 k x y _ s hk hj rfl hs w
    · exact headOf_1_1 k x y _ s hk hj rfl hs w
    · exact headOf_1_2 k x y _ s hk hj rfl hs w
    · exact headOf_1_3 k x y _ s hk hj rfl hs w
  · rcases (show y % 4 = 0 ∨ y % 4 = 1 ∨ y % 4 = 2 ∨ y % 4 = 3 by omega) with hj | hj | hj | hj
    · exact headOf_2_0 k x y _ s hk hj rfl hs w
    · exact headOf_2_1 k x y _ s hk hj rfl hs w
    · exact headOf_2_2 k x y _ s hk hj rfl hs w
    · exact headOf_2_3 k x y _ s hk hj rfl hs w
end Go.Proofs.YtaccedlpnngdhaaDoor
