/- The statements' own some, for any bound. -/
import Derived.Test.YtnccibaifffhhaaGrpC
namespace Go.Proofs.Ytnccibaifffhhaa
set_option linter.unusedVariables false
open Go.RowKit P
theorem smK_any (k : Nat) (hk : k ≤ 100000) (A : Option Addr) (len cap : Nat) (w : World) (hl : len ≤ cap) (hc : cap ≤ maxLen) :
    Calls Try.prog 40 #[.slice A len cap, .int .i64 k] w fun e w' => e = .returned (.slice A (min len k) cap) ∧ w = w' := by
  unfold maxLen at hc
  by_cases h : k < len
  · have e := Lib.hid (show min len k = k by omega)
    go_enter Try.func40, Try.ntmps40
    go_wp2
    go_ret
    exact ⟨by rw [e.out]; rfl, rfl⟩
  · have e := Lib.hid (show min len k = len by omega)
    go_enter Try.func40, Try.ntmps40
    go_wp2
    go_ret
    exact ⟨by rw [e.out]; rfl, rfl⟩
end Go.Proofs.Ytnccibaifffhhaa
