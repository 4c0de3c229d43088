/- The document's answers on ranges: RangeAdded. -/
import Derived.Test.YtgfbonfoimiknaaRefJoin
import Derived.Test.YtgfbonfoimiknaaStepR
import Derived.Deep.RegionHeld3
namespace Go.Proofs.Ytgfbonfoimiknaa.P
set_option linter.unusedVariables false
open Go.RowKit

theorem RRow.one' (w : World) (lo hi : Int) (t : TypeId) (k : Nat) (hk : w.heap.size = k) : RRow (w.alloc (.cells #[.int .i64 lo, .int .i64 hi] t)) (k + 1) (some ⟨k, 0, none⟩) [(lo, hi)] := by
  subst hk; exact RRow.one w lo hi t
theorem RRow.grown {w w' : World} {B b off : Nat} {ps : List (Int × Int)} {k : Option Nat} (h : RRow w B (some ⟨b, off, none⟩) ps) (g : w.grownBy w' k) (hk : some b ≠ k) : RRow w' B (some ⟨b, off, none⟩) ps := fun hn => by
  obtain ⟨b', off', e, hb, hc⟩ := h hn
  cases e
  exact ⟨b, off, rfl, hb, fun j hj => ⟨g.cell (hc j hj).1 hk, g.cell (hc j hj).2 hk⟩⟩
end Go.Proofs.Ytgfbonfoimiknaa.P
namespace Go.Proofs.Ytgfbonfoimiknaa
set_option linter.unusedVariables false
open Go.RowKit P

end Go.Proofs.Ytgfbonfoimiknaa
