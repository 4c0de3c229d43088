/- What a piece is; the least of four; three blocks laid one behind the other. Nothing of the program's. -/
import Derived.Test.YtnccibaifffhhaaGrpSc
namespace Go.Proofs.Ytnccibaifffhhaa.P
set_option linter.unusedVariables false
open Go.RowKit
theorem run_min4 {P : Program} (w : World) (ts : Array TypeId) (t : TypeId) (k k1 k2 k3 : IntKind) (a b c d m : Int) (h : min (min a b) (min c d) = m) :
    (Builtin.min_ ts t #[.int k a, .int k1 b, .int k2 c, .int k3 d]).run P w = .ok (.int k m) w := by
  have e : (if d < (if c < (if b < a then b else a) then c else (if b < a then b else a)) then d else (if c < (if b < a then b else a) then c else (if b < a then b else a))) = m := by
    rw [← h]
    repeat' split
    all_goals omega
  simp [Builtin.min_, Builtin.min2, e]
/-- where the piece ends -/
def pcTo (s : Sn) (room credit : Int) : Int := pcLo s room + pcN s room credit
def stLost (s : Sn) (room credit : Int) : List (Int × Int) := if 0 < pcN s room credit then cutL (pcLo s room, pcTo s room credit - 1) s.lost else s.lost
def stNext (s : Sn) (room credit : Int) : Int := max s.next (pcTo s room credit)
/-- the sender behind the step -/
def stepS (s : Sn) (room credit : Int) : Sn := { s with lost := stLost s room credit, next := stNext s room credit }
end Go.Proofs.Ytnccibaifffhhaa.P
namespace Go.Proofs.Ytnccibaifffhhaa
set_option linter.unusedVariables false
open Go.RowKit P
theorem threeX (w : World) (a b c : Array Value) (T1 T2 T3 : TypeId) : (((w.alloc (.cells a T1)).alloc (.cells b T2)).alloc (.cells c T3)).heap[w.heap.size]? = some (.cells a T1 (0, 0)) ∧ (((w.alloc (.cells a T1)).alloc (.cells b T2)).alloc (.cells c T3)).heap[w.heap.size + 1]? = some (.cells b T2 (0, 0)) ∧
    (((w.alloc (.cells a T1)).alloc (.cells b T2)).alloc (.cells c T3)).heap[w.heap.size + 2]? = some (.cells c T3 (0, 0)) ∧ Below w.heap.size w (((w.alloc (.cells a T1)).alloc (.cells b T2)).alloc (.cells c T3)) := by
  obtain ⟨h1, h2, h3⟩ := twoX w a b T1 T2
  have s2 : ((w.alloc (.cells a T1)).alloc (.cells b T2)).heap.size = w.heap.size + 2 := by simp
  have h4 := heap_alloc_new ((w.alloc (.cells a T1)).alloc (.cells b T2)) (.cells c T3)
  rw [s2] at h4
  exact ⟨(Below.heap_alloc _ _ _ (by rw [s2]; omega)).trans h1, (Below.heap_alloc _ _ _ (by rw [s2]; omega)).trans h2, h4, h3.alloc (by rw [s2]; omega) _⟩
end Go.Proofs.Ytnccibaifffhhaa
