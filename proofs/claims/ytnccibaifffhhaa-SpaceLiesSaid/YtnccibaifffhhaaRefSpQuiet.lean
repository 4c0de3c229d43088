/- The document's answers on spaces: SpaceQuiet. -/
import Derived.Test.YtnccibaifffhhaaRefSpFault
import Derived.Test.YtnccibaifffhhaaGrpSj
namespace Go.Proofs.Ytnccibaifffhhaa
set_option linter.unusedVariables false
open Go.RowKit P

/-- an answer of the document's functions: a space that may share memory with what was given -/
structure SpSendR (r : Sp × Int × Int) (w : World) (e : Ending) (w' : World) : Prop where
  be : Below w.heap.size w w'
  ex : ∃ u, e = .returned (.tuple #[u, .int .i64 r.2.1, .int .i64 r.2.2]) ∧ SpVal w' w'.heap.size u r.1
structure SpHearR (r : Sp × Bool × Int) (w : World) (e : Ending) (w' : World) : Prop where
  be : Below w.heap.size w w'
  ex : ∃ u, e = .returned (.tuple #[u, .bool r.2.1, .int .i64 r.2.2]) ∧ SpVal w' w'.heap.size u r.1
structure SpLeapR (r : Sp × Int) (w : World) (e : Ending) (w' : World) : Prop where
  be : Below w.heap.size w w'
  ex : ∃ u, e = .returned (.tuple #[u, .int .i64 r.2]) ∧ SpVal w' w'.heap.size u r.1
structure SpOverR (r : Sp × List Pcl × Int) (w : World) (e : Ending) (w' : World) : Prop where
  be : Below w.heap.size w w'
  ex : ∃ u l, e = .returned (.tuple #[u, l, .int .i64 r.2.2]) ∧ SpVal w' w'.heap.size u r.1 ∧ PlSl w' w'.heap.size l r.2.1
structure SpAckR (r : Sp × List Pcl × List Pcl × Int) (w : World) (e : Ending) (w' : World) : Prop where
  be : Below w.heap.size w w'
  ex : ∃ u l m, e = .returned (.tuple #[u, l, m, .int .i64 r.2.2.2]) ∧ SpVal w' w'.heap.size u r.1 ∧ PlSl w' w'.heap.size l r.2.1 ∧ PlSl w' w'.heap.size m r.2.2.1
end Go.Proofs.Ytnccibaifffhhaa
