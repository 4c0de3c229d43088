/- What is asked of readers of seals. Nothing of the program's. -/
import Derived.Test.YtncbdcklemkmdaaLkBack
import Derived.Test.YtncbdcklemkmdaaFrVal
import Derived.Test.YtncbdcklemkmdaaStr
import Derived.OwnWalk
import Derived.Laws.OwnMore
namespace Go.Proofs.Ytncbdcklemkmdaa.P
set_option linter.unusedVariables false
open Go.RowKit

/-- what is asked of the document's reader of seals -/
def LkStr (key : Nat) (n : Int) (hd zs : List Int) (e : Ending) : Prop :=
  match openL key n hd zs with
  | .ok t => e = .returned (.tuple #[.string (strOfNums t), .int .i64 0])
  | .error x => e = .returned (.tuple #[.string ⟨#[]⟩, .int .i64 x])
/-- what is asked of the project's -/
def LkOpen (key : Nat) (n : Int) (hd zs : List Int) (w : World) (e : Ending) (w' : World) : Prop :=
  Below w.heap.size w w' ∧ ∃ d, match openL key n hd zs with
  | .ok t => e = .returned (.tuple #[d, .int .i64 0]) ∧ BSl w' w'.heap.size d t
  | .error x => e = .returned (.tuple #[d, .int .i64 x]) ∧ BSl w' w'.heap.size d []
theorem BSl.on {w w' : World} {v : Value} {zs : List Int} (h : BSl w w.heap.size v zs) (hb : Below w.heap.size w w') : BSl w' w'.heap.size v zs := (h.below hb).more hb.size
/-- what is asked of a writer of seals: a row of its own -/
def SealDoes (P : Program) (f : FuncId) (E : TypeId) : Prop := ∀ (key : Nat) (n : Int) (v1 v2 : Value) (hd tx : List Int) (w : World), key < 18446744073709551616 → BSl w w.heap.size v1 hd → hd.length ≤ 140737488351240 → BSl w w.heap.size v2 tx → tx.length ≤ 140737488351240 →
  Calls P f #[.int .u64 key, .int .i64 n, v1, v2] w fun e w' => Below w.heap.size w w' ∧ ∃ d, e = .returned d ∧ w'.ownsRow w.heap.size E 1 d (sealL key n hd tx).length ((sealL key n hd tx).map (.int .u8))
/-- what is asked of a reader of seals -/
def OpenDoes (P : Program) (f : FuncId) : Prop := ∀ (key : Nat) (n : Int) (v1 v2 : Value) (hd tx : List Int) (w : World), key < 18446744073709551616 → BSl w w.heap.size v1 hd → hd.length ≤ 140737488351240 → BSl w w.heap.size v2 tx → tx.length ≤ 140737488351240 →
  Calls P f #[.int .u64 key, .int .i64 n, v1, v2] w (LkOpen key n hd tx w)
end Go.Proofs.Ytncbdcklemkmdaa.P
