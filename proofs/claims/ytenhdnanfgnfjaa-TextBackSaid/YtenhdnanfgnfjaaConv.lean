/- Bytes made of a string. -/
import Derived.Test.YtenhdnanfgnfjaaStr
import Derived.Test.YtenhdnanfgnfjaaMk
import Derived.Laws.IdiomStrings
namespace Go.Proofs.Ytenhdnanfgnfjaa
set_option linter.unusedVariables false
open Go.RowKit P

/-- a slice of the call's own, that reads as the bytes zs -/
def BytesPost (zs : List Int) (w : World) (e : Ending) (w' : World) : Prop :=
  ∃ g cap, e = .returned (.tuple #[.slice (some ⟨g, 0, none⟩) zs.length cap, .int .i64 0]) ∧ Below w.heap.size w w' ∧ BRow w' w'.heap.size (some ⟨g, 0, none⟩) zs

theorem bytesRow_brow (w : World) (zs : List Int) (hb : Byt zs) (cap : Nat) (e : TypeId) (fr : Nat × Nat) :
    BRow (w.drew.alloc (.cells (bytesRow (strOfNums zs) cap) e fr)) (w.heap.size + 1) (some ⟨w.heap.size, 0, none⟩) zs :=
  ⟨hb, fun _ => ⟨_, 0, rfl, by omega, fun j hj => by
    have h1 := World.cell?_alloc_mark w.drew (bytesRow (strOfNums zs) cap) e fr (0 + j)
    refine (show _ = _ from h1).trans ?_
    have hs : 0 + j < (strOfNums zs).data.size := by
      have := strOfNums_size zs
      show 0 + j < (strOfNums zs).size
      omega
    rw [bytesRow_at (strOfNums zs) cap (0 + j) hs]
    have := str_get hb (0 + j) hs
    refine (congrArg some (congrArg (Value.int .u8) (this : _ = zs.getD (0 + j) 0))).trans ?_
    rw [Nat.zero_add]⟩⟩

end Go.Proofs.Ytenhdnanfgnfjaa
