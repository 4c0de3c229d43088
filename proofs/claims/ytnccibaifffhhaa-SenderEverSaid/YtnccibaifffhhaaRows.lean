/-
  No cell of these rows narrows 'for every input' (looked for: loops, veiled, ifaces, maps, wideKeys, modest, calm, conditions, laid).
  DERIVED. THE GIVEN ROWS OF THIS SEAT. 5 by the template 'for every input the law returns true; each argument reads behind the call as it read before'; 0 by the template 'total and deterministic' (their statements: YtnccibaifffhhaaTotals.lean).
  GIVEN WITH THE SEED: the statements are not yours to turn. If you find one false, say at which input.
  Laid BY PROGRAM, IN A SANDBOX (cutbox-rows.mjs): the forced cells as the released guide's own fill.sh prints them over the translation 2f04ca315e55906c… (all of the seat's roots in one cut). By AI agents, Wed Nov 11 2026. No macro, syntax, notation, axiom, sorry.
-/
import Derived.Test.YtnccibaifffhhaaChecked
import GoSem.Claim
import GoSem.ClaimJoined
import GoSem.ClaimMapViews
import Derived.JoinedTies
import Derived.KernelRfl
namespace Go.Proofs.Ytnccibaifffhhaa
/- THE CELL 'sum', in the pinned program and in every row, IS THE sha256 OF THE DUMP (.gsa) THAT YtnccibaifffhhaaProg.lean LOADS. Nothing in Lean hashes anything: it is a label: what it is worth is what the hold of that sum in a sandbox is worth. -/
noncomputable def Try.pinned : Pinned := { name := "ytnccibaifffhhaa", sum := "2f04ca315e55906c72e815fd83482bb60be9b380a1ca2929d7e6d5c01564207f", checked := Try.checked }
namespace Rows
def none {H : Type} : Left H := { results := [], args := [] }

/-- 'spillwaykeep.SenderEver': WHATEVER THE INPUT: true; the input reads as it did. -/
def senderEverSpec : ChangeSpec := { name := "senderEver", fn := fun _ => fun
  | [d1, d2, d3] => { results := [.lit (.bool true)], args := [d1, d2, d3] }
  | _ => none }
def senderEverRow : OpenClaim := { program := "ytnccibaifffhhaa", sum := "2f04ca315e55906c72e815fd83482bb60be9b380a1ca2929d7e6d5c01564207f", func := "spillway/spillwaykeep.SenderEver", spec := "senderEver", apart := false }
def SenderEverSaid : Prop := senderEverRow.holds Try.pinned (OpenSpec.ofChange senderEverSpec)

/-- ITS FALSE NEIGHBOUR: 'it returns false'. Refute it at one input. -/
def senderEverWrong : ChangeSpec := { name := "senderEver", fn := fun _ => fun
  | [d1, d2, d3] => { results := [.lit (.bool false)], args := [d1, d2, d3] }
  | _ => none }
def SenderEverWrongFalsely : Prop := senderEverRow.holds Try.pinned (OpenSpec.ofChange senderEverWrong)

/-- 'spillwaykeep.SpaceOnce': WHATEVER THE INPUT: true; the input reads as it did. -/
def spaceOnceSpec : ChangeSpec := { name := "spaceOnce", fn := fun _ => fun
  | [d] => { results := [.lit (.bool true)], args := [d] }
  | _ => none }
def spaceOnceRow : OpenClaim := { program := "ytnccibaifffhhaa", sum := "2f04ca315e55906c72e815fd83482bb60be9b380a1ca2929d7e6d5c01564207f", func := "spillway/spillwaykeep.SpaceOnce", spec := "spaceOnce", unfollowed := true, recurses := true, apart := false }
def SpaceOnceSaid : Prop := spaceOnceRow.holds Try.pinned (OpenSpec.ofChange spaceOnceSpec)

/-- ITS FALSE NEIGHBOUR: 'it returns false'. Refute it at one input. -/
def spaceOnceWrong : ChangeSpec := { name := "spaceOnce", fn := fun _ => fun
  | [d] => { results := [.lit (.bool false)], args := [d] }
  | _ => none }
def SpaceOnceWrongFalsely : Prop := spaceOnceRow.holds Try.pinned (OpenSpec.ofChange spaceOnceWrong)

/-- 'spillwaykeep.SpaceLate': WHATEVER THE INPUT: true; the input reads as it did. -/
def spaceLateSpec : ChangeSpec := { name := "spaceLate", fn := fun _ => fun
  | [d1, d2] => { results := [.lit (.bool true)], args := [d1, d2] }
  | _ => none }
def spaceLateRow : OpenClaim := { program := "ytnccibaifffhhaa", sum := "2f04ca315e55906c72e815fd83482bb60be9b380a1ca2929d7e6d5c01564207f", func := "spillway/spillwaykeep.SpaceLate", spec := "spaceLate", unfollowed := true, recurses := true, apart := false }
def SpaceLateSaid : Prop := spaceLateRow.holds Try.pinned (OpenSpec.ofChange spaceLateSpec)

/-- ITS FALSE NEIGHBOUR: 'it returns false'. Refute it at one input. -/
def spaceLateWrong : ChangeSpec := { name := "spaceLate", fn := fun _ => fun
  | [d1, d2] => { results := [.lit (.bool false)], args := [d1, d2] }
  | _ => none }
def SpaceLateWrongFalsely : Prop := spaceLateRow.holds Try.pinned (OpenSpec.ofChange spaceLateWrong)

/-- 'spillwaykeep.SpaceLies': WHATEVER THE INPUT: true; the input reads as it did. -/
def spaceLiesSpec : ChangeSpec := { name := "spaceLies", fn := fun _ => fun
  | [d1, d2] => { results := [.lit (.bool true)], args := [d1, d2] }
  | _ => none }
def spaceLiesRow : OpenClaim := { program := "ytnccibaifffhhaa", sum := "2f04ca315e55906c72e815fd83482bb60be9b380a1ca2929d7e6d5c01564207f", func := "spillway/spillwaykeep.SpaceLies", spec := "spaceLies", unfollowed := true, recurses := true, apart := false }
def SpaceLiesSaid : Prop := spaceLiesRow.holds Try.pinned (OpenSpec.ofChange spaceLiesSpec)

/-- ITS FALSE NEIGHBOUR: 'it returns false'. Refute it at one input. -/
def spaceLiesWrong : ChangeSpec := { name := "spaceLies", fn := fun _ => fun
  | [d1, d2] => { results := [.lit (.bool false)], args := [d1, d2] }
  | _ => none }
def SpaceLiesWrongFalsely : Prop := spaceLiesRow.holds Try.pinned (OpenSpec.ofChange spaceLiesWrong)

/-- 'spillwaykeep.SpaceTells': WHATEVER THE INPUT: true; the input reads as it did. -/
def spaceTellsSpec : ChangeSpec := { name := "spaceTells", fn := fun _ => fun
  | [d] => { results := [.lit (.bool true)], args := [d] }
  | _ => none }
def spaceTellsRow : OpenClaim := { program := "ytnccibaifffhhaa", sum := "2f04ca315e55906c72e815fd83482bb60be9b380a1ca2929d7e6d5c01564207f", func := "spillway/spillwaykeep.SpaceTells", spec := "spaceTells", unfollowed := true, recurses := true, apart := false }
def SpaceTellsSaid : Prop := spaceTellsRow.holds Try.pinned (OpenSpec.ofChange spaceTellsSpec)

/-- ITS FALSE NEIGHBOUR: 'it returns false'. Refute it at one input. -/
def spaceTellsWrong : ChangeSpec := { name := "spaceTells", fn := fun _ => fun
  | [d] => { results := [.lit (.bool false)], args := [d] }
  | _ => none }
def SpaceTellsWrongFalsely : Prop := spaceTellsRow.holds Try.pinned (OpenSpec.ofChange spaceTellsWrong)

/- THE SECOND FORM. 'bulk': how many values and letters a reading holds, each counted each time it is reached (what is shared counts as often as it is met; a slice's spare places count too). A statement '..UptoSaid' is the law's where the arguments, and the package variables that the reading takes, are together of bulk at most 1048576: NARROWER than '..Said'. Prove '..Said' where nothing that the law and all that it calls make is longer than what came in: it says more and counts as full. Else prove '..UptoSaid'. A law counts once. -/
mutual
def uptoBulk {H : Type} : DataW H → Nat
  | .lit (.string bytes) => bytes.length + 1
  | .lit _ => 1
  | .nil => 1
  | .ptr d => uptoBulk d + 1
  | .slice elems spare => uptoBulkAll elems + uptoBulkAll spare + 1
  | .agg parts => uptoBulkAll parts + 1
  | .iface _ d => uptoBulk d + 1
  | .map entries => uptoBulkEntries entries + 1
  | .held _ => 1
def uptoBulkAll {H : Type} : List (DataW H) → Nat
  | [] => 0
  | d :: r => uptoBulk d + uptoBulkAll r
def uptoBulkEntries {H : Type} : List (Lit × DataW H) → Nat
  | [] => 0
  | x :: r => uptoBulkEntry x + uptoBulkEntries r
def uptoBulkEntry {H : Type} : Lit × DataW H → Nat
  | (.string bytes, d) => bytes.length + uptoBulk d + 1
  | (_, d) => uptoBulk d + 1
 end
def uptoSmall : (H : Type) → List (DataW H) → Bool := fun _ ds => decide (uptoBulkAll ds ≤ 1048576)
def OpenSpec.upto (s : _root_.Go.ChangeSpec) : _root_.Go.OpenSpec := { _root_.Go.OpenSpec.ofChange s with cond := some uptoSmall }

/-- 'spillwaykeep.SenderEver', WHERE WHAT IT READS IS OF BULK AT MOST 1048576: true; the input reads as it did. -/
def senderEverUptoRow : OpenClaim := { program := "ytnccibaifffhhaa", sum := "2f04ca315e55906c72e815fd83482bb60be9b380a1ca2929d7e6d5c01564207f", func := "spillway/spillwaykeep.SenderEver", spec := "senderEver", apart := false, narrowed := true }
def SenderEverUptoSaid : Prop := senderEverUptoRow.holds Try.pinned (OpenSpec.upto senderEverSpec)

/-- 'spillwaykeep.SpaceOnce', WHERE WHAT IT READS IS OF BULK AT MOST 1048576: true; the input reads as it did. -/
def spaceOnceUptoRow : OpenClaim := { program := "ytnccibaifffhhaa", sum := "2f04ca315e55906c72e815fd83482bb60be9b380a1ca2929d7e6d5c01564207f", func := "spillway/spillwaykeep.SpaceOnce", spec := "spaceOnce", unfollowed := true, recurses := true, apart := false, narrowed := true }
def SpaceOnceUptoSaid : Prop := spaceOnceUptoRow.holds Try.pinned (OpenSpec.upto spaceOnceSpec)

/-- 'spillwaykeep.SpaceLate', WHERE WHAT IT READS IS OF BULK AT MOST 1048576: true; the input reads as it did. -/
def spaceLateUptoRow : OpenClaim := { program := "ytnccibaifffhhaa", sum := "2f04ca315e55906c72e815fd83482bb60be9b380a1ca2929d7e6d5c01564207f", func := "spillway/spillwaykeep.SpaceLate", spec := "spaceLate", unfollowed := true, recurses := true, apart := false, narrowed := true }
def SpaceLateUptoSaid : Prop := spaceLateUptoRow.holds Try.pinned (OpenSpec.upto spaceLateSpec)

/-- 'spillwaykeep.SpaceLies', WHERE WHAT IT READS IS OF BULK AT MOST 1048576: true; the input reads as it did. -/
def spaceLiesUptoRow : OpenClaim := { program := "ytnccibaifffhhaa", sum := "2f04ca315e55906c72e815fd83482bb60be9b380a1ca2929d7e6d5c01564207f", func := "spillway/spillwaykeep.SpaceLies", spec := "spaceLies", unfollowed := true, recurses := true, apart := false, narrowed := true }
def SpaceLiesUptoSaid : Prop := spaceLiesUptoRow.holds Try.pinned (OpenSpec.upto spaceLiesSpec)

/-- 'spillwaykeep.SpaceTells', WHERE WHAT IT READS IS OF BULK AT MOST 1048576: true; the input reads as it did. -/
def spaceTellsUptoRow : OpenClaim := { program := "ytnccibaifffhhaa", sum := "2f04ca315e55906c72e815fd83482bb60be9b380a1ca2929d7e6d5c01564207f", func := "spillway/spillwaykeep.SpaceTells", spec := "spaceTells", unfollowed := true, recurses := true, apart := false, narrowed := true }
def SpaceTellsUptoSaid : Prop := spaceTellsUptoRow.holds Try.pinned (OpenSpec.upto spaceTellsSpec)

end Rows
end Go.Proofs.Ytnccibaifffhhaa
