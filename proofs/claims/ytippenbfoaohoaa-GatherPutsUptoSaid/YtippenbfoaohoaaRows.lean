/-
  No cell of these rows narrows 'for every input' (looked for: loops, veiled, ifaces, maps, wideKeys, modest, calm, conditions, laid).
  DERIVED. THE GIVEN ROWS OF THIS SEAT. 8 by the template 'for every input the law returns true; each argument reads behind the call as it read before'; 0 by the template 'total and deterministic' (their statements: YtippenbfoaohoaaTotals.lean).
  GIVEN WITH THE SEED: the statements are not yours to turn. If you find one false, say at which input.
  Laid BY PROGRAM, IN A SANDBOX (cutbox-rows.mjs): the forced cells as the released guide's own fill.sh prints them over the translation 2f135fd52190f9c6… (all of the seat's roots in one cut). By AI agents, Wed Nov 11 2026. No macro, syntax, notation, axiom, sorry.
-/
import Derived.Test.YtippenbfoaohoaaChecked
import GoSem.Claim
import GoSem.ClaimJoined
import GoSem.ClaimMapViews
import Derived.JoinedTies
import Derived.KernelRfl
namespace Go.Proofs.Ytippenbfoaohoaa
/- THE CELL 'sum', in the pinned program and in every row, IS THE sha256 OF THE DUMP (.gsa) THAT YtippenbfoaohoaaProg.lean LOADS. Nothing in Lean hashes anything: it is a label: what it is worth is what the hold of that sum in a sandbox is worth. -/
noncomputable def Try.pinned : Pinned := { name := "ytippenbfoaohoaa", sum := "2f135fd52190f9c69fa64ec8967a84ab8cd440f6174f82730a8296e4637f26c3", checked := Try.checked }
namespace Rows
def none {H : Type} : Left H := { results := [], args := [] }

/-- 'spillwaylaw.GatherChecks': WHATEVER THE INPUT: true; the input reads as it did. -/
def gatherChecksSpec : ChangeSpec := { name := "gatherChecks", fn := fun _ => fun
  | [d1, d2] => { results := [.lit (.bool true)], args := [d1, d2] }
  | _ => none }
def gatherChecksRow : OpenClaim := { program := "ytippenbfoaohoaa", sum := "2f135fd52190f9c69fa64ec8967a84ab8cd440f6174f82730a8296e4637f26c3", func := "spillway/spillwaylaw.GatherChecks", spec := "gatherChecks", apart := false }
def GatherChecksSaid : Prop := gatherChecksRow.holds Try.pinned (OpenSpec.ofChange gatherChecksSpec)

/-- ITS FALSE NEIGHBOUR: 'it returns false'. Refute it at one input. -/
def gatherChecksWrong : ChangeSpec := { name := "gatherChecks", fn := fun _ => fun
  | [d1, d2] => { results := [.lit (.bool false)], args := [d1, d2] }
  | _ => none }
def GatherChecksWrongFalsely : Prop := gatherChecksRow.holds Try.pinned (OpenSpec.ofChange gatherChecksWrong)

/-- 'spillwaylaw.GatherPuts': WHATEVER THE INPUT: true; the input reads as it did. -/
def gatherPutsSpec : ChangeSpec := { name := "gatherPuts", fn := fun _ => fun
  | [d1, d2, d3, d4] => { results := [.lit (.bool true)], args := [d1, d2, d3, d4] }
  | _ => none }
def gatherPutsRow : OpenClaim := { program := "ytippenbfoaohoaa", sum := "2f135fd52190f9c69fa64ec8967a84ab8cd440f6174f82730a8296e4637f26c3", func := "spillway/spillwaylaw.GatherPuts", spec := "gatherPuts", unfollowed := true, recurses := true, apart := false }
def GatherPutsSaid : Prop := gatherPutsRow.holds Try.pinned (OpenSpec.ofChange gatherPutsSpec)

/-- ITS FALSE NEIGHBOUR: 'it returns false'. Refute it at one input. -/
def gatherPutsWrong : ChangeSpec := { name := "gatherPuts", fn := fun _ => fun
  | [d1, d2, d3, d4] => { results := [.lit (.bool false)], args := [d1, d2, d3, d4] }
  | _ => none }
def GatherPutsWrongFalsely : Prop := gatherPutsRow.holds Try.pinned (OpenSpec.ofChange gatherPutsWrong)

/-- 'spillwaylaw.GatherTakes': WHATEVER THE INPUT: true; the input reads as it did. -/
def gatherTakesSpec : ChangeSpec := { name := "gatherTakes", fn := fun _ => fun
  | [d] => { results := [.lit (.bool true)], args := [d] }
  | _ => none }
def gatherTakesRow : OpenClaim := { program := "ytippenbfoaohoaa", sum := "2f135fd52190f9c69fa64ec8967a84ab8cd440f6174f82730a8296e4637f26c3", func := "spillway/spillwaylaw.GatherTakes", spec := "gatherTakes", apart := false }
def GatherTakesSaid : Prop := gatherTakesRow.holds Try.pinned (OpenSpec.ofChange gatherTakesSpec)

/-- ITS FALSE NEIGHBOUR: 'it returns false'. Refute it at one input. -/
def gatherTakesWrong : ChangeSpec := { name := "gatherTakes", fn := fun _ => fun
  | [d] => { results := [.lit (.bool false)], args := [d] }
  | _ => none }
def GatherTakesWrongFalsely : Prop := gatherTakesRow.holds Try.pinned (OpenSpec.ofChange gatherTakesWrong)

/-- 'spillwaylaw.GatherWidens': WHATEVER THE INPUT: true; the input reads as it did. -/
def gatherWidensSpec : ChangeSpec := { name := "gatherWidens", fn := fun _ => fun
  | [d1, d2] => { results := [.lit (.bool true)], args := [d1, d2] }
  | _ => none }
def gatherWidensRow : OpenClaim := { program := "ytippenbfoaohoaa", sum := "2f135fd52190f9c69fa64ec8967a84ab8cd440f6174f82730a8296e4637f26c3", func := "spillway/spillwaylaw.GatherWidens", spec := "gatherWidens", apart := false }
def GatherWidensSaid : Prop := gatherWidensRow.holds Try.pinned (OpenSpec.ofChange gatherWidensSpec)

/-- ITS FALSE NEIGHBOUR: 'it returns false'. Refute it at one input. -/
def gatherWidensWrong : ChangeSpec := { name := "gatherWidens", fn := fun _ => fun
  | [d1, d2] => { results := [.lit (.bool false)], args := [d1, d2] }
  | _ => none }
def GatherWidensWrongFalsely : Prop := gatherWidensRow.holds Try.pinned (OpenSpec.ofChange gatherWidensWrong)

/-- 'spillwaykeep.GatherAll': WHATEVER THE INPUT: true; the input reads as it did. -/
def gatherAllSpec : ChangeSpec := { name := "gatherAll", fn := fun _ => fun
  | [d1, d2, d3] => { results := [.lit (.bool true)], args := [d1, d2, d3] }
  | _ => none }
def gatherAllRow : OpenClaim := { program := "ytippenbfoaohoaa", sum := "2f135fd52190f9c69fa64ec8967a84ab8cd440f6174f82730a8296e4637f26c3", func := "spillway/spillwaykeep.GatherAll", spec := "gatherAll", unfollowed := true, recurses := true, apart := false }
def GatherAllSaid : Prop := gatherAllRow.holds Try.pinned (OpenSpec.ofChange gatherAllSpec)

/-- ITS FALSE NEIGHBOUR: 'it returns false'. Refute it at one input. -/
def gatherAllWrong : ChangeSpec := { name := "gatherAll", fn := fun _ => fun
  | [d1, d2, d3] => { results := [.lit (.bool false)], args := [d1, d2, d3] }
  | _ => none }
def GatherAllWrongFalsely : Prop := gatherAllRow.holds Try.pinned (OpenSpec.ofChange gatherAllWrong)

/-- 'spillwaykeep.GatherFirst': WHATEVER THE INPUT: true; the input reads as it did. -/
def gatherFirstSpec : ChangeSpec := { name := "gatherFirst", fn := fun _ => fun
  | [d1, d2, d3, d4, d5] => { results := [.lit (.bool true)], args := [d1, d2, d3, d4, d5] }
  | _ => none }
def gatherFirstRow : OpenClaim := { program := "ytippenbfoaohoaa", sum := "2f135fd52190f9c69fa64ec8967a84ab8cd440f6174f82730a8296e4637f26c3", func := "spillway/spillwaykeep.GatherFirst", spec := "gatherFirst", unfollowed := true, recurses := true, apart := false }
def GatherFirstSaid : Prop := gatherFirstRow.holds Try.pinned (OpenSpec.ofChange gatherFirstSpec)

/-- ITS FALSE NEIGHBOUR: 'it returns false'. Refute it at one input. -/
def gatherFirstWrong : ChangeSpec := { name := "gatherFirst", fn := fun _ => fun
  | [d1, d2, d3, d4, d5] => { results := [.lit (.bool false)], args := [d1, d2, d3, d4, d5] }
  | _ => none }
def GatherFirstWrongFalsely : Prop := gatherFirstRow.holds Try.pinned (OpenSpec.ofChange gatherFirstWrong)

/-- 'spillwaykeep.GatherEnd': WHATEVER THE INPUT: true; the input reads as it did. -/
def gatherEndSpec : ChangeSpec := { name := "gatherEnd", fn := fun _ => fun
  | [d1, d2, d3] => { results := [.lit (.bool true)], args := [d1, d2, d3] }
  | _ => none }
def gatherEndRow : OpenClaim := { program := "ytippenbfoaohoaa", sum := "2f135fd52190f9c69fa64ec8967a84ab8cd440f6174f82730a8296e4637f26c3", func := "spillway/spillwaykeep.GatherEnd", spec := "gatherEnd", unfollowed := true, recurses := true, apart := false }
def GatherEndSaid : Prop := gatherEndRow.holds Try.pinned (OpenSpec.ofChange gatherEndSpec)

/-- ITS FALSE NEIGHBOUR: 'it returns false'. Refute it at one input. -/
def gatherEndWrong : ChangeSpec := { name := "gatherEnd", fn := fun _ => fun
  | [d1, d2, d3] => { results := [.lit (.bool false)], args := [d1, d2, d3] }
  | _ => none }
def GatherEndWrongFalsely : Prop := gatherEndRow.holds Try.pinned (OpenSpec.ofChange gatherEndWrong)

/-- 'spillwaykeep.GatherGaps': WHATEVER THE INPUT: true; the input reads as it did. -/
def gatherGapsSpec : ChangeSpec := { name := "gatherGaps", fn := fun _ => fun
  | [d1, d2] => { results := [.lit (.bool true)], args := [d1, d2] }
  | _ => none }
def gatherGapsRow : OpenClaim := { program := "ytippenbfoaohoaa", sum := "2f135fd52190f9c69fa64ec8967a84ab8cd440f6174f82730a8296e4637f26c3", func := "spillway/spillwaykeep.GatherGaps", spec := "gatherGaps", unfollowed := true, recurses := true, apart := false }
def GatherGapsSaid : Prop := gatherGapsRow.holds Try.pinned (OpenSpec.ofChange gatherGapsSpec)

/-- ITS FALSE NEIGHBOUR: 'it returns false'. Refute it at one input. -/
def gatherGapsWrong : ChangeSpec := { name := "gatherGaps", fn := fun _ => fun
  | [d1, d2] => { results := [.lit (.bool false)], args := [d1, d2] }
  | _ => none }
def GatherGapsWrongFalsely : Prop := gatherGapsRow.holds Try.pinned (OpenSpec.ofChange gatherGapsWrong)

/- THE SECOND FORM. 'bulk': how many values and letters a reading holds, each counted each time it is reached (what is shared counts as often as it is met; a slice's spare places count too). A statement '..UptoSaid' is the law's where the arguments, and the package variables that the reading takes, are together of bulk at most 1048576: NARROWER than '..Said'. Prove '..Said' where nothing that the law and all that it calls make is longer than what came in: it says more and counts as full. Else prove '..UptoSaid'. A law counts once. -/
mutual
def uptoBulk {H : Type} : DataW H → Nat
  | .lit (.string bytes) => bytes.length + 1
  | .lit _ => 1
  | .nil => 1
  | .ptr d => uptoBulk d + 1
  | .slice elems spare => uptoBulkAll elems + uptoBulkAll spare + 1
  | .agg parts => uptoBulkAll parts + 1
  | .iface _ d => uptoBulk d + 1
  | .map entries => uptoBulkEntries entries + 1
  | .held _ => 1
def uptoBulkAll {H : Type} : List (DataW H) → Nat
  | [] => 0
  | d :: r => uptoBulk d + uptoBulkAll r
def uptoBulkEntries {H : Type} : List (Lit × DataW H) → Nat
  | [] => 0
  | x :: r => uptoBulkEntry x + uptoBulkEntries r
def uptoBulkEntry {H : Type} : Lit × DataW H → Nat
  | (.string bytes, d) => bytes.length + uptoBulk d + 1
  | (_, d) => uptoBulk d + 1
 end
def uptoSmall : (H : Type) → List (DataW H) → Bool := fun _ ds => decide (uptoBulkAll ds ≤ 1048576)
def OpenSpec.upto (s : _root_.Go.ChangeSpec) : _root_.Go.OpenSpec := { _root_.Go.OpenSpec.ofChange s with cond := some uptoSmall }

/-- 'spillwaylaw.GatherChecks', WHERE WHAT IT READS IS OF BULK AT MOST 1048576: true; the input reads as it did. -/
def gatherChecksUptoRow : OpenClaim := { program := "ytippenbfoaohoaa", sum := "2f135fd52190f9c69fa64ec8967a84ab8cd440f6174f82730a8296e4637f26c3", func := "spillway/spillwaylaw.GatherChecks", spec := "gatherChecks", apart := false, narrowed := true }
def GatherChecksUptoSaid : Prop := gatherChecksUptoRow.holds Try.pinned (OpenSpec.upto gatherChecksSpec)

/-- 'spillwaylaw.GatherPuts', WHERE WHAT IT READS IS OF BULK AT MOST 1048576: true; the input reads as it did. -/
def gatherPutsUptoRow : OpenClaim := { program := "ytippenbfoaohoaa", sum := "2f135fd52190f9c69fa64ec8967a84ab8cd440f6174f82730a8296e4637f26c3", func := "spillway/spillwaylaw.GatherPuts", spec := "gatherPuts", unfollowed := true, recurses := true, apart := false, narrowed := true }
def GatherPutsUptoSaid : Prop := gatherPutsUptoRow.holds Try.pinned (OpenSpec.upto gatherPutsSpec)

/-- 'spillwaylaw.GatherTakes', WHERE WHAT IT READS IS OF BULK AT MOST 1048576: true; the input reads as it did. -/
def gatherTakesUptoRow : OpenClaim := { program := "ytippenbfoaohoaa", sum := "2f135fd52190f9c69fa64ec8967a84ab8cd440f6174f82730a8296e4637f26c3", func := "spillway/spillwaylaw.GatherTakes", spec := "gatherTakes", apart := false, narrowed := true }
def GatherTakesUptoSaid : Prop := gatherTakesUptoRow.holds Try.pinned (OpenSpec.upto gatherTakesSpec)

/-- 'spillwaylaw.GatherWidens', WHERE WHAT IT READS IS OF BULK AT MOST 1048576: true; the input reads as it did. -/
def gatherWidensUptoRow : OpenClaim := { program := "ytippenbfoaohoaa", sum := "2f135fd52190f9c69fa64ec8967a84ab8cd440f6174f82730a8296e4637f26c3", func := "spillway/spillwaylaw.GatherWidens", spec := "gatherWidens", apart := false, narrowed := true }
def GatherWidensUptoSaid : Prop := gatherWidensUptoRow.holds Try.pinned (OpenSpec.upto gatherWidensSpec)

/-- 'spillwaykeep.GatherAll', WHERE WHAT IT READS IS OF BULK AT MOST 1048576: true; the input reads as it did. -/
def gatherAllUptoRow : OpenClaim := { program := "ytippenbfoaohoaa", sum := "2f135fd52190f9c69fa64ec8967a84ab8cd440f6174f82730a8296e4637f26c3", func := "spillway/spillwaykeep.GatherAll", spec := "gatherAll", unfollowed := true, recurses := true, apart := false, narrowed := true }
def GatherAllUptoSaid : Prop := gatherAllUptoRow.holds Try.pinned (OpenSpec.upto gatherAllSpec)

/-- 'spillwaykeep.GatherFirst', WHERE WHAT IT READS IS OF BULK AT MOST 1048576: true; the input reads as it did. -/
def gatherFirstUptoRow : OpenClaim := { program := "ytippenbfoaohoaa", sum := "2f135fd52190f9c69fa64ec8967a84ab8cd440f6174f82730a8296e4637f26c3", func := "spillway/spillwaykeep.GatherFirst", spec := "gatherFirst", unfollowed := true, recurses := true, apart := false, narrowed := true }
def GatherFirstUptoSaid : Prop := gatherFirstUptoRow.holds Try.pinned (OpenSpec.upto gatherFirstSpec)

/-- 'spillwaykeep.GatherEnd', WHERE WHAT IT READS IS OF BULK AT MOST 1048576: true; the input reads as it did. -/
def gatherEndUptoRow : OpenClaim := { program := "ytippenbfoaohoaa", sum := "2f135fd52190f9c69fa64ec8967a84ab8cd440f6174f82730a8296e4637f26c3", func := "spillway/spillwaykeep.GatherEnd", spec := "gatherEnd", unfollowed := true, recurses := true, apart := false, narrowed := true }
def GatherEndUptoSaid : Prop := gatherEndUptoRow.holds Try.pinned (OpenSpec.upto gatherEndSpec)

/-- 'spillwaykeep.GatherGaps', WHERE WHAT IT READS IS OF BULK AT MOST 1048576: true; the input reads as it did. -/
def gatherGapsUptoRow : OpenClaim := { program := "ytippenbfoaohoaa", sum := "2f135fd52190f9c69fa64ec8967a84ab8cd440f6174f82730a8296e4637f26c3", func := "spillway/spillwaykeep.GatherGaps", spec := "gatherGaps", unfollowed := true, recurses := true, apart := false, narrowed := true }
def GatherGapsUptoSaid : Prop := gatherGapsUptoRow.holds Try.pinned (OpenSpec.upto gatherGapsSpec)

end Rows
end Go.Proofs.Ytippenbfoaohoaa
