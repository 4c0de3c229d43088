/-
  No cell of these rows narrows 'for every input' (looked for: loops, veiled, ifaces, maps, wideKeys, modest, calm, conditions, laid).
  DERIVED. THE GIVEN ROWS OF THIS SEAT. 6 by the template 'for every input the law returns true; each argument reads behind the call as it read before'; 0 by the template 'total and deterministic' (their statements: YtockfejaijdmjaaTotals.lean).
  GIVEN WITH THE SEED: the statements are not yours to turn. If you find one false, say at which input.
  Laid BY PROGRAM, IN A SANDBOX (cutbox-rows.mjs): the forced cells as the released guide's own fill.sh prints them over the translation c7ce891b0ab66e00… (all of the seat's roots in one cut). By AI agents, Wed Nov 11 2026. No macro, syntax, notation, axiom, sorry.
-/
import Derived.Test.YtockfejaijdmjaaChecked
import GoSem.Claim
import GoSem.ClaimJoined
import GoSem.ClaimMapViews
import Derived.JoinedTies
import Derived.KernelRfl
namespace Go.Proofs.Ytockfejaijdmjaa
/- THE CELL 'sum', in the pinned program and in every row, IS THE sha256 OF THE DUMP (.gsa) THAT YtockfejaijdmjaaProg.lean LOADS. Nothing in Lean hashes anything: it is a label: what it is worth is what the hold of that sum in a sandbox is worth. -/
noncomputable def Try.pinned : Pinned := { name := "ytockfejaijdmjaa", sum := "c7ce891b0ab66e0005ddc6b5626a8e138ef677724afb8163d05d5658af22e68e", checked := Try.checked }
namespace Rows
def none {H : Type} : Left H := { results := [], args := [] }

/-- 'spillwaylaw.RangesChecks': WHATEVER THE INPUT: true; the input reads as it did. -/
def rangesChecksSpec : ChangeSpec := { name := "rangesChecks", fn := fun _ => fun
  | [d1, d2] => { results := [.lit (.bool true)], args := [d1, d2] }
  | _ => none }
def rangesChecksRow : OpenClaim := { program := "ytockfejaijdmjaa", sum := "c7ce891b0ab66e0005ddc6b5626a8e138ef677724afb8163d05d5658af22e68e", func := "spillway/spillwaylaw.RangesChecks", spec := "rangesChecks", apart := false }
def RangesChecksSaid : Prop := rangesChecksRow.holds Try.pinned (OpenSpec.ofChange rangesChecksSpec)

/-- ITS FALSE NEIGHBOUR: 'it returns false'. Refute it at one input. -/
def rangesChecksWrong : ChangeSpec := { name := "rangesChecks", fn := fun _ => fun
  | [d1, d2] => { results := [.lit (.bool false)], args := [d1, d2] }
  | _ => none }
def RangesChecksWrongFalsely : Prop := rangesChecksRow.holds Try.pinned (OpenSpec.ofChange rangesChecksWrong)

/-- 'spillwaylaw.RangesAdds': WHATEVER THE INPUT: true; the input reads as it did. -/
def rangesAddsSpec : ChangeSpec := { name := "rangesAdds", fn := fun _ => fun
  | [d1, d2] => { results := [.lit (.bool true)], args := [d1, d2] }
  | _ => none }
def rangesAddsRow : OpenClaim := { program := "ytockfejaijdmjaa", sum := "c7ce891b0ab66e0005ddc6b5626a8e138ef677724afb8163d05d5658af22e68e", func := "spillway/spillwaylaw.RangesAdds", spec := "rangesAdds", inPlace := ["internal/reflectlite.ValueOf", "internal/reflectlite.Swapper", "(internal/reflectlite.Value).Len"], unfollowed := true, recurses := true, apart := false }
def RangesAddsSaid : Prop := rangesAddsRow.holds Try.pinned (OpenSpec.ofChange rangesAddsSpec)

/-- ITS FALSE NEIGHBOUR: 'it returns false'. Refute it at one input. -/
def rangesAddsWrong : ChangeSpec := { name := "rangesAdds", fn := fun _ => fun
  | [d1, d2] => { results := [.lit (.bool false)], args := [d1, d2] }
  | _ => none }
def RangesAddsWrongFalsely : Prop := rangesAddsRow.holds Try.pinned (OpenSpec.ofChange rangesAddsWrong)

/-- 'spillwaylaw.RangesCuts': WHATEVER THE INPUT: true; the input reads as it did. -/
def rangesCutsSpec : ChangeSpec := { name := "rangesCuts", fn := fun _ => fun
  | [d1, d2] => { results := [.lit (.bool true)], args := [d1, d2] }
  | _ => none }
def rangesCutsRow : OpenClaim := { program := "ytockfejaijdmjaa", sum := "c7ce891b0ab66e0005ddc6b5626a8e138ef677724afb8163d05d5658af22e68e", func := "spillway/spillwaylaw.RangesCuts", spec := "rangesCuts", apart := false }
def RangesCutsSaid : Prop := rangesCutsRow.holds Try.pinned (OpenSpec.ofChange rangesCutsSpec)

/-- ITS FALSE NEIGHBOUR: 'it returns false'. Refute it at one input. -/
def rangesCutsWrong : ChangeSpec := { name := "rangesCuts", fn := fun _ => fun
  | [d1, d2] => { results := [.lit (.bool false)], args := [d1, d2] }
  | _ => none }
def RangesCutsWrongFalsely : Prop := rangesCutsRow.holds Try.pinned (OpenSpec.ofChange rangesCutsWrong)

/-- 'spillwaylaw.RangesNotes': WHATEVER THE INPUT: true; the input reads as it did. -/
def rangesNotesSpec : ChangeSpec := { name := "rangesNotes", fn := fun _ => fun
  | [d1, d2] => { results := [.lit (.bool true)], args := [d1, d2] }
  | _ => none }
def rangesNotesRow : OpenClaim := { program := "ytockfejaijdmjaa", sum := "c7ce891b0ab66e0005ddc6b5626a8e138ef677724afb8163d05d5658af22e68e", func := "spillway/spillwaylaw.RangesNotes", spec := "rangesNotes", inPlace := ["internal/reflectlite.ValueOf", "internal/reflectlite.Swapper", "(internal/reflectlite.Value).Len"], unfollowed := true, recurses := true, apart := false }
def RangesNotesSaid : Prop := rangesNotesRow.holds Try.pinned (OpenSpec.ofChange rangesNotesSpec)

/-- ITS FALSE NEIGHBOUR: 'it returns false'. Refute it at one input. -/
def rangesNotesWrong : ChangeSpec := { name := "rangesNotes", fn := fun _ => fun
  | [d1, d2] => { results := [.lit (.bool false)], args := [d1, d2] }
  | _ => none }
def RangesNotesWrongFalsely : Prop := rangesNotesRow.holds Try.pinned (OpenSpec.ofChange rangesNotesWrong)

/-- 'spillwaykeep.RangesSet': WHATEVER THE INPUT: true; the input reads as it did. -/
def rangesSetSpec : ChangeSpec := { name := "rangesSet", fn := fun _ => fun
  | [d1, d2, d3, d4] => { results := [.lit (.bool true)], args := [d1, d2, d3, d4] }
  | _ => none }
def rangesSetRow : OpenClaim := { program := "ytockfejaijdmjaa", sum := "c7ce891b0ab66e0005ddc6b5626a8e138ef677724afb8163d05d5658af22e68e", func := "spillway/spillwaykeep.RangesSet", spec := "rangesSet", apart := false }
def RangesSetSaid : Prop := rangesSetRow.holds Try.pinned (OpenSpec.ofChange rangesSetSpec)

/-- ITS FALSE NEIGHBOUR: 'it returns false'. Refute it at one input. -/
def rangesSetWrong : ChangeSpec := { name := "rangesSet", fn := fun _ => fun
  | [d1, d2, d3, d4] => { results := [.lit (.bool false)], args := [d1, d2, d3, d4] }
  | _ => none }
def RangesSetWrongFalsely : Prop := rangesSetRow.holds Try.pinned (OpenSpec.ofChange rangesSetWrong)

/-- 'spillwaykeep.RangesHoles': WHATEVER THE INPUT: true; the input reads as it did. -/
def rangesHolesSpec : ChangeSpec := { name := "rangesHoles", fn := fun _ => fun
  | [d1, d2, d3, d4] => { results := [.lit (.bool true)], args := [d1, d2, d3, d4] }
  | _ => none }
def rangesHolesRow : OpenClaim := { program := "ytockfejaijdmjaa", sum := "c7ce891b0ab66e0005ddc6b5626a8e138ef677724afb8163d05d5658af22e68e", func := "spillway/spillwaykeep.RangesHoles", spec := "rangesHoles", apart := false }
def RangesHolesSaid : Prop := rangesHolesRow.holds Try.pinned (OpenSpec.ofChange rangesHolesSpec)

/-- ITS FALSE NEIGHBOUR: 'it returns false'. Refute it at one input. -/
def rangesHolesWrong : ChangeSpec := { name := "rangesHoles", fn := fun _ => fun
  | [d1, d2, d3, d4] => { results := [.lit (.bool false)], args := [d1, d2, d3, d4] }
  | _ => none }
def RangesHolesWrongFalsely : Prop := rangesHolesRow.holds Try.pinned (OpenSpec.ofChange rangesHolesWrong)

/- THE SECOND FORM. 'bulk': how many values and letters a reading holds, each counted each time it is reached (what is shared counts as often as it is met; a slice's spare places count too). A statement '..UptoSaid' is the law's where the arguments, and the package variables that the reading takes, are together of bulk at most 1048576: NARROWER than '..Said'. Prove '..Said' where nothing that the law and all that it calls make is longer than what came in: it says more and counts as full. Else prove '..UptoSaid'. A law counts once. -/
mutual
def uptoBulk {H : Type} : DataW H → Nat
  | .lit (.string bytes) => bytes.length + 1
  | .lit _ => 1
  | .nil => 1
  | .ptr d => uptoBulk d + 1
  | .slice elems spare => uptoBulkAll elems + uptoBulkAll spare + 1
  | .agg parts => uptoBulkAll parts + 1
  | .iface _ d => uptoBulk d + 1
  | .map entries => uptoBulkEntries entries + 1
  | .held _ => 1
def uptoBulkAll {H : Type} : List (DataW H) → Nat
  | [] => 0
  | d :: r => uptoBulk d + uptoBulkAll r
def uptoBulkEntries {H : Type} : List (Lit × DataW H) → Nat
  | [] => 0
  | x :: r => uptoBulkEntry x + uptoBulkEntries r
def uptoBulkEntry {H : Type} : Lit × DataW H → Nat
  | (.string bytes, d) => bytes.length + uptoBulk d + 1
  | (_, d) => uptoBulk d + 1
 end
def uptoSmall : (H : Type) → List (DataW H) → Bool := fun _ ds => decide (uptoBulkAll ds ≤ 1048576)
def OpenSpec.upto (s : _root_.Go.ChangeSpec) : _root_.Go.OpenSpec := { _root_.Go.OpenSpec.ofChange s with cond := some uptoSmall }

/-- 'spillwaylaw.RangesChecks', WHERE WHAT IT READS IS OF BULK AT MOST 1048576: true; the input reads as it did. -/
def rangesChecksUptoRow : OpenClaim := { program := "ytockfejaijdmjaa", sum := "c7ce891b0ab66e0005ddc6b5626a8e138ef677724afb8163d05d5658af22e68e", func := "spillway/spillwaylaw.RangesChecks", spec := "rangesChecks", apart := false, narrowed := true }
def RangesChecksUptoSaid : Prop := rangesChecksUptoRow.holds Try.pinned (OpenSpec.upto rangesChecksSpec)

/-- 'spillwaylaw.RangesAdds', WHERE WHAT IT READS IS OF BULK AT MOST 1048576: true; the input reads as it did. -/
def rangesAddsUptoRow : OpenClaim := { program := "ytockfejaijdmjaa", sum := "c7ce891b0ab66e0005ddc6b5626a8e138ef677724afb8163d05d5658af22e68e", func := "spillway/spillwaylaw.RangesAdds", spec := "rangesAdds", inPlace := ["internal/reflectlite.ValueOf", "internal/reflectlite.Swapper", "(internal/reflectlite.Value).Len"], unfollowed := true, recurses := true, apart := false, narrowed := true }
def RangesAddsUptoSaid : Prop := rangesAddsUptoRow.holds Try.pinned (OpenSpec.upto rangesAddsSpec)

/-- 'spillwaylaw.RangesCuts', WHERE WHAT IT READS IS OF BULK AT MOST 1048576: true; the input reads as it did. -/
def rangesCutsUptoRow : OpenClaim := { program := "ytockfejaijdmjaa", sum := "c7ce891b0ab66e0005ddc6b5626a8e138ef677724afb8163d05d5658af22e68e", func := "spillway/spillwaylaw.RangesCuts", spec := "rangesCuts", apart := false, narrowed := true }
def RangesCutsUptoSaid : Prop := rangesCutsUptoRow.holds Try.pinned (OpenSpec.upto rangesCutsSpec)

/-- 'spillwaylaw.RangesNotes', WHERE WHAT IT READS IS OF BULK AT MOST 1048576: true; the input reads as it did. -/
def rangesNotesUptoRow : OpenClaim := { program := "ytockfejaijdmjaa", sum := "c7ce891b0ab66e0005ddc6b5626a8e138ef677724afb8163d05d5658af22e68e", func := "spillway/spillwaylaw.RangesNotes", spec := "rangesNotes", inPlace := ["internal/reflectlite.ValueOf", "internal/reflectlite.Swapper", "(internal/reflectlite.Value).Len"], unfollowed := true, recurses := true, apart := false, narrowed := true }
def RangesNotesUptoSaid : Prop := rangesNotesUptoRow.holds Try.pinned (OpenSpec.upto rangesNotesSpec)

/-- 'spillwaykeep.RangesSet', WHERE WHAT IT READS IS OF BULK AT MOST 1048576: true; the input reads as it did. -/
def rangesSetUptoRow : OpenClaim := { program := "ytockfejaijdmjaa", sum := "c7ce891b0ab66e0005ddc6b5626a8e138ef677724afb8163d05d5658af22e68e", func := "spillway/spillwaykeep.RangesSet", spec := "rangesSet", apart := false, narrowed := true }
def RangesSetUptoSaid : Prop := rangesSetUptoRow.holds Try.pinned (OpenSpec.upto rangesSetSpec)

/-- 'spillwaykeep.RangesHoles', WHERE WHAT IT READS IS OF BULK AT MOST 1048576: true; the input reads as it did. -/
def rangesHolesUptoRow : OpenClaim := { program := "ytockfejaijdmjaa", sum := "c7ce891b0ab66e0005ddc6b5626a8e138ef677724afb8163d05d5658af22e68e", func := "spillway/spillwaykeep.RangesHoles", spec := "rangesHoles", apart := false, narrowed := true }
def RangesHolesUptoSaid : Prop := rangesHolesUptoRow.holds Try.pinned (OpenSpec.upto rangesHolesSpec)

end Rows
end Go.Proofs.Ytockfejaijdmjaa
