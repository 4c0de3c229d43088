/-
  No cell of these rows narrows 'for every input' (looked for: loops, veiled, ifaces, maps, wideKeys, modest, calm, conditions, laid).
  DERIVED. THE GIVEN ROWS OF THIS SEAT. 6 by the template 'for every input the law returns true; each argument reads behind the call as it read before'; 0 by the template 'total and deterministic' (their statements: YtlafjladlkbnoaaTotals.lean).
  GIVEN WITH THE SEED: the statements are not yours to turn. If you find one false, say at which input.
  Laid BY PROGRAM, IN A SANDBOX (cutbox-rows.mjs): the forced cells as the released guide's own fill.sh prints them over the translation 5f786931d37ab82e… (all of the seat's roots in one cut). By AI agents, Wed Nov 11 2026. No macro, syntax, notation, axiom, sorry.
-/
import Derived.Test.YtlafjladlkbnoaaChecked
import GoSem.Claim
import GoSem.ClaimJoined
import GoSem.ClaimMapViews
import Derived.JoinedTies
import Derived.KernelRfl
namespace Go.Proofs.Ytlafjladlkbnoaa
/- THE CELL 'sum', in the pinned program and in every row, IS THE sha256 OF THE DUMP (.gsa) THAT YtlafjladlkbnoaaProg.lean LOADS. Nothing in Lean hashes anything: it is a label: what it is worth is what the hold of that sum in a sandbox is worth. -/
noncomputable def Try.pinned : Pinned := { name := "ytlafjladlkbnoaa", sum := "5f786931d37ab82ec0a28c7dba67817ba1e36151583f0400544969a7e7daec84", checked := Try.checked }
namespace Rows
def none {H : Type} : Left H := { results := [], args := [] }

/-- 'spillwaylaw.PaceSends': WHATEVER THE INPUT: true; the input reads as it did. -/
def paceSendsSpec : ChangeSpec := { name := "paceSends", fn := fun _ => fun
  | [d1, d2] => { results := [.lit (.bool true)], args := [d1, d2] }
  | _ => none }
def paceSendsRow : OpenClaim := { program := "ytlafjladlkbnoaa", sum := "5f786931d37ab82ec0a28c7dba67817ba1e36151583f0400544969a7e7daec84", func := "spillway/spillwaylaw.PaceSends", spec := "paceSends", apart := false }
def PaceSendsSaid : Prop := paceSendsRow.holds Try.pinned (OpenSpec.ofChange paceSendsSpec)

/-- ITS FALSE NEIGHBOUR: 'it returns false'. Refute it at one input. -/
def paceSendsWrong : ChangeSpec := { name := "paceSends", fn := fun _ => fun
  | [d1, d2] => { results := [.lit (.bool false)], args := [d1, d2] }
  | _ => none }
def PaceSendsWrongFalsely : Prop := paceSendsRow.holds Try.pinned (OpenSpec.ofChange paceSendsWrong)

/-- 'spillwaylaw.PaceHears': WHATEVER THE INPUT: true; the input reads as it did. -/
def paceHearsSpec : ChangeSpec := { name := "paceHears", fn := fun _ => fun
  | [d1, d2, d3] => { results := [.lit (.bool true)], args := [d1, d2, d3] }
  | _ => none }
def paceHearsRow : OpenClaim := { program := "ytlafjladlkbnoaa", sum := "5f786931d37ab82ec0a28c7dba67817ba1e36151583f0400544969a7e7daec84", func := "spillway/spillwaylaw.PaceHears", spec := "paceHears", apart := false }
def PaceHearsSaid : Prop := paceHearsRow.holds Try.pinned (OpenSpec.ofChange paceHearsSpec)

/-- ITS FALSE NEIGHBOUR: 'it returns false'. Refute it at one input. -/
def paceHearsWrong : ChangeSpec := { name := "paceHears", fn := fun _ => fun
  | [d1, d2, d3] => { results := [.lit (.bool false)], args := [d1, d2, d3] }
  | _ => none }
def PaceHearsWrongFalsely : Prop := paceHearsRow.holds Try.pinned (OpenSpec.ofChange paceHearsWrong)

/-- 'spillwaylaw.PaceLoses': WHATEVER THE INPUT: true; the input reads as it did. -/
def paceLosesSpec : ChangeSpec := { name := "paceLoses", fn := fun _ => fun
  | [d1, d2, d3, d4] => { results := [.lit (.bool true)], args := [d1, d2, d3, d4] }
  | _ => none }
def paceLosesRow : OpenClaim := { program := "ytlafjladlkbnoaa", sum := "5f786931d37ab82ec0a28c7dba67817ba1e36151583f0400544969a7e7daec84", func := "spillway/spillwaylaw.PaceLoses", spec := "paceLoses", apart := false }
def PaceLosesSaid : Prop := paceLosesRow.holds Try.pinned (OpenSpec.ofChange paceLosesSpec)

/-- ITS FALSE NEIGHBOUR: 'it returns false'. Refute it at one input. -/
def paceLosesWrong : ChangeSpec := { name := "paceLoses", fn := fun _ => fun
  | [d1, d2, d3, d4] => { results := [.lit (.bool false)], args := [d1, d2, d3, d4] }
  | _ => none }
def PaceLosesWrongFalsely : Prop := paceLosesRow.holds Try.pinned (OpenSpec.ofChange paceLosesWrong)

/-- 'spillwaykeep.PaceSum': WHATEVER THE INPUT: true; the input reads as it did. -/
def paceSumSpec : ChangeSpec := { name := "paceSum", fn := fun _ => fun
  | [d] => { results := [.lit (.bool true)], args := [d] }
  | _ => none }
def paceSumRow : OpenClaim := { program := "ytlafjladlkbnoaa", sum := "5f786931d37ab82ec0a28c7dba67817ba1e36151583f0400544969a7e7daec84", func := "spillway/spillwaykeep.PaceSum", spec := "paceSum", apart := false }
def PaceSumSaid : Prop := paceSumRow.holds Try.pinned (OpenSpec.ofChange paceSumSpec)

/-- ITS FALSE NEIGHBOUR: 'it returns false'. Refute it at one input. -/
def paceSumWrong : ChangeSpec := { name := "paceSum", fn := fun _ => fun
  | [d] => { results := [.lit (.bool false)], args := [d] }
  | _ => none }
def PaceSumWrongFalsely : Prop := paceSumRow.holds Try.pinned (OpenSpec.ofChange paceSumWrong)

/-- 'spillwaykeep.PaceHalf': WHATEVER THE INPUT: true; the input reads as it did. -/
def paceHalfSpec : ChangeSpec := { name := "paceHalf", fn := fun _ => fun
  | [d1, d2, d3] => { results := [.lit (.bool true)], args := [d1, d2, d3] }
  | _ => none }
def paceHalfRow : OpenClaim := { program := "ytlafjladlkbnoaa", sum := "5f786931d37ab82ec0a28c7dba67817ba1e36151583f0400544969a7e7daec84", func := "spillway/spillwaykeep.PaceHalf", spec := "paceHalf", apart := false }
def PaceHalfSaid : Prop := paceHalfRow.holds Try.pinned (OpenSpec.ofChange paceHalfSpec)

/-- ITS FALSE NEIGHBOUR: 'it returns false'. Refute it at one input. -/
def paceHalfWrong : ChangeSpec := { name := "paceHalf", fn := fun _ => fun
  | [d1, d2, d3] => { results := [.lit (.bool false)], args := [d1, d2, d3] }
  | _ => none }
def PaceHalfWrongFalsely : Prop := paceHalfRow.holds Try.pinned (OpenSpec.ofChange paceHalfWrong)

/-- 'spillwaykeep.PaceGrows': WHATEVER THE INPUT: true; the input reads as it did. -/
def paceGrowsSpec : ChangeSpec := { name := "paceGrows", fn := fun _ => fun
  | [d1, d2] => { results := [.lit (.bool true)], args := [d1, d2] }
  | _ => none }
def paceGrowsRow : OpenClaim := { program := "ytlafjladlkbnoaa", sum := "5f786931d37ab82ec0a28c7dba67817ba1e36151583f0400544969a7e7daec84", func := "spillway/spillwaykeep.PaceGrows", spec := "paceGrows", apart := false }
def PaceGrowsSaid : Prop := paceGrowsRow.holds Try.pinned (OpenSpec.ofChange paceGrowsSpec)

/-- ITS FALSE NEIGHBOUR: 'it returns false'. Refute it at one input. -/
def paceGrowsWrong : ChangeSpec := { name := "paceGrows", fn := fun _ => fun
  | [d1, d2] => { results := [.lit (.bool false)], args := [d1, d2] }
  | _ => none }
def PaceGrowsWrongFalsely : Prop := paceGrowsRow.holds Try.pinned (OpenSpec.ofChange paceGrowsWrong)

/- THE SECOND FORM. 'bulk': how many values and letters a reading holds, each counted each time it is reached (what is shared counts as often as it is met; a slice's spare places count too). A statement '..UptoSaid' is the law's where the arguments, and the package variables that the reading takes, are together of bulk at most 1048576: NARROWER than '..Said'. Prove '..Said' where nothing that the law and all that it calls make is longer than what came in: it says more and counts as full. Else prove '..UptoSaid'. A law counts once. -/
mutual
def uptoBulk {H : Type} : DataW H → Nat
  | .lit (.string bytes) => bytes.length + 1
  | .lit _ => 1
  | .nil => 1
  | .ptr d => uptoBulk d + 1
  | .slice elems spare => uptoBulkAll elems + uptoBulkAll spare + 1
  | .agg parts => uptoBulkAll parts + 1
  | .iface _ d => uptoBulk d + 1
  | .map entries => uptoBulkEntries entries + 1
  | .held _ => 1
def uptoBulkAll {H : Type} : List (DataW H) → Nat
  | [] => 0
  | d :: r => uptoBulk d + uptoBulkAll r
def uptoBulkEntries {H : Type} : List (Lit × DataW H) → Nat
  | [] => 0
  | x :: r => uptoBulkEntry x + uptoBulkEntries r
def uptoBulkEntry {H : Type} : Lit × DataW H → Nat
  | (.string bytes, d) => bytes.length + uptoBulk d + 1
  | (_, d) => uptoBulk d + 1
 end
def uptoSmall : (H : Type) → List (DataW H) → Bool := fun _ ds => decide (uptoBulkAll ds ≤ 1048576)
def OpenSpec.upto (s : _root_.Go.ChangeSpec) : _root_.Go.OpenSpec := { _root_.Go.OpenSpec.ofChange s with cond := some uptoSmall }

/-- 'spillwaylaw.PaceSends', WHERE WHAT IT READS IS OF BULK AT MOST 1048576: true; the input reads as it did. -/
def paceSendsUptoRow : OpenClaim := { program := "ytlafjladlkbnoaa", sum := "5f786931d37ab82ec0a28c7dba67817ba1e36151583f0400544969a7e7daec84", func := "spillway/spillwaylaw.PaceSends", spec := "paceSends", apart := false, narrowed := true }
def PaceSendsUptoSaid : Prop := paceSendsUptoRow.holds Try.pinned (OpenSpec.upto paceSendsSpec)

/-- 'spillwaylaw.PaceHears', WHERE WHAT IT READS IS OF BULK AT MOST 1048576: true; the input reads as it did. -/
def paceHearsUptoRow : OpenClaim := { program := "ytlafjladlkbnoaa", sum := "5f786931d37ab82ec0a28c7dba67817ba1e36151583f0400544969a7e7daec84", func := "spillway/spillwaylaw.PaceHears", spec := "paceHears", apart := false, narrowed := true }
def PaceHearsUptoSaid : Prop := paceHearsUptoRow.holds Try.pinned (OpenSpec.upto paceHearsSpec)

/-- 'spillwaylaw.PaceLoses', WHERE WHAT IT READS IS OF BULK AT MOST 1048576: true; the input reads as it did. -/
def paceLosesUptoRow : OpenClaim := { program := "ytlafjladlkbnoaa", sum := "5f786931d37ab82ec0a28c7dba67817ba1e36151583f0400544969a7e7daec84", func := "spillway/spillwaylaw.PaceLoses", spec := "paceLoses", apart := false, narrowed := true }
def PaceLosesUptoSaid : Prop := paceLosesUptoRow.holds Try.pinned (OpenSpec.upto paceLosesSpec)

/-- 'spillwaykeep.PaceSum', WHERE WHAT IT READS IS OF BULK AT MOST 1048576: true; the input reads as it did. -/
def paceSumUptoRow : OpenClaim := { program := "ytlafjladlkbnoaa", sum := "5f786931d37ab82ec0a28c7dba67817ba1e36151583f0400544969a7e7daec84", func := "spillway/spillwaykeep.PaceSum", spec := "paceSum", apart := false, narrowed := true }
def PaceSumUptoSaid : Prop := paceSumUptoRow.holds Try.pinned (OpenSpec.upto paceSumSpec)

/-- 'spillwaykeep.PaceHalf', WHERE WHAT IT READS IS OF BULK AT MOST 1048576: true; the input reads as it did. -/
def paceHalfUptoRow : OpenClaim := { program := "ytlafjladlkbnoaa", sum := "5f786931d37ab82ec0a28c7dba67817ba1e36151583f0400544969a7e7daec84", func := "spillway/spillwaykeep.PaceHalf", spec := "paceHalf", apart := false, narrowed := true }
def PaceHalfUptoSaid : Prop := paceHalfUptoRow.holds Try.pinned (OpenSpec.upto paceHalfSpec)

/-- 'spillwaykeep.PaceGrows', WHERE WHAT IT READS IS OF BULK AT MOST 1048576: true; the input reads as it did. -/
def paceGrowsUptoRow : OpenClaim := { program := "ytlafjladlkbnoaa", sum := "5f786931d37ab82ec0a28c7dba67817ba1e36151583f0400544969a7e7daec84", func := "spillway/spillwaykeep.PaceGrows", spec := "paceGrows", apart := false, narrowed := true }
def PaceGrowsUptoSaid : Prop := paceGrowsUptoRow.holds Try.pinned (OpenSpec.upto paceGrowsSpec)

end Rows
end Go.Proofs.Ytlafjladlkbnoaa
