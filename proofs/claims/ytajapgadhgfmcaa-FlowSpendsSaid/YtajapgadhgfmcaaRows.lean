/-
  No cell of these rows narrows 'for every input' (looked for: loops, veiled, ifaces, maps, wideKeys, modest, calm, conditions, laid).
  DERIVED. THE GIVEN ROWS OF THIS SEAT. 3 by the template 'for every input the law returns true; each argument reads behind the call as it read before'; 0 by the template 'total and deterministic' (their statements: YtajapgadhgfmcaaTotals.lean).
  GIVEN WITH THE SEED: the statements are not yours to turn. If you find one false, say at which input.
  Laid BY PROGRAM, IN A SANDBOX (cutbox-rows.mjs): the forced cells as the released guide's own fill.sh prints them over the translation c71e66d265c3f808… (all of the seat's roots in one cut). By AI agents, Wed Nov 11 2026. No macro, syntax, notation, axiom, sorry.
-/
import Derived.Test.YtajapgadhgfmcaaChecked
import GoSem.Claim
import GoSem.ClaimJoined
import GoSem.ClaimMapViews
import Derived.JoinedTies
import Derived.KernelRfl
namespace Go.Proofs.Ytajapgadhgfmcaa
/- THE CELL 'sum', in the pinned program and in every row, IS THE sha256 OF THE DUMP (.gsa) THAT YtajapgadhgfmcaaProg.lean LOADS. Nothing in Lean hashes anything: it is a label: what it is worth is what the hold of that sum in a sandbox is worth. -/
noncomputable def Try.pinned : Pinned := { name := "ytajapgadhgfmcaa", sum := "c71e66d265c3f808c593452acb972b1cbaa4a282eddae0a5f5b7c014b6bf7b43", checked := Try.checked }
namespace Rows
def none {H : Type} : Left H := { results := [], args := [] }

/-- 'spillwaylaw.FlowSpends': WHATEVER THE INPUT: true; the input reads as it did. -/
def flowSpendsSpec : ChangeSpec := { name := "flowSpends", fn := fun _ => fun
  | [d1, d2] => { results := [.lit (.bool true)], args := [d1, d2] }
  | _ => none }
def flowSpendsRow : OpenClaim := { program := "ytajapgadhgfmcaa", sum := "c71e66d265c3f808c593452acb972b1cbaa4a282eddae0a5f5b7c014b6bf7b43", func := "spillway/spillwaylaw.FlowSpends", spec := "flowSpends", apart := false }
def FlowSpendsSaid : Prop := flowSpendsRow.holds Try.pinned (OpenSpec.ofChange flowSpendsSpec)

/-- ITS FALSE NEIGHBOUR: 'it returns false'. Refute it at one input. -/
def flowSpendsWrong : ChangeSpec := { name := "flowSpends", fn := fun _ => fun
  | [d1, d2] => { results := [.lit (.bool false)], args := [d1, d2] }
  | _ => none }
def FlowSpendsWrongFalsely : Prop := flowSpendsRow.holds Try.pinned (OpenSpec.ofChange flowSpendsWrong)

/-- 'spillwaylaw.FlowGrants': WHATEVER THE INPUT: true; the input reads as it did. -/
def flowGrantsSpec : ChangeSpec := { name := "flowGrants", fn := fun _ => fun
  | [d1, d2] => { results := [.lit (.bool true)], args := [d1, d2] }
  | _ => none }
def flowGrantsRow : OpenClaim := { program := "ytajapgadhgfmcaa", sum := "c71e66d265c3f808c593452acb972b1cbaa4a282eddae0a5f5b7c014b6bf7b43", func := "spillway/spillwaylaw.FlowGrants", spec := "flowGrants", apart := false }
def FlowGrantsSaid : Prop := flowGrantsRow.holds Try.pinned (OpenSpec.ofChange flowGrantsSpec)

/-- ITS FALSE NEIGHBOUR: 'it returns false'. Refute it at one input. -/
def flowGrantsWrong : ChangeSpec := { name := "flowGrants", fn := fun _ => fun
  | [d1, d2] => { results := [.lit (.bool false)], args := [d1, d2] }
  | _ => none }
def FlowGrantsWrongFalsely : Prop := flowGrantsRow.holds Try.pinned (OpenSpec.ofChange flowGrantsWrong)

/-- 'spillwaykeep.FlowSum': WHATEVER THE INPUT: true; the input reads as it did. -/
def flowSumSpec : ChangeSpec := { name := "flowSum", fn := fun _ => fun
  | [d] => { results := [.lit (.bool true)], args := [d] }
  | _ => none }
def flowSumRow : OpenClaim := { program := "ytajapgadhgfmcaa", sum := "c71e66d265c3f808c593452acb972b1cbaa4a282eddae0a5f5b7c014b6bf7b43", func := "spillway/spillwaykeep.FlowSum", spec := "flowSum", apart := false }
def FlowSumSaid : Prop := flowSumRow.holds Try.pinned (OpenSpec.ofChange flowSumSpec)

/-- ITS FALSE NEIGHBOUR: 'it returns false'. Refute it at one input. -/
def flowSumWrong : ChangeSpec := { name := "flowSum", fn := fun _ => fun
  | [d] => { results := [.lit (.bool false)], args := [d] }
  | _ => none }
def FlowSumWrongFalsely : Prop := flowSumRow.holds Try.pinned (OpenSpec.ofChange flowSumWrong)

/- THE SECOND FORM. 'bulk': how many values and letters a reading holds, each counted each time it is reached (what is shared counts as often as it is met; a slice's spare places count too). A statement '..UptoSaid' is the law's where the arguments, and the package variables that the reading takes, are together of bulk at most 1048576: NARROWER than '..Said'. Prove '..Said' where nothing that the law and all that it calls make is longer than what came in: it says more and counts as full. Else prove '..UptoSaid'. A law counts once. -/
mutual
def uptoBulk {H : Type} : DataW H → Nat
  | .lit (.string bytes) => bytes.length + 1
  | .lit _ => 1
  | .nil => 1
  | .ptr d => uptoBulk d + 1
  | .slice elems spare => uptoBulkAll elems + uptoBulkAll spare + 1
  | .agg parts => uptoBulkAll parts + 1
  | .iface _ d => uptoBulk d + 1
  | .map entries => uptoBulkEntries entries + 1
  | .held _ => 1
def uptoBulkAll {H : Type} : List (DataW H) → Nat
  | [] => 0
  | d :: r => uptoBulk d + uptoBulkAll r
def uptoBulkEntries {H : Type} : List (Lit × DataW H) → Nat
  | [] => 0
  | x :: r => uptoBulkEntry x + uptoBulkEntries r
def uptoBulkEntry {H : Type} : Lit × DataW H → Nat
  | (.string bytes, d) => bytes.length + uptoBulk d + 1
  | (_, d) => uptoBulk d + 1
 end
def uptoSmall : (H : Type) → List (DataW H) → Bool := fun _ ds => decide (uptoBulkAll ds ≤ 1048576)
def OpenSpec.upto (s : _root_.Go.ChangeSpec) : _root_.Go.OpenSpec := { _root_.Go.OpenSpec.ofChange s with cond := some uptoSmall }

/-- 'spillwaylaw.FlowSpends', WHERE WHAT IT READS IS OF BULK AT MOST 1048576: true; the input reads as it did. -/
def flowSpendsUptoRow : OpenClaim := { program := "ytajapgadhgfmcaa", sum := "c71e66d265c3f808c593452acb972b1cbaa4a282eddae0a5f5b7c014b6bf7b43", func := "spillway/spillwaylaw.FlowSpends", spec := "flowSpends", apart := false, narrowed := true }
def FlowSpendsUptoSaid : Prop := flowSpendsUptoRow.holds Try.pinned (OpenSpec.upto flowSpendsSpec)

/-- 'spillwaylaw.FlowGrants', WHERE WHAT IT READS IS OF BULK AT MOST 1048576: true; the input reads as it did. -/
def flowGrantsUptoRow : OpenClaim := { program := "ytajapgadhgfmcaa", sum := "c71e66d265c3f808c593452acb972b1cbaa4a282eddae0a5f5b7c014b6bf7b43", func := "spillway/spillwaylaw.FlowGrants", spec := "flowGrants", apart := false, narrowed := true }
def FlowGrantsUptoSaid : Prop := flowGrantsUptoRow.holds Try.pinned (OpenSpec.upto flowGrantsSpec)

/-- 'spillwaykeep.FlowSum', WHERE WHAT IT READS IS OF BULK AT MOST 1048576: true; the input reads as it did. -/
def flowSumUptoRow : OpenClaim := { program := "ytajapgadhgfmcaa", sum := "c71e66d265c3f808c593452acb972b1cbaa4a282eddae0a5f5b7c014b6bf7b43", func := "spillway/spillwaykeep.FlowSum", spec := "flowSum", apart := false, narrowed := true }
def FlowSumUptoSaid : Prop := flowSumUptoRow.holds Try.pinned (OpenSpec.upto flowSumSpec)

end Rows
end Go.Proofs.Ytajapgadhgfmcaa
