/-
  No cell of these rows narrows 'for every input' (looked for: loops, veiled, ifaces, maps, wideKeys, modest, calm, conditions, laid).
  DERIVED. THE GIVEN ROWS OF THIS SEAT. 3 by the template 'for every input the law returns true; each argument reads behind the call as it read before'; 0 by the template 'total and deterministic' (their statements: YtpickcmpnncgcaaTotals.lean).
  GIVEN WITH THE SEED: the statements are not yours to turn. If you find one false, say at which input.
  Laid BY PROGRAM, IN A SANDBOX (cutbox-rows.mjs): the forced cells as the released guide's own fill.sh prints them over the translation 9e6b16674c515d1f… (all of the seat's roots in one cut). By AI agents, Wed Nov 11 2026. No macro, syntax, notation, axiom, sorry.
-/
import Derived.Test.YtpickcmpnncgcaaChecked
import GoSem.Claim
import GoSem.ClaimJoined
import GoSem.ClaimMapViews
import Derived.JoinedTies
import Derived.KernelRfl
namespace Go.Proofs.Ytpickcmpnncgcaa
/- THE CELL 'sum', in the pinned program and in every row, IS THE sha256 OF THE DUMP (.gsa) THAT YtpickcmpnncgcaaProg.lean LOADS. Nothing in Lean hashes anything: it is a label: what it is worth is what the hold of that sum in a sandbox is worth. -/
noncomputable def Try.pinned : Pinned := { name := "ytpickcmpnncgcaa", sum := "9e6b16674c515d1f46504ef5a73aa82b666e2adf0bbf9ed9e983c77309c93dac", checked := Try.checked }
namespace Rows
def none {H : Type} : Left H := { results := [], args := [] }

/-- 'spillwaylaw.VarDecodes': WHATEVER THE INPUT: true; the input reads as it did. -/
def varDecodesSpec : ChangeSpec := { name := "varDecodes", fn := fun _ => fun
  | [d] => { results := [.lit (.bool true)], args := [d] }
  | _ => none }
def varDecodesRow : OpenClaim := { program := "ytpickcmpnncgcaa", sum := "9e6b16674c515d1f46504ef5a73aa82b666e2adf0bbf9ed9e983c77309c93dac", func := "spillway/spillwaylaw.VarDecodes", spec := "varDecodes", apart := false }
def VarDecodesSaid : Prop := varDecodesRow.holds Try.pinned (OpenSpec.ofChange varDecodesSpec)

/-- ITS FALSE NEIGHBOUR: 'it returns false'. Refute it at one input. -/
def varDecodesWrong : ChangeSpec := { name := "varDecodes", fn := fun _ => fun
  | [d] => { results := [.lit (.bool false)], args := [d] }
  | _ => none }
def VarDecodesWrongFalsely : Prop := varDecodesRow.holds Try.pinned (OpenSpec.ofChange varDecodesWrong)

/-- 'spillwaykeep.VarLeast': WHATEVER THE INPUT: true; the input reads as it did. -/
def varLeastSpec : ChangeSpec := { name := "varLeast", fn := fun _ => fun
  | [d1, d2] => { results := [.lit (.bool true)], args := [d1, d2] }
  | _ => none }
def varLeastRow : OpenClaim := { program := "ytpickcmpnncgcaa", sum := "9e6b16674c515d1f46504ef5a73aa82b666e2adf0bbf9ed9e983c77309c93dac", func := "spillway/spillwaykeep.VarLeast", spec := "varLeast", apart := false }
def VarLeastSaid : Prop := varLeastRow.holds Try.pinned (OpenSpec.ofChange varLeastSpec)

/-- ITS FALSE NEIGHBOUR: 'it returns false'. Refute it at one input. -/
def varLeastWrong : ChangeSpec := { name := "varLeast", fn := fun _ => fun
  | [d1, d2] => { results := [.lit (.bool false)], args := [d1, d2] }
  | _ => none }
def VarLeastWrongFalsely : Prop := varLeastRow.holds Try.pinned (OpenSpec.ofChange varLeastWrong)

/-- 'spillwaykeep.VarAny': WHATEVER THE INPUT: true; the input reads as it did. -/
def varAnySpec : ChangeSpec := { name := "varAny", fn := fun _ => fun
  | [d] => { results := [.lit (.bool true)], args := [d] }
  | _ => none }
def varAnyRow : OpenClaim := { program := "ytpickcmpnncgcaa", sum := "9e6b16674c515d1f46504ef5a73aa82b666e2adf0bbf9ed9e983c77309c93dac", func := "spillway/spillwaykeep.VarAny", spec := "varAny", apart := false }
def VarAnySaid : Prop := varAnyRow.holds Try.pinned (OpenSpec.ofChange varAnySpec)

/-- ITS FALSE NEIGHBOUR: 'it returns false'. Refute it at one input. -/
def varAnyWrong : ChangeSpec := { name := "varAny", fn := fun _ => fun
  | [d] => { results := [.lit (.bool false)], args := [d] }
  | _ => none }
def VarAnyWrongFalsely : Prop := varAnyRow.holds Try.pinned (OpenSpec.ofChange varAnyWrong)

/- THE SECOND FORM. 'bulk': how many values and letters a reading holds, each counted each time it is reached (what is shared counts as often as it is met; a slice's spare places count too). A statement '..UptoSaid' is the law's where the arguments, and the package variables that the reading takes, are together of bulk at most 1048576: NARROWER than '..Said'. Prove '..Said' where nothing that the law and all that it calls make is longer than what came in: it says more and counts as full. Else prove '..UptoSaid'. A law counts once. -/
mutual
def uptoBulk {H : Type} : DataW H → Nat
  | .lit (.string bytes) => bytes.length + 1
  | .lit _ => 1
  | .nil => 1
  | .ptr d => uptoBulk d + 1
  | .slice elems spare => uptoBulkAll elems + uptoBulkAll spare + 1
  | .agg parts => uptoBulkAll parts + 1
  | .iface _ d => uptoBulk d + 1
  | .map entries => uptoBulkEntries entries + 1
  | .held _ => 1
def uptoBulkAll {H : Type} : List (DataW H) → Nat
  | [] => 0
  | d :: r => uptoBulk d + uptoBulkAll r
def uptoBulkEntries {H : Type} : List (Lit × DataW H) → Nat
  | [] => 0
  | x :: r => uptoBulkEntry x + uptoBulkEntries r
def uptoBulkEntry {H : Type} : Lit × DataW H → Nat
  | (.string bytes, d) => bytes.length + uptoBulk d + 1
  | (_, d) => uptoBulk d + 1
 end
def uptoSmall : (H : Type) → List (DataW H) → Bool := fun _ ds => decide (uptoBulkAll ds ≤ 1048576)
def OpenSpec.upto (s : _root_.Go.ChangeSpec) : _root_.Go.OpenSpec := { _root_.Go.OpenSpec.ofChange s with cond := some uptoSmall }

/-- 'spillwaylaw.VarDecodes', WHERE WHAT IT READS IS OF BULK AT MOST 1048576: true; the input reads as it did. -/
def varDecodesUptoRow : OpenClaim := { program := "ytpickcmpnncgcaa", sum := "9e6b16674c515d1f46504ef5a73aa82b666e2adf0bbf9ed9e983c77309c93dac", func := "spillway/spillwaylaw.VarDecodes", spec := "varDecodes", apart := false, narrowed := true }
def VarDecodesUptoSaid : Prop := varDecodesUptoRow.holds Try.pinned (OpenSpec.upto varDecodesSpec)

/-- 'spillwaykeep.VarLeast', WHERE WHAT IT READS IS OF BULK AT MOST 1048576: true; the input reads as it did. -/
def varLeastUptoRow : OpenClaim := { program := "ytpickcmpnncgcaa", sum := "9e6b16674c515d1f46504ef5a73aa82b666e2adf0bbf9ed9e983c77309c93dac", func := "spillway/spillwaykeep.VarLeast", spec := "varLeast", apart := false, narrowed := true }
def VarLeastUptoSaid : Prop := varLeastUptoRow.holds Try.pinned (OpenSpec.upto varLeastSpec)

/-- 'spillwaykeep.VarAny', WHERE WHAT IT READS IS OF BULK AT MOST 1048576: true; the input reads as it did. -/
def varAnyUptoRow : OpenClaim := { program := "ytpickcmpnncgcaa", sum := "9e6b16674c515d1f46504ef5a73aa82b666e2adf0bbf9ed9e983c77309c93dac", func := "spillway/spillwaykeep.VarAny", spec := "varAny", apart := false, narrowed := true }
def VarAnyUptoSaid : Prop := varAnyUptoRow.holds Try.pinned (OpenSpec.upto varAnySpec)

end Rows
end Go.Proofs.Ytpickcmpnncgcaa
