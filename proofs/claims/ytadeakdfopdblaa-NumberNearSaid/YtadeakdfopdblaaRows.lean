/-
  No cell of these rows narrows 'for every input' (looked for: loops, veiled, ifaces, maps, wideKeys, modest, calm, conditions, laid).
  DERIVED. THE GIVEN ROWS OF THIS SEAT. 5 by the template 'for every input the law returns true; each argument reads behind the call as it read before'; 0 by the template 'total and deterministic' (their statements: YtadeakdfopdblaaTotals.lean).
  GIVEN WITH THE SEED: the statements are not yours to turn. If you find one false, say at which input.
  Laid BY PROGRAM, IN A SANDBOX (cutbox-rows.mjs): the forced cells as the released guide's own fill.sh prints them over the translation 1316f00b7e6e2dcb… (all of the seat's roots in one cut). By AI agents, Wed Nov 11 2026. No macro, syntax, notation, axiom, sorry.
-/
import Derived.Test.YtadeakdfopdblaaChecked
import GoSem.Claim
import GoSem.ClaimJoined
import GoSem.ClaimMapViews
import Derived.JoinedTies
import Derived.KernelRfl
namespace Go.Proofs.Ytadeakdfopdblaa
/- THE CELL 'sum', in the pinned program and in every row, IS THE sha256 OF THE DUMP (.gsa) THAT YtadeakdfopdblaaProg.lean LOADS. Nothing in Lean hashes anything: it is a label: what it is worth is what the hold of that sum in a sandbox is worth. -/
noncomputable def Try.pinned : Pinned := { name := "ytadeakdfopdblaa", sum := "1316f00b7e6e2dcb565319c4511ccbe70f33b99ea2a1924c16444cd56b9c9a78", checked := Try.checked }
namespace Rows
def none {H : Type} : Left H := { results := [], args := [] }

/-- 'spillwaylaw.PacknoCuts': WHATEVER THE INPUT: true; the input reads as it did. -/
def packnoCutsSpec : ChangeSpec := { name := "packnoCuts", fn := fun _ => fun
  | [d1, d2] => { results := [.lit (.bool true)], args := [d1, d2] }
  | _ => none }
def packnoCutsRow : OpenClaim := { program := "ytadeakdfopdblaa", sum := "1316f00b7e6e2dcb565319c4511ccbe70f33b99ea2a1924c16444cd56b9c9a78", func := "spillway/spillwaylaw.PacknoCuts", spec := "packnoCuts", apart := false }
def PacknoCutsSaid : Prop := packnoCutsRow.holds Try.pinned (OpenSpec.ofChange packnoCutsSpec)

/-- ITS FALSE NEIGHBOUR: 'it returns false'. Refute it at one input. -/
def packnoCutsWrong : ChangeSpec := { name := "packnoCuts", fn := fun _ => fun
  | [d1, d2] => { results := [.lit (.bool false)], args := [d1, d2] }
  | _ => none }
def PacknoCutsWrongFalsely : Prop := packnoCutsRow.holds Try.pinned (OpenSpec.ofChange packnoCutsWrong)

/-- 'spillwaylaw.PacknoWholes': WHATEVER THE INPUT: true; the input reads as it did. -/
def packnoWholesSpec : ChangeSpec := { name := "packnoWholes", fn := fun _ => fun
  | [d1, d2] => { results := [.lit (.bool true)], args := [d1, d2] }
  | _ => none }
def packnoWholesRow : OpenClaim := { program := "ytadeakdfopdblaa", sum := "1316f00b7e6e2dcb565319c4511ccbe70f33b99ea2a1924c16444cd56b9c9a78", func := "spillway/spillwaylaw.PacknoWholes", spec := "packnoWholes", apart := false }
def PacknoWholesSaid : Prop := packnoWholesRow.holds Try.pinned (OpenSpec.ofChange packnoWholesSpec)

/-- ITS FALSE NEIGHBOUR: 'it returns false'. Refute it at one input. -/
def packnoWholesWrong : ChangeSpec := { name := "packnoWholes", fn := fun _ => fun
  | [d1, d2] => { results := [.lit (.bool false)], args := [d1, d2] }
  | _ => none }
def PacknoWholesWrongFalsely : Prop := packnoWholesRow.holds Try.pinned (OpenSpec.ofChange packnoWholesWrong)

/-- 'spillwaykeep.NumberBack': WHATEVER THE INPUT: true; the input reads as it did. -/
def numberBackSpec : ChangeSpec := { name := "numberBack", fn := fun _ => fun
  | [d1, d2, d3] => { results := [.lit (.bool true)], args := [d1, d2, d3] }
  | _ => none }
def numberBackRow : OpenClaim := { program := "ytadeakdfopdblaa", sum := "1316f00b7e6e2dcb565319c4511ccbe70f33b99ea2a1924c16444cd56b9c9a78", func := "spillway/spillwaykeep.NumberBack", spec := "numberBack", apart := false }
def NumberBackSaid : Prop := numberBackRow.holds Try.pinned (OpenSpec.ofChange numberBackSpec)

/-- ITS FALSE NEIGHBOUR: 'it returns false'. Refute it at one input. -/
def numberBackWrong : ChangeSpec := { name := "numberBack", fn := fun _ => fun
  | [d1, d2, d3] => { results := [.lit (.bool false)], args := [d1, d2, d3] }
  | _ => none }
def NumberBackWrongFalsely : Prop := numberBackRow.holds Try.pinned (OpenSpec.ofChange numberBackWrong)

/-- 'spillwaykeep.NumberNear': WHATEVER THE INPUT: true; the input reads as it did. -/
def numberNearSpec : ChangeSpec := { name := "numberNear", fn := fun _ => fun
  | [d1, d2] => { results := [.lit (.bool true)], args := [d1, d2] }
  | _ => none }
def numberNearRow : OpenClaim := { program := "ytadeakdfopdblaa", sum := "1316f00b7e6e2dcb565319c4511ccbe70f33b99ea2a1924c16444cd56b9c9a78", func := "spillway/spillwaykeep.NumberNear", spec := "numberNear", apart := false }
def NumberNearSaid : Prop := numberNearRow.holds Try.pinned (OpenSpec.ofChange numberNearSpec)

/-- ITS FALSE NEIGHBOUR: 'it returns false'. Refute it at one input. -/
def numberNearWrong : ChangeSpec := { name := "numberNear", fn := fun _ => fun
  | [d1, d2] => { results := [.lit (.bool false)], args := [d1, d2] }
  | _ => none }
def NumberNearWrongFalsely : Prop := numberNearRow.holds Try.pinned (OpenSpec.ofChange numberNearWrong)

/-- 'spillwaykeep.NumberShort': WHATEVER THE INPUT: true; the input reads as it did. -/
def numberShortSpec : ChangeSpec := { name := "numberShort", fn := fun _ => fun
  | [d1, d2] => { results := [.lit (.bool true)], args := [d1, d2] }
  | _ => none }
def numberShortRow : OpenClaim := { program := "ytadeakdfopdblaa", sum := "1316f00b7e6e2dcb565319c4511ccbe70f33b99ea2a1924c16444cd56b9c9a78", func := "spillway/spillwaykeep.NumberShort", spec := "numberShort", apart := false }
def NumberShortSaid : Prop := numberShortRow.holds Try.pinned (OpenSpec.ofChange numberShortSpec)

/-- ITS FALSE NEIGHBOUR: 'it returns false'. Refute it at one input. -/
def numberShortWrong : ChangeSpec := { name := "numberShort", fn := fun _ => fun
  | [d1, d2] => { results := [.lit (.bool false)], args := [d1, d2] }
  | _ => none }
def NumberShortWrongFalsely : Prop := numberShortRow.holds Try.pinned (OpenSpec.ofChange numberShortWrong)

/- THE SECOND FORM. 'bulk': how many values and letters a reading holds, each counted each time it is reached (what is shared counts as often as it is met; a slice's spare places count too). A statement '..UptoSaid' is the law's where the arguments, and the package variables that the reading takes, are together of bulk at most 1048576: NARROWER than '..Said'. Prove '..Said' where nothing that the law and all that it calls make is longer than what came in: it says more and counts as full. Else prove '..UptoSaid'. A law counts once. -/
mutual
def uptoBulk {H : Type} : DataW H → Nat
  | .lit (.string bytes) => bytes.length + 1
  | .lit _ => 1
  | .nil => 1
  | .ptr d => uptoBulk d + 1
  | .slice elems spare => uptoBulkAll elems + uptoBulkAll spare + 1
  | .agg parts => uptoBulkAll parts + 1
  | .iface _ d => uptoBulk d + 1
  | .map entries => uptoBulkEntries entries + 1
  | .held _ => 1
def uptoBulkAll {H : Type} : List (DataW H) → Nat
  | [] => 0
  | d :: r => uptoBulk d + uptoBulkAll r
def uptoBulkEntries {H : Type} : List (Lit × DataW H) → Nat
  | [] => 0
  | x :: r => uptoBulkEntry x + uptoBulkEntries r
def uptoBulkEntry {H : Type} : Lit × DataW H → Nat
  | (.string bytes, d) => bytes.length + uptoBulk d + 1
  | (_, d) => uptoBulk d + 1
 end
def uptoSmall : (H : Type) → List (DataW H) → Bool := fun _ ds => decide (uptoBulkAll ds ≤ 1048576)
def OpenSpec.upto (s : _root_.Go.ChangeSpec) : _root_.Go.OpenSpec := { _root_.Go.OpenSpec.ofChange s with cond := some uptoSmall }

/-- 'spillwaylaw.PacknoCuts', WHERE WHAT IT READS IS OF BULK AT MOST 1048576: true; the input reads as it did. -/
def packnoCutsUptoRow : OpenClaim := { program := "ytadeakdfopdblaa", sum := "1316f00b7e6e2dcb565319c4511ccbe70f33b99ea2a1924c16444cd56b9c9a78", func := "spillway/spillwaylaw.PacknoCuts", spec := "packnoCuts", apart := false, narrowed := true }
def PacknoCutsUptoSaid : Prop := packnoCutsUptoRow.holds Try.pinned (OpenSpec.upto packnoCutsSpec)

/-- 'spillwaylaw.PacknoWholes', WHERE WHAT IT READS IS OF BULK AT MOST 1048576: true; the input reads as it did. -/
def packnoWholesUptoRow : OpenClaim := { program := "ytadeakdfopdblaa", sum := "1316f00b7e6e2dcb565319c4511ccbe70f33b99ea2a1924c16444cd56b9c9a78", func := "spillway/spillwaylaw.PacknoWholes", spec := "packnoWholes", apart := false, narrowed := true }
def PacknoWholesUptoSaid : Prop := packnoWholesUptoRow.holds Try.pinned (OpenSpec.upto packnoWholesSpec)

/-- 'spillwaykeep.NumberBack', WHERE WHAT IT READS IS OF BULK AT MOST 1048576: true; the input reads as it did. -/
def numberBackUptoRow : OpenClaim := { program := "ytadeakdfopdblaa", sum := "1316f00b7e6e2dcb565319c4511ccbe70f33b99ea2a1924c16444cd56b9c9a78", func := "spillway/spillwaykeep.NumberBack", spec := "numberBack", apart := false, narrowed := true }
def NumberBackUptoSaid : Prop := numberBackUptoRow.holds Try.pinned (OpenSpec.upto numberBackSpec)

/-- 'spillwaykeep.NumberNear', WHERE WHAT IT READS IS OF BULK AT MOST 1048576: true; the input reads as it did. -/
def numberNearUptoRow : OpenClaim := { program := "ytadeakdfopdblaa", sum := "1316f00b7e6e2dcb565319c4511ccbe70f33b99ea2a1924c16444cd56b9c9a78", func := "spillway/spillwaykeep.NumberNear", spec := "numberNear", apart := false, narrowed := true }
def NumberNearUptoSaid : Prop := numberNearUptoRow.holds Try.pinned (OpenSpec.upto numberNearSpec)

/-- 'spillwaykeep.NumberShort', WHERE WHAT IT READS IS OF BULK AT MOST 1048576: true; the input reads as it did. -/
def numberShortUptoRow : OpenClaim := { program := "ytadeakdfopdblaa", sum := "1316f00b7e6e2dcb565319c4511ccbe70f33b99ea2a1924c16444cd56b9c9a78", func := "spillway/spillwaykeep.NumberShort", spec := "numberShort", apart := false, narrowed := true }
def NumberShortUptoSaid : Prop := numberShortUptoRow.holds Try.pinned (OpenSpec.upto numberShortSpec)

end Rows
end Go.Proofs.Ytadeakdfopdblaa
