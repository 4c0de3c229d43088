/-
  No cell of these rows narrows 'for every input' (looked for: loops, veiled, ifaces, maps, wideKeys, modest, calm, conditions, laid).
  DERIVED. THE GIVEN ROWS OF THIS SEAT. 6 by the template 'for every input the law returns true; each argument reads behind the call as it read before'; 0 by the template 'total and deterministic' (their statements: YtlmckklgmijapaaTotals.lean).
  GIVEN WITH THE SEED: the statements are not yours to turn. If you find one false, say at which input.
  Laid BY PROGRAM, IN A SANDBOX (cutbox-rows.mjs): the forced cells as the released guide's own fill.sh prints them over the translation 4eee1205aa9574ca… (all of the seat's roots in one cut). By AI agents, Wed Nov 11 2026. No macro, syntax, notation, axiom, sorry.
-/
import Derived.Test.YtlmckklgmijapaaChecked
import GoSem.Claim
import GoSem.ClaimJoined
import GoSem.ClaimMapViews
import Derived.JoinedTies
import Derived.KernelRfl
namespace Go.Proofs.Ytlmckklgmijapaa
/- THE CELL 'sum', in the pinned program and in every row, IS THE sha256 OF THE DUMP (.gsa) THAT YtlmckklgmijapaaProg.lean LOADS. Nothing in Lean hashes anything: it is a label: what it is worth is what the hold of that sum in a sandbox is worth. -/
noncomputable def Try.pinned : Pinned := { name := "ytlmckklgmijapaa", sum := "4eee1205aa9574ca5add22f35ccf61fc24b937a9867c738d96b317a9cbb4eab3", checked := Try.checked }
namespace Rows
def none {H : Type} : Left H := { results := [], args := [] }

/-- 'spillwaylaw.LockMixes': WHATEVER THE INPUT: true; the input reads as it did. -/
def lockMixesSpec : ChangeSpec := { name := "lockMixes", fn := fun _ => fun
  | [d1, d2] => { results := [.lit (.bool true)], args := [d1, d2] }
  | _ => none }
def lockMixesRow : OpenClaim := { program := "ytlmckklgmijapaa", sum := "4eee1205aa9574ca5add22f35ccf61fc24b937a9867c738d96b317a9cbb4eab3", func := "spillway/spillwaylaw.LockMixes", spec := "lockMixes", apart := false }
def LockMixesSaid : Prop := lockMixesRow.holds Try.pinned (OpenSpec.ofChange lockMixesSpec)

/-- ITS FALSE NEIGHBOUR: 'it returns false'. Refute it at one input. -/
def lockMixesWrong : ChangeSpec := { name := "lockMixes", fn := fun _ => fun
  | [d1, d2] => { results := [.lit (.bool false)], args := [d1, d2] }
  | _ => none }
def LockMixesWrongFalsely : Prop := lockMixesRow.holds Try.pinned (OpenSpec.ofChange lockMixesWrong)

/-- 'spillwaylaw.LockSeals': WHATEVER THE INPUT: true; the input reads as it did. -/
def lockSealsSpec : ChangeSpec := { name := "lockSeals", fn := fun _ => fun
  | [d1, d2, d3, d4] => { results := [.lit (.bool true)], args := [d1, d2, d3, d4] }
  | _ => none }
def lockSealsRow : OpenClaim := { program := "ytlmckklgmijapaa", sum := "4eee1205aa9574ca5add22f35ccf61fc24b937a9867c738d96b317a9cbb4eab3", func := "spillway/spillwaylaw.LockSeals", spec := "lockSeals", apart := false }
def LockSealsSaid : Prop := lockSealsRow.holds Try.pinned (OpenSpec.ofChange lockSealsSpec)

/-- ITS FALSE NEIGHBOUR: 'it returns false'. Refute it at one input. -/
def lockSealsWrong : ChangeSpec := { name := "lockSeals", fn := fun _ => fun
  | [d1, d2, d3, d4] => { results := [.lit (.bool false)], args := [d1, d2, d3, d4] }
  | _ => none }
def LockSealsWrongFalsely : Prop := lockSealsRow.holds Try.pinned (OpenSpec.ofChange lockSealsWrong)

/-- 'spillwaylaw.LockOpens': WHATEVER THE INPUT: true; the input reads as it did. -/
def lockOpensSpec : ChangeSpec := { name := "lockOpens", fn := fun _ => fun
  | [d1, d2, d3, d4] => { results := [.lit (.bool true)], args := [d1, d2, d3, d4] }
  | _ => none }
def lockOpensRow : OpenClaim := { program := "ytlmckklgmijapaa", sum := "4eee1205aa9574ca5add22f35ccf61fc24b937a9867c738d96b317a9cbb4eab3", func := "spillway/spillwaylaw.LockOpens", spec := "lockOpens", apart := false }
def LockOpensSaid : Prop := lockOpensRow.holds Try.pinned (OpenSpec.ofChange lockOpensSpec)

/-- ITS FALSE NEIGHBOUR: 'it returns false'. Refute it at one input. -/
def lockOpensWrong : ChangeSpec := { name := "lockOpens", fn := fun _ => fun
  | [d1, d2, d3, d4] => { results := [.lit (.bool false)], args := [d1, d2, d3, d4] }
  | _ => none }
def LockOpensWrongFalsely : Prop := lockOpensRow.holds Try.pinned (OpenSpec.ofChange lockOpensWrong)

/-- 'spillwaykeep.LockBack': WHATEVER THE INPUT: true; the input reads as it did. -/
def lockBackSpec : ChangeSpec := { name := "lockBack", fn := fun _ => fun
  | [d1, d2, d3, d4, d5] => { results := [.lit (.bool true)], args := [d1, d2, d3, d4, d5] }
  | _ => none }
def lockBackRow : OpenClaim := { program := "ytlmckklgmijapaa", sum := "4eee1205aa9574ca5add22f35ccf61fc24b937a9867c738d96b317a9cbb4eab3", func := "spillway/spillwaykeep.LockBack", spec := "lockBack", apart := false }
def LockBackSaid : Prop := lockBackRow.holds Try.pinned (OpenSpec.ofChange lockBackSpec)

/-- ITS FALSE NEIGHBOUR: 'it returns false'. Refute it at one input. -/
def lockBackWrong : ChangeSpec := { name := "lockBack", fn := fun _ => fun
  | [d1, d2, d3, d4, d5] => { results := [.lit (.bool false)], args := [d1, d2, d3, d4, d5] }
  | _ => none }
def LockBackWrongFalsely : Prop := lockBackRow.holds Try.pinned (OpenSpec.ofChange lockBackWrong)

/-- 'spillwaykeep.LockFixed': WHATEVER THE INPUT: true; the input reads as it did. -/
def lockFixedSpec : ChangeSpec := { name := "lockFixed", fn := fun _ => fun
  | [d1, d2, d3, d4, d5, d6] => { results := [.lit (.bool true)], args := [d1, d2, d3, d4, d5, d6] }
  | _ => none }
def lockFixedRow : OpenClaim := { program := "ytlmckklgmijapaa", sum := "4eee1205aa9574ca5add22f35ccf61fc24b937a9867c738d96b317a9cbb4eab3", func := "spillway/spillwaykeep.LockFixed", spec := "lockFixed", apart := false }
def LockFixedSaid : Prop := lockFixedRow.holds Try.pinned (OpenSpec.ofChange lockFixedSpec)

/-- ITS FALSE NEIGHBOUR: 'it returns false'. Refute it at one input. -/
def lockFixedWrong : ChangeSpec := { name := "lockFixed", fn := fun _ => fun
  | [d1, d2, d3, d4, d5, d6] => { results := [.lit (.bool false)], args := [d1, d2, d3, d4, d5, d6] }
  | _ => none }
def LockFixedWrongFalsely : Prop := lockFixedRow.holds Try.pinned (OpenSpec.ofChange lockFixedWrong)

/-- 'spillwaykeep.MixApart': WHATEVER THE INPUT: true; the input reads as it did. -/
def mixApartSpec : ChangeSpec := { name := "mixApart", fn := fun _ => fun
  | [d1, d2, d3] => { results := [.lit (.bool true)], args := [d1, d2, d3] }
  | _ => none }
def mixApartRow : OpenClaim := { program := "ytlmckklgmijapaa", sum := "4eee1205aa9574ca5add22f35ccf61fc24b937a9867c738d96b317a9cbb4eab3", func := "spillway/spillwaykeep.MixApart", spec := "mixApart", apart := false }
def MixApartSaid : Prop := mixApartRow.holds Try.pinned (OpenSpec.ofChange mixApartSpec)

/-- ITS FALSE NEIGHBOUR: 'it returns false'. Refute it at one input. -/
def mixApartWrong : ChangeSpec := { name := "mixApart", fn := fun _ => fun
  | [d1, d2, d3] => { results := [.lit (.bool false)], args := [d1, d2, d3] }
  | _ => none }
def MixApartWrongFalsely : Prop := mixApartRow.holds Try.pinned (OpenSpec.ofChange mixApartWrong)

/- THE SECOND FORM. 'bulk': how many values and letters a reading holds, each counted each time it is reached (what is shared counts as often as it is met; a slice's spare places count too). A statement '..UptoSaid' is the law's where the arguments, and the package variables that the reading takes, are together of bulk at most 1048576: NARROWER than '..Said'. Prove '..Said' where nothing that the law and all that it calls make is longer than what came in: it says more and counts as full. Else prove '..UptoSaid'. A law counts once. -/
mutual
def uptoBulk {H : Type} : DataW H → Nat
  | .lit (.string bytes) => bytes.length + 1
  | .lit _ => 1
  | .nil => 1
  | .ptr d => uptoBulk d + 1
  | .slice elems spare => uptoBulkAll elems + uptoBulkAll spare + 1
  | .agg parts => uptoBulkAll parts + 1
  | .iface _ d => uptoBulk d + 1
  | .map entries => uptoBulkEntries entries + 1
  | .held _ => 1
def uptoBulkAll {H : Type} : List (DataW H) → Nat
  | [] => 0
  | d :: r => uptoBulk d + uptoBulkAll r
def uptoBulkEntries {H : Type} : List (Lit × DataW H) → Nat
  | [] => 0
  | x :: r => uptoBulkEntry x + uptoBulkEntries r
def uptoBulkEntry {H : Type} : Lit × DataW H → Nat
  | (.string bytes, d) => bytes.length + uptoBulk d + 1
  | (_, d) => uptoBulk d + 1
 end
def uptoSmall : (H : Type) → List (DataW H) → Bool := fun _ ds => decide (uptoBulkAll ds ≤ 1048576)
def OpenSpec.upto (s : _root_.Go.ChangeSpec) : _root_.Go.OpenSpec := { _root_.Go.OpenSpec.ofChange s with cond := some uptoSmall }

/-- 'spillwaylaw.LockMixes', WHERE WHAT IT READS IS OF BULK AT MOST 1048576: true; the input reads as it did. -/
def lockMixesUptoRow : OpenClaim := { program := "ytlmckklgmijapaa", sum := "4eee1205aa9574ca5add22f35ccf61fc24b937a9867c738d96b317a9cbb4eab3", func := "spillway/spillwaylaw.LockMixes", spec := "lockMixes", apart := false, narrowed := true }
def LockMixesUptoSaid : Prop := lockMixesUptoRow.holds Try.pinned (OpenSpec.upto lockMixesSpec)

/-- 'spillwaylaw.LockSeals', WHERE WHAT IT READS IS OF BULK AT MOST 1048576: true; the input reads as it did. -/
def lockSealsUptoRow : OpenClaim := { program := "ytlmckklgmijapaa", sum := "4eee1205aa9574ca5add22f35ccf61fc24b937a9867c738d96b317a9cbb4eab3", func := "spillway/spillwaylaw.LockSeals", spec := "lockSeals", apart := false, narrowed := true }
def LockSealsUptoSaid : Prop := lockSealsUptoRow.holds Try.pinned (OpenSpec.upto lockSealsSpec)

/-- 'spillwaylaw.LockOpens', WHERE WHAT IT READS IS OF BULK AT MOST 1048576: true; the input reads as it did. -/
def lockOpensUptoRow : OpenClaim := { program := "ytlmckklgmijapaa", sum := "4eee1205aa9574ca5add22f35ccf61fc24b937a9867c738d96b317a9cbb4eab3", func := "spillway/spillwaylaw.LockOpens", spec := "lockOpens", apart := false, narrowed := true }
def LockOpensUptoSaid : Prop := lockOpensUptoRow.holds Try.pinned (OpenSpec.upto lockOpensSpec)

/-- 'spillwaykeep.LockBack', WHERE WHAT IT READS IS OF BULK AT MOST 1048576: true; the input reads as it did. -/
def lockBackUptoRow : OpenClaim := { program := "ytlmckklgmijapaa", sum := "4eee1205aa9574ca5add22f35ccf61fc24b937a9867c738d96b317a9cbb4eab3", func := "spillway/spillwaykeep.LockBack", spec := "lockBack", apart := false, narrowed := true }
def LockBackUptoSaid : Prop := lockBackUptoRow.holds Try.pinned (OpenSpec.upto lockBackSpec)

/-- 'spillwaykeep.LockFixed', WHERE WHAT IT READS IS OF BULK AT MOST 1048576: true; the input reads as it did. -/
def lockFixedUptoRow : OpenClaim := { program := "ytlmckklgmijapaa", sum := "4eee1205aa9574ca5add22f35ccf61fc24b937a9867c738d96b317a9cbb4eab3", func := "spillway/spillwaykeep.LockFixed", spec := "lockFixed", apart := false, narrowed := true }
def LockFixedUptoSaid : Prop := lockFixedUptoRow.holds Try.pinned (OpenSpec.upto lockFixedSpec)

/-- 'spillwaykeep.MixApart', WHERE WHAT IT READS IS OF BULK AT MOST 1048576: true; the input reads as it did. -/
def mixApartUptoRow : OpenClaim := { program := "ytlmckklgmijapaa", sum := "4eee1205aa9574ca5add22f35ccf61fc24b937a9867c738d96b317a9cbb4eab3", func := "spillway/spillwaykeep.MixApart", spec := "mixApart", apart := false, narrowed := true }
def MixApartUptoSaid : Prop := mixApartUptoRow.holds Try.pinned (OpenSpec.upto mixApartSpec)

end Rows
end Go.Proofs.Ytlmckklgmijapaa
