/-
  No cell of these rows narrows 'for every input' (looked for: loops, veiled, ifaces, maps, wideKeys, modest, calm, conditions, laid).
  DERIVED. THE GIVEN ROWS OF THIS SEAT. 14 by the template 'for every input the law returns true; each argument reads behind the call as it read before'; 0 by the template 'total and deterministic' (their statements: YtgfbonfoimiknaaTotals.lean).
  GIVEN WITH THE SEED: the statements are not yours to turn. If you find one false, say at which input.
  Laid BY PROGRAM, IN A SANDBOX (cutbox-rows.mjs): the forced cells as the released guide's own fill.sh prints them over the translation f1855ed49ecdd3d9… (all of the seat's roots in one cut). By AI agents, Wed Nov 11 2026. No macro, syntax, notation, axiom, sorry.
-/
import Derived.Test.YtgfbonfoimiknaaChecked
import GoSem.Claim
import GoSem.ClaimJoined
import GoSem.ClaimMapViews
import Derived.JoinedTies
import Derived.KernelRfl
namespace Go.Proofs.Ytgfbonfoimiknaa
/- THE CELL 'sum', in the pinned program and in every row, IS THE sha256 OF THE DUMP (.gsa) THAT YtgfbonfoimiknaaProg.lean LOADS. Nothing in Lean hashes anything: it is a label: what it is worth is what the hold of that sum in a sandbox is worth. -/
noncomputable def Try.pinned : Pinned := { name := "ytgfbonfoimiknaa", sum := "f1855ed49ecdd3d94fe90124e550b170b0333229c371f0d437a017d157c13d00", checked := Try.checked }
namespace Rows
def none {H : Type} : Left H := { results := [], args := [] }

/-- 'spillwaykeep.SenderEver': WHATEVER THE INPUT: true; the input reads as it did. -/
def senderEverSpec : ChangeSpec := { name := "senderEver", fn := fun _ => fun
  | [d1, d2, d3] => { results := [.lit (.bool true)], args := [d1, d2, d3] }
  | _ => none }
def senderEverRow : OpenClaim := { program := "ytgfbonfoimiknaa", sum := "f1855ed49ecdd3d94fe90124e550b170b0333229c371f0d437a017d157c13d00", func := "spillway/spillwaykeep.SenderEver", spec := "senderEver", apart := false }
def SenderEverSaid : Prop := senderEverRow.holds Try.pinned (OpenSpec.ofChange senderEverSpec)

/-- ITS FALSE NEIGHBOUR: 'it returns false'. Refute it at one input. -/
def senderEverWrong : ChangeSpec := { name := "senderEver", fn := fun _ => fun
  | [d1, d2, d3] => { results := [.lit (.bool false)], args := [d1, d2, d3] }
  | _ => none }
def SenderEverWrongFalsely : Prop := senderEverRow.holds Try.pinned (OpenSpec.ofChange senderEverWrong)

/-- 'spillwaylaw.SpaceChecks': WHATEVER THE INPUT: true; the input reads as it did. -/
def spaceChecksSpec : ChangeSpec := { name := "spaceChecks", fn := fun _ => fun
  | [d] => { results := [.lit (.bool true)], args := [d] }
  | _ => none }
def spaceChecksRow : OpenClaim := { program := "ytgfbonfoimiknaa", sum := "f1855ed49ecdd3d94fe90124e550b170b0333229c371f0d437a017d157c13d00", func := "spillway/spillwaylaw.SpaceChecks", spec := "spaceChecks", unfollowed := true, recurses := true, apart := false }
def SpaceChecksSaid : Prop := spaceChecksRow.holds Try.pinned (OpenSpec.ofChange spaceChecksSpec)

/-- ITS FALSE NEIGHBOUR: 'it returns false'. Refute it at one input. -/
def spaceChecksWrong : ChangeSpec := { name := "spaceChecks", fn := fun _ => fun
  | [d] => { results := [.lit (.bool false)], args := [d] }
  | _ => none }
def SpaceChecksWrongFalsely : Prop := spaceChecksRow.holds Try.pinned (OpenSpec.ofChange spaceChecksWrong)

/-- 'spillwaylaw.SpaceSends': WHATEVER THE INPUT: true; the input reads as it did. -/
def spaceSendsSpec : ChangeSpec := { name := "spaceSends", fn := fun _ => fun
  | [d1, d2, d3, d4] => { results := [.lit (.bool true)], args := [d1, d2, d3, d4] }
  | _ => none }
def spaceSendsRow : OpenClaim := { program := "ytgfbonfoimiknaa", sum := "f1855ed49ecdd3d94fe90124e550b170b0333229c371f0d437a017d157c13d00", func := "spillway/spillwaylaw.SpaceSends", spec := "spaceSends", unfollowed := true, recurses := true, apart := false }
def SpaceSendsSaid : Prop := spaceSendsRow.holds Try.pinned (OpenSpec.ofChange spaceSendsSpec)

/-- ITS FALSE NEIGHBOUR: 'it returns false'. Refute it at one input. -/
def spaceSendsWrong : ChangeSpec := { name := "spaceSends", fn := fun _ => fun
  | [d1, d2, d3, d4] => { results := [.lit (.bool false)], args := [d1, d2, d3, d4] }
  | _ => none }
def SpaceSendsWrongFalsely : Prop := spaceSendsRow.holds Try.pinned (OpenSpec.ofChange spaceSendsWrong)

/-- 'spillwaylaw.SpaceLeaps': WHATEVER THE INPUT: true; the input reads as it did. -/
def spaceLeapsSpec : ChangeSpec := { name := "spaceLeaps", fn := fun _ => fun
  | [d] => { results := [.lit (.bool true)], args := [d] }
  | _ => none }
def spaceLeapsRow : OpenClaim := { program := "ytgfbonfoimiknaa", sum := "f1855ed49ecdd3d94fe90124e550b170b0333229c371f0d437a017d157c13d00", func := "spillway/spillwaylaw.SpaceLeaps", spec := "spaceLeaps", unfollowed := true, recurses := true, apart := false }
def SpaceLeapsSaid : Prop := spaceLeapsRow.holds Try.pinned (OpenSpec.ofChange spaceLeapsSpec)

/-- ITS FALSE NEIGHBOUR: 'it returns false'. Refute it at one input. -/
def spaceLeapsWrong : ChangeSpec := { name := "spaceLeaps", fn := fun _ => fun
  | [d] => { results := [.lit (.bool false)], args := [d] }
  | _ => none }
def SpaceLeapsWrongFalsely : Prop := spaceLeapsRow.holds Try.pinned (OpenSpec.ofChange spaceLeapsWrong)

/-- 'spillwaylaw.SpaceHears': WHATEVER THE INPUT: true; the input reads as it did. -/
def spaceHearsSpec : ChangeSpec := { name := "spaceHears", fn := fun _ => fun
  | [d1, d2] => { results := [.lit (.bool true)], args := [d1, d2] }
  | _ => none }
def spaceHearsRow : OpenClaim := { program := "ytgfbonfoimiknaa", sum := "f1855ed49ecdd3d94fe90124e550b170b0333229c371f0d437a017d157c13d00", func := "spillway/spillwaylaw.SpaceHears", spec := "spaceHears", inPlace := ["internal/reflectlite.ValueOf", "internal/reflectlite.Swapper", "(internal/reflectlite.Value).Len"], unfollowed := true, recurses := true, apart := false }
def SpaceHearsSaid : Prop := spaceHearsRow.holds Try.pinned (OpenSpec.ofChange spaceHearsSpec)

/-- ITS FALSE NEIGHBOUR: 'it returns false'. Refute it at one input. -/
def spaceHearsWrong : ChangeSpec := { name := "spaceHears", fn := fun _ => fun
  | [d1, d2] => { results := [.lit (.bool false)], args := [d1, d2] }
  | _ => none }
def SpaceHearsWrongFalsely : Prop := spaceHearsRow.holds Try.pinned (OpenSpec.ofChange spaceHearsWrong)

/-- 'spillwaylaw.SpaceAcks': WHATEVER THE INPUT: true; the input reads as it did. -/
def spaceAcksSpec : ChangeSpec := { name := "spaceAcks", fn := fun _ => fun
  | [d1, d2] => { results := [.lit (.bool true)], args := [d1, d2] }
  | _ => none }
def spaceAcksRow : OpenClaim := { program := "ytgfbonfoimiknaa", sum := "f1855ed49ecdd3d94fe90124e550b170b0333229c371f0d437a017d157c13d00", func := "spillway/spillwaylaw.SpaceAcks", spec := "spaceAcks", unfollowed := true, recurses := true, apart := false }
def SpaceAcksSaid : Prop := spaceAcksRow.holds Try.pinned (OpenSpec.ofChange spaceAcksSpec)

/-- ITS FALSE NEIGHBOUR: 'it returns false'. Refute it at one input. -/
def spaceAcksWrong : ChangeSpec := { name := "spaceAcks", fn := fun _ => fun
  | [d1, d2] => { results := [.lit (.bool false)], args := [d1, d2] }
  | _ => none }
def SpaceAcksWrongFalsely : Prop := spaceAcksRow.holds Try.pinned (OpenSpec.ofChange spaceAcksWrong)

/-- 'spillwaylaw.SpaceOverdues': WHATEVER THE INPUT: true; the input reads as it did. -/
def spaceOverduesSpec : ChangeSpec := { name := "spaceOverdues", fn := fun _ => fun
  | [d1, d2, d3] => { results := [.lit (.bool true)], args := [d1, d2, d3] }
  | _ => none }
def spaceOverduesRow : OpenClaim := { program := "ytgfbonfoimiknaa", sum := "f1855ed49ecdd3d94fe90124e550b170b0333229c371f0d437a017d157c13d00", func := "spillway/spillwaylaw.SpaceOverdues", spec := "spaceOverdues", unfollowed := true, recurses := true, apart := false }
def SpaceOverduesSaid : Prop := spaceOverduesRow.holds Try.pinned (OpenSpec.ofChange spaceOverduesSpec)

/-- ITS FALSE NEIGHBOUR: 'it returns false'. Refute it at one input. -/
def spaceOverduesWrong : ChangeSpec := { name := "spaceOverdues", fn := fun _ => fun
  | [d1, d2, d3] => { results := [.lit (.bool false)], args := [d1, d2, d3] }
  | _ => none }
def SpaceOverduesWrongFalsely : Prop := spaceOverduesRow.holds Try.pinned (OpenSpec.ofChange spaceOverduesWrong)

/-- 'spillwaykeep.SpaceOnce': WHATEVER THE INPUT: true; the input reads as it did. -/
def spaceOnceSpec : ChangeSpec := { name := "spaceOnce", fn := fun _ => fun
  | [d] => { results := [.lit (.bool true)], args := [d] }
  | _ => none }
def spaceOnceRow : OpenClaim := { program := "ytgfbonfoimiknaa", sum := "f1855ed49ecdd3d94fe90124e550b170b0333229c371f0d437a017d157c13d00", func := "spillway/spillwaykeep.SpaceOnce", spec := "spaceOnce", unfollowed := true, recurses := true, apart := false }
def SpaceOnceSaid : Prop := spaceOnceRow.holds Try.pinned (OpenSpec.ofChange spaceOnceSpec)

/-- ITS FALSE NEIGHBOUR: 'it returns false'. Refute it at one input. -/
def spaceOnceWrong : ChangeSpec := { name := "spaceOnce", fn := fun _ => fun
  | [d] => { results := [.lit (.bool false)], args := [d] }
  | _ => none }
def SpaceOnceWrongFalsely : Prop := spaceOnceRow.holds Try.pinned (OpenSpec.ofChange spaceOnceWrong)

/-- 'spillwaykeep.SpaceLate': WHATEVER THE INPUT: true; the input reads as it did. -/
def spaceLateSpec : ChangeSpec := { name := "spaceLate", fn := fun _ => fun
  | [d1, d2] => { results := [.lit (.bool true)], args := [d1, d2] }
  | _ => none }
def spaceLateRow : OpenClaim := { program := "ytgfbonfoimiknaa", sum := "f1855ed49ecdd3d94fe90124e550b170b0333229c371f0d437a017d157c13d00", func := "spillway/spillwaykeep.SpaceLate", spec := "spaceLate", unfollowed := true, recurses := true, apart := false }
def SpaceLateSaid : Prop := spaceLateRow.holds Try.pinned (OpenSpec.ofChange spaceLateSpec)

/-- ITS FALSE NEIGHBOUR: 'it returns false'. Refute it at one input. -/
def spaceLateWrong : ChangeSpec := { name := "spaceLate", fn := fun _ => fun
  | [d1, d2] => { results := [.lit (.bool false)], args := [d1, d2] }
  | _ => none }
def SpaceLateWrongFalsely : Prop := spaceLateRow.holds Try.pinned (OpenSpec.ofChange spaceLateWrong)

/-- 'spillwaykeep.SpaceLies': WHATEVER THE INPUT: true; the input reads as it did. -/
def spaceLiesSpec : ChangeSpec := { name := "spaceLies", fn := fun _ => fun
  | [d1, d2] => { results := [.lit (.bool true)], args := [d1, d2] }
  | _ => none }
def spaceLiesRow : OpenClaim := { program := "ytgfbonfoimiknaa", sum := "f1855ed49ecdd3d94fe90124e550b170b0333229c371f0d437a017d157c13d00", func := "spillway/spillwaykeep.SpaceLies", spec := "spaceLies", unfollowed := true, recurses := true, apart := false }
def SpaceLiesSaid : Prop := spaceLiesRow.holds Try.pinned (OpenSpec.ofChange spaceLiesSpec)

/-- ITS FALSE NEIGHBOUR: 'it returns false'. Refute it at one input. -/
def spaceLiesWrong : ChangeSpec := { name := "spaceLies", fn := fun _ => fun
  | [d1, d2] => { results := [.lit (.bool false)], args := [d1, d2] }
  | _ => none }
def SpaceLiesWrongFalsely : Prop := spaceLiesRow.holds Try.pinned (OpenSpec.ofChange spaceLiesWrong)

/-- 'spillwaykeep.SpaceTells': WHATEVER THE INPUT: true; the input reads as it did. -/
def spaceTellsSpec : ChangeSpec := { name := "spaceTells", fn := fun _ => fun
  | [d] => { results := [.lit (.bool true)], args := [d] }
  | _ => none }
def spaceTellsRow : OpenClaim := { program := "ytgfbonfoimiknaa", sum := "f1855ed49ecdd3d94fe90124e550b170b0333229c371f0d437a017d157c13d00", func := "spillway/spillwaykeep.SpaceTells", spec := "spaceTells", unfollowed := true, recurses := true, apart := false }
def SpaceTellsSaid : Prop := spaceTellsRow.holds Try.pinned (OpenSpec.ofChange spaceTellsSpec)

/-- ITS FALSE NEIGHBOUR: 'it returns false'. Refute it at one input. -/
def spaceTellsWrong : ChangeSpec := { name := "spaceTells", fn := fun _ => fun
  | [d] => { results := [.lit (.bool false)], args := [d] }
  | _ => none }
def SpaceTellsWrongFalsely : Prop := spaceTellsRow.holds Try.pinned (OpenSpec.ofChange spaceTellsWrong)

/-- 'spillwaylaw.GateKeys': WHATEVER THE INPUT: true; the input reads as it did. -/
def gateKeysSpec : ChangeSpec := { name := "gateKeys", fn := fun _ => fun
  | [d1, d2, d3, d4] => { results := [.lit (.bool true)], args := [d1, d2, d3, d4] }
  | _ => none }
def gateKeysRow : OpenClaim := { program := "ytgfbonfoimiknaa", sum := "f1855ed49ecdd3d94fe90124e550b170b0333229c371f0d437a017d157c13d00", func := "spillway/spillwaylaw.GateKeys", spec := "gateKeys", apart := false }
def GateKeysSaid : Prop := gateKeysRow.holds Try.pinned (OpenSpec.ofChange gateKeysSpec)

/-- ITS FALSE NEIGHBOUR: 'it returns false'. Refute it at one input. -/
def gateKeysWrong : ChangeSpec := { name := "gateKeys", fn := fun _ => fun
  | [d1, d2, d3, d4] => { results := [.lit (.bool false)], args := [d1, d2, d3, d4] }
  | _ => none }
def GateKeysWrongFalsely : Prop := gateKeysRow.holds Try.pinned (OpenSpec.ofChange gateKeysWrong)

/-- 'spillwaylaw.GateUnpacks': WHATEVER THE INPUT: true; the input reads as it did. -/
def gateUnpacksSpec : ChangeSpec := { name := "gateUnpacks", fn := fun _ => fun
  | [d1, d2, d3, d4, d5] => { results := [.lit (.bool true)], args := [d1, d2, d3, d4, d5] }
  | _ => none }
def gateUnpacksRow : OpenClaim := { program := "ytgfbonfoimiknaa", sum := "f1855ed49ecdd3d94fe90124e550b170b0333229c371f0d437a017d157c13d00", func := "spillway/spillwaylaw.GateUnpacks", spec := "gateUnpacks", unfollowed := true, recurses := true, apart := false }
def GateUnpacksSaid : Prop := gateUnpacksRow.holds Try.pinned (OpenSpec.ofChange gateUnpacksSpec)

/-- ITS FALSE NEIGHBOUR: 'it returns false'. Refute it at one input. -/
def gateUnpacksWrong : ChangeSpec := { name := "gateUnpacks", fn := fun _ => fun
  | [d1, d2, d3, d4, d5] => { results := [.lit (.bool false)], args := [d1, d2, d3, d4, d5] }
  | _ => none }
def GateUnpacksWrongFalsely : Prop := gateUnpacksRow.holds Try.pinned (OpenSpec.ofChange gateUnpacksWrong)

/-- 'spillwaykeep.SessionApart': WHATEVER THE INPUT: true; the input reads as it did. -/
def sessionApartSpec : ChangeSpec := { name := "sessionApart", fn := fun _ => fun
  | [d1, d2, d3, d4] => { results := [.lit (.bool true)], args := [d1, d2, d3, d4] }
  | _ => none }
def sessionApartRow : OpenClaim := { program := "ytgfbonfoimiknaa", sum := "f1855ed49ecdd3d94fe90124e550b170b0333229c371f0d437a017d157c13d00", func := "spillway/spillwaykeep.SessionApart", spec := "sessionApart", apart := false }
def SessionApartSaid : Prop := sessionApartRow.holds Try.pinned (OpenSpec.ofChange sessionApartSpec)

/-- ITS FALSE NEIGHBOUR: 'it returns false'. Refute it at one input. -/
def sessionApartWrong : ChangeSpec := { name := "sessionApart", fn := fun _ => fun
  | [d1, d2, d3, d4] => { results := [.lit (.bool false)], args := [d1, d2, d3, d4] }
  | _ => none }
def SessionApartWrongFalsely : Prop := sessionApartRow.holds Try.pinned (OpenSpec.ofChange sessionApartWrong)

/- THE SECOND FORM. 'bulk': how many values and letters a reading holds, each counted each time it is reached (what is shared counts as often as it is met; a slice's spare places count too). A statement '..UptoSaid' is the law's where the arguments, and the package variables that the reading takes, are together of bulk at most 1048576: NARROWER than '..Said'. Prove '..Said' where nothing that the law and all that it calls make is longer than what came in: it says more and counts as full. Else prove '..UptoSaid'. A law counts once. -/
mutual
def uptoBulk {H : Type} : DataW H → Nat
  | .lit (.string bytes) => bytes.length + 1
  | .lit _ => 1
  | .nil => 1
  | .ptr d => uptoBulk d + 1
  | .slice elems spare => uptoBulkAll elems + uptoBulkAll spare + 1
  | .agg parts => uptoBulkAll parts + 1
  | .iface _ d => uptoBulk d + 1
  | .map entries => uptoBulkEntries entries + 1
  | .held _ => 1
def uptoBulkAll {H : Type} : List (DataW H) → Nat
  | [] => 0
  | d :: r => uptoBulk d + uptoBulkAll r
def uptoBulkEntries {H : Type} : List (Lit × DataW H) → Nat
  | [] => 0
  | x :: r => uptoBulkEntry x + uptoBulkEntries r
def uptoBulkEntry {H : Type} : Lit × DataW H → Nat
  | (.string bytes, d) => bytes.length + uptoBulk d + 1
  | (_, d) => uptoBulk d + 1
 end
def uptoSmall : (H : Type) → List (DataW H) → Bool := fun _ ds => decide (uptoBulkAll ds ≤ 1048576)
def OpenSpec.upto (s : _root_.Go.ChangeSpec) : _root_.Go.OpenSpec := { _root_.Go.OpenSpec.ofChange s with cond := some uptoSmall }

/-- 'spillwaykeep.SenderEver', WHERE WHAT IT READS IS OF BULK AT MOST 1048576: true; the input reads as it did. -/
def senderEverUptoRow : OpenClaim := { program := "ytgfbonfoimiknaa", sum := "f1855ed49ecdd3d94fe90124e550b170b0333229c371f0d437a017d157c13d00", func := "spillway/spillwaykeep.SenderEver", spec := "senderEver", apart := false, narrowed := true }
def SenderEverUptoSaid : Prop := senderEverUptoRow.holds Try.pinned (OpenSpec.upto senderEverSpec)

/-- 'spillwaylaw.SpaceChecks', WHERE WHAT IT READS IS OF BULK AT MOST 1048576: true; the input reads as it did. -/
def spaceChecksUptoRow : OpenClaim := { program := "ytgfbonfoimiknaa", sum := "f1855ed49ecdd3d94fe90124e550b170b0333229c371f0d437a017d157c13d00", func := "spillway/spillwaylaw.SpaceChecks", spec := "spaceChecks", unfollowed := true, recurses := true, apart := false, narrowed := true }
def SpaceChecksUptoSaid : Prop := spaceChecksUptoRow.holds Try.pinned (OpenSpec.upto spaceChecksSpec)

/-- 'spillwaylaw.SpaceSends', WHERE WHAT IT READS IS OF BULK AT MOST 1048576: true; the input reads as it did. -/
def spaceSendsUptoRow : OpenClaim := { program := "ytgfbonfoimiknaa", sum := "f1855ed49ecdd3d94fe90124e550b170b0333229c371f0d437a017d157c13d00", func := "spillway/spillwaylaw.SpaceSends", spec := "spaceSends", unfollowed := true, recurses := true, apart := false, narrowed := true }
def SpaceSendsUptoSaid : Prop := spaceSendsUptoRow.holds Try.pinned (OpenSpec.upto spaceSendsSpec)

/-- 'spillwaylaw.SpaceLeaps', WHERE WHAT IT READS IS OF BULK AT MOST 1048576: true; the input reads as it did. -/
def spaceLeapsUptoRow : OpenClaim := { program := "ytgfbonfoimiknaa", sum := "f1855ed49ecdd3d94fe90124e550b170b0333229c371f0d437a017d157c13d00", func := "spillway/spillwaylaw.SpaceLeaps", spec := "spaceLeaps", unfollowed := true, recurses := true, apart := false, narrowed := true }
def SpaceLeapsUptoSaid : Prop := spaceLeapsUptoRow.holds Try.pinned (OpenSpec.upto spaceLeapsSpec)

/-- 'spillwaylaw.SpaceHears', WHERE WHAT IT READS IS OF BULK AT MOST 1048576: true; the input reads as it did. -/
def spaceHearsUptoRow : OpenClaim := { program := "ytgfbonfoimiknaa", sum := "f1855ed49ecdd3d94fe90124e550b170b0333229c371f0d437a017d157c13d00", func := "spillway/spillwaylaw.SpaceHears", spec := "spaceHears", inPlace := ["internal/reflectlite.ValueOf", "internal/reflectlite.Swapper", "(internal/reflectlite.Value).Len"], unfollowed := true, recurses := true, apart := false, narrowed := true }
def SpaceHearsUptoSaid : Prop := spaceHearsUptoRow.holds Try.pinned (OpenSpec.upto spaceHearsSpec)

/-- 'spillwaylaw.SpaceAcks', WHERE WHAT IT READS IS OF BULK AT MOST 1048576: true; the input reads as it did. -/
def spaceAcksUptoRow : OpenClaim := { program := "ytgfbonfoimiknaa", sum := "f1855ed49ecdd3d94fe90124e550b170b0333229c371f0d437a017d157c13d00", func := "spillway/spillwaylaw.SpaceAcks", spec := "spaceAcks", unfollowed := true, recurses := true, apart := false, narrowed := true }
def SpaceAcksUptoSaid : Prop := spaceAcksUptoRow.holds Try.pinned (OpenSpec.upto spaceAcksSpec)

/-- 'spillwaylaw.SpaceOverdues', WHERE WHAT IT READS IS OF BULK AT MOST 1048576: true; the input reads as it did. -/
def spaceOverduesUptoRow : OpenClaim := { program := "ytgfbonfoimiknaa", sum := "f1855ed49ecdd3d94fe90124e550b170b0333229c371f0d437a017d157c13d00", func := "spillway/spillwaylaw.SpaceOverdues", spec := "spaceOverdues", unfollowed := true, recurses := true, apart := false, narrowed := true }
def SpaceOverduesUptoSaid : Prop := spaceOverduesUptoRow.holds Try.pinned (OpenSpec.upto spaceOverduesSpec)

/-- 'spillwaykeep.SpaceOnce', WHERE WHAT IT READS IS OF BULK AT MOST 1048576: true; the input reads as it did. -/
def spaceOnceUptoRow : OpenClaim := { program := "ytgfbonfoimiknaa", sum := "f1855ed49ecdd3d94fe90124e550b170b0333229c371f0d437a017d157c13d00", func := "spillway/spillwaykeep.SpaceOnce", spec := "spaceOnce", unfollowed := true, recurses := true, apart := false, narrowed := true }
def SpaceOnceUptoSaid : Prop := spaceOnceUptoRow.holds Try.pinned (OpenSpec.upto spaceOnceSpec)

/-- 'spillwaykeep.SpaceLate', WHERE WHAT IT READS IS OF BULK AT MOST 1048576: true; the input reads as it did. -/
def spaceLateUptoRow : OpenClaim := { program := "ytgfbonfoimiknaa", sum := "f1855ed49ecdd3d94fe90124e550b170b0333229c371f0d437a017d157c13d00", func := "spillway/spillwaykeep.SpaceLate", spec := "spaceLate", unfollowed := true, recurses := true, apart := false, narrowed := true }
def SpaceLateUptoSaid : Prop := spaceLateUptoRow.holds Try.pinned (OpenSpec.upto spaceLateSpec)

/-- 'spillwaykeep.SpaceLies', WHERE WHAT IT READS IS OF BULK AT MOST 1048576: true; the input reads as it did. -/
def spaceLiesUptoRow : OpenClaim := { program := "ytgfbonfoimiknaa", sum := "f1855ed49ecdd3d94fe90124e550b170b0333229c371f0d437a017d157c13d00", func := "spillway/spillwaykeep.SpaceLies", spec := "spaceLies", unfollowed := true, recurses := true, apart := false, narrowed := true }
def SpaceLiesUptoSaid : Prop := spaceLiesUptoRow.holds Try.pinned (OpenSpec.upto spaceLiesSpec)

/-- 'spillwaykeep.SpaceTells', WHERE WHAT IT READS IS OF BULK AT MOST 1048576: true; the input reads as it did. -/
def spaceTellsUptoRow : OpenClaim := { program := "ytgfbonfoimiknaa", sum := "f1855ed49ecdd3d94fe90124e550b170b0333229c371f0d437a017d157c13d00", func := "spillway/spillwaykeep.SpaceTells", spec := "spaceTells", unfollowed := true, recurses := true, apart := false, narrowed := true }
def SpaceTellsUptoSaid : Prop := spaceTellsUptoRow.holds Try.pinned (OpenSpec.upto spaceTellsSpec)

/-- 'spillwaylaw.GateKeys', WHERE WHAT IT READS IS OF BULK AT MOST 1048576: true; the input reads as it did. -/
def gateKeysUptoRow : OpenClaim := { program := "ytgfbonfoimiknaa", sum := "f1855ed49ecdd3d94fe90124e550b170b0333229c371f0d437a017d157c13d00", func := "spillway/spillwaylaw.GateKeys", spec := "gateKeys", apart := false, narrowed := true }
def GateKeysUptoSaid : Prop := gateKeysUptoRow.holds Try.pinned (OpenSpec.upto gateKeysSpec)

/-- 'spillwaylaw.GateUnpacks', WHERE WHAT IT READS IS OF BULK AT MOST 1048576: true; the input reads as it did. -/
def gateUnpacksUptoRow : OpenClaim := { program := "ytgfbonfoimiknaa", sum := "f1855ed49ecdd3d94fe90124e550b170b0333229c371f0d437a017d157c13d00", func := "spillway/spillwaylaw.GateUnpacks", spec := "gateUnpacks", unfollowed := true, recurses := true, apart := false, narrowed := true }
def GateUnpacksUptoSaid : Prop := gateUnpacksUptoRow.holds Try.pinned (OpenSpec.upto gateUnpacksSpec)

/-- 'spillwaykeep.SessionApart', WHERE WHAT IT READS IS OF BULK AT MOST 1048576: true; the input reads as it did. -/
def sessionApartUptoRow : OpenClaim := { program := "ytgfbonfoimiknaa", sum := "f1855ed49ecdd3d94fe90124e550b170b0333229c371f0d437a017d157c13d00", func := "spillway/spillwaykeep.SessionApart", spec := "sessionApart", apart := false, narrowed := true }
def SessionApartUptoSaid : Prop := sessionApartUptoRow.holds Try.pinned (OpenSpec.upto sessionApartSpec)

end Rows
end Go.Proofs.Ytgfbonfoimiknaa
