/-
  No cell of these rows narrows 'for every input' (looked for: loops, veiled, ifaces, maps, wideKeys, modest, calm, conditions, laid).
  DERIVED. THE GIVEN ROWS OF THIS SEAT. 13 by the template 'for every input the law returns true; each argument reads behind the call as it read before'; 0 by the template 'total and deterministic' (their statements: YtkmkcpjmhcpjpaaTotals.lean).
  GIVEN WITH THE SEED: the statements are not yours to turn. If you find one false, say at which input.
  Laid BY PROGRAM, IN A SANDBOX (cutbox-rows.mjs): the forced cells as the released guide's own fill.sh prints them over the translation f04d2388f8651301… (all of the seat's roots in one cut). By AI agents, Wed Nov 11 2026. No macro, syntax, notation, axiom, sorry.
-/
import Derived.Test.YtkmkcpjmhcpjpaaChecked
import GoSem.Claim
import GoSem.ClaimJoined
import GoSem.ClaimMapViews
import Derived.JoinedTies
import Derived.KernelRfl
namespace Go.Proofs.Ytkmkcpjmhcpjpaa
/- THE CELL 'sum', in the pinned program and in every row, IS THE sha256 OF THE DUMP (.gsa) THAT YtkmkcpjmhcpjpaaProg.lean LOADS. Nothing in Lean hashes anything: it is a label: what it is worth is what the hold of that sum in a sandbox is worth. -/
noncomputable def Try.pinned : Pinned := { name := "ytkmkcpjmhcpjpaa", sum := "f04d2388f8651301ec01f21f7ea583daca93ed99471bd863546ec5c8cea33374", checked := Try.checked }
namespace Rows
def none {H : Type} : Left H := { results := [], args := [] }

/-- 'spillwaykeep.SenderEver': WHATEVER THE INPUT: true; the input reads as it did. -/
def senderEverSpec : ChangeSpec := { name := "senderEver", fn := fun _ => fun
  | [d1, d2, d3] => { results := [.lit (.bool true)], args := [d1, d2, d3] }
  | _ => none }
def senderEverRow : OpenClaim := { program := "ytkmkcpjmhcpjpaa", sum := "f04d2388f8651301ec01f21f7ea583daca93ed99471bd863546ec5c8cea33374", func := "spillway/spillwaykeep.SenderEver", spec := "senderEver", apart := false }
def SenderEverSaid : Prop := senderEverRow.holds Try.pinned (OpenSpec.ofChange senderEverSpec)

/-- ITS FALSE NEIGHBOUR: 'it returns false'. Refute it at one input. -/
def senderEverWrong : ChangeSpec := { name := "senderEver", fn := fun _ => fun
  | [d1, d2, d3] => { results := [.lit (.bool false)], args := [d1, d2, d3] }
  | _ => none }
def SenderEverWrongFalsely : Prop := senderEverRow.holds Try.pinned (OpenSpec.ofChange senderEverWrong)

/-- 'spillwaykeep.SenderGood': WHATEVER THE INPUT: true; the input reads as it did. -/
def senderGoodSpec : ChangeSpec := { name := "senderGood", fn := fun _ => fun
  | [d] => { results := [.lit (.bool true)], args := [d] }
  | _ => none }
def senderGoodRow : OpenClaim := { program := "ytkmkcpjmhcpjpaa", sum := "f04d2388f8651301ec01f21f7ea583daca93ed99471bd863546ec5c8cea33374", func := "spillway/spillwaykeep.SenderGood", spec := "senderGood", apart := false }
def SenderGoodSaid : Prop := senderGoodRow.holds Try.pinned (OpenSpec.ofChange senderGoodSpec)

/-- ITS FALSE NEIGHBOUR: 'it returns false'. Refute it at one input. -/
def senderGoodWrong : ChangeSpec := { name := "senderGood", fn := fun _ => fun
  | [d] => { results := [.lit (.bool false)], args := [d] }
  | _ => none }
def SenderGoodWrongFalsely : Prop := senderGoodRow.holds Try.pinned (OpenSpec.ofChange senderGoodWrong)

/-- 'spillwaykeep.SenderCredit': WHATEVER THE INPUT: true; the input reads as it did. -/
def senderCreditSpec : ChangeSpec := { name := "senderCredit", fn := fun _ => fun
  | [d1, d2, d3, d4] => { results := [.lit (.bool true)], args := [d1, d2, d3, d4] }
  | _ => none }
def senderCreditRow : OpenClaim := { program := "ytkmkcpjmhcpjpaa", sum := "f04d2388f8651301ec01f21f7ea583daca93ed99471bd863546ec5c8cea33374", func := "spillway/spillwaykeep.SenderCredit", spec := "senderCredit", apart := false }
def SenderCreditSaid : Prop := senderCreditRow.holds Try.pinned (OpenSpec.ofChange senderCreditSpec)

/-- ITS FALSE NEIGHBOUR: 'it returns false'. Refute it at one input. -/
def senderCreditWrong : ChangeSpec := { name := "senderCredit", fn := fun _ => fun
  | [d1, d2, d3, d4] => { results := [.lit (.bool false)], args := [d1, d2, d3, d4] }
  | _ => none }
def SenderCreditWrongFalsely : Prop := senderCreditRow.holds Try.pinned (OpenSpec.ofChange senderCreditWrong)

/-- 'spillwaylaw.SpaceChecks': WHATEVER THE INPUT: true; the input reads as it did. -/
def spaceChecksSpec : ChangeSpec := { name := "spaceChecks", fn := fun _ => fun
  | [d] => { results := [.lit (.bool true)], args := [d] }
  | _ => none }
def spaceChecksRow : OpenClaim := { program := "ytkmkcpjmhcpjpaa", sum := "f04d2388f8651301ec01f21f7ea583daca93ed99471bd863546ec5c8cea33374", func := "spillway/spillwaylaw.SpaceChecks", spec := "spaceChecks", unfollowed := true, recurses := true, apart := false }
def SpaceChecksSaid : Prop := spaceChecksRow.holds Try.pinned (OpenSpec.ofChange spaceChecksSpec)

/-- ITS FALSE NEIGHBOUR: 'it returns false'. Refute it at one input. -/
def spaceChecksWrong : ChangeSpec := { name := "spaceChecks", fn := fun _ => fun
  | [d] => { results := [.lit (.bool false)], args := [d] }
  | _ => none }
def SpaceChecksWrongFalsely : Prop := spaceChecksRow.holds Try.pinned (OpenSpec.ofChange spaceChecksWrong)

/-- 'spillwaylaw.SpaceSends': WHATEVER THE INPUT: true; the input reads as it did. -/
def spaceSendsSpec : ChangeSpec := { name := "spaceSends", fn := fun _ => fun
  | [d1, d2, d3, d4] => { results := [.lit (.bool true)], args := [d1, d2, d3, d4] }
  | _ => none }
def spaceSendsRow : OpenClaim := { program := "ytkmkcpjmhcpjpaa", sum := "f04d2388f8651301ec01f21f7ea583daca93ed99471bd863546ec5c8cea33374", func := "spillway/spillwaylaw.SpaceSends", spec := "spaceSends", unfollowed := true, recurses := true, apart := false }
def SpaceSendsSaid : Prop := spaceSendsRow.holds Try.pinned (OpenSpec.ofChange spaceSendsSpec)

/-- ITS FALSE NEIGHBOUR: 'it returns false'. Refute it at one input. -/
def spaceSendsWrong : ChangeSpec := { name := "spaceSends", fn := fun _ => fun
  | [d1, d2, d3, d4] => { results := [.lit (.bool false)], args := [d1, d2, d3, d4] }
  | _ => none }
def SpaceSendsWrongFalsely : Prop := spaceSendsRow.holds Try.pinned (OpenSpec.ofChange spaceSendsWrong)

/-- 'spillwaylaw.SpaceLeaps': WHATEVER THE INPUT: true; the input reads as it did. -/
def spaceLeapsSpec : ChangeSpec := { name := "spaceLeaps", fn := fun _ => fun
  | [d] => { results := [.lit (.bool true)], args := [d] }
  | _ => none }
def spaceLeapsRow : OpenClaim := { program := "ytkmkcpjmhcpjpaa", sum := "f04d2388f8651301ec01f21f7ea583daca93ed99471bd863546ec5c8cea33374", func := "spillway/spillwaylaw.SpaceLeaps", spec := "spaceLeaps", unfollowed := true, recurses := true, apart := false }
def SpaceLeapsSaid : Prop := spaceLeapsRow.holds Try.pinned (OpenSpec.ofChange spaceLeapsSpec)

/-- ITS FALSE NEIGHBOUR: 'it returns false'. Refute it at one input. -/
def spaceLeapsWrong : ChangeSpec := { name := "spaceLeaps", fn := fun _ => fun
  | [d] => { results := [.lit (.bool false)], args := [d] }
  | _ => none }
def SpaceLeapsWrongFalsely : Prop := spaceLeapsRow.holds Try.pinned (OpenSpec.ofChange spaceLeapsWrong)

/-- 'spillwaylaw.SpaceHears': WHATEVER THE INPUT: true; the input reads as it did. -/
def spaceHearsSpec : ChangeSpec := { name := "spaceHears", fn := fun _ => fun
  | [d1, d2] => { results := [.lit (.bool true)], args := [d1, d2] }
  | _ => none }
def spaceHearsRow : OpenClaim := { program := "ytkmkcpjmhcpjpaa", sum := "f04d2388f8651301ec01f21f7ea583daca93ed99471bd863546ec5c8cea33374", func := "spillway/spillwaylaw.SpaceHears", spec := "spaceHears", inPlace := ["internal/reflectlite.ValueOf", "internal/reflectlite.Swapper", "(internal/reflectlite.Value).Len"], unfollowed := true, recurses := true, apart := false }
def SpaceHearsSaid : Prop := spaceHearsRow.holds Try.pinned (OpenSpec.ofChange spaceHearsSpec)

/-- ITS FALSE NEIGHBOUR: 'it returns false'. Refute it at one input. -/
def spaceHearsWrong : ChangeSpec := { name := "spaceHears", fn := fun _ => fun
  | [d1, d2] => { results := [.lit (.bool false)], args := [d1, d2] }
  | _ => none }
def SpaceHearsWrongFalsely : Prop := spaceHearsRow.holds Try.pinned (OpenSpec.ofChange spaceHearsWrong)

/-- 'spillwaylaw.SpaceAcks': WHATEVER THE INPUT: true; the input reads as it did. -/
def spaceAcksSpec : ChangeSpec := { name := "spaceAcks", fn := fun _ => fun
  | [d1, d2] => { results := [.lit (.bool true)], args := [d1, d2] }
  | _ => none }
def spaceAcksRow : OpenClaim := { program := "ytkmkcpjmhcpjpaa", sum := "f04d2388f8651301ec01f21f7ea583daca93ed99471bd863546ec5c8cea33374", func := "spillway/spillwaylaw.SpaceAcks", spec := "spaceAcks", unfollowed := true, recurses := true, apart := false }
def SpaceAcksSaid : Prop := spaceAcksRow.holds Try.pinned (OpenSpec.ofChange spaceAcksSpec)

/-- ITS FALSE NEIGHBOUR: 'it returns false'. Refute it at one input. -/
def spaceAcksWrong : ChangeSpec := { name := "spaceAcks", fn := fun _ => fun
  | [d1, d2] => { results := [.lit (.bool false)], args := [d1, d2] }
  | _ => none }
def SpaceAcksWrongFalsely : Prop := spaceAcksRow.holds Try.pinned (OpenSpec.ofChange spaceAcksWrong)

/-- 'spillwaylaw.SpaceOverdues': WHATEVER THE INPUT: true; the input reads as it did. -/
def spaceOverduesSpec : ChangeSpec := { name := "spaceOverdues", fn := fun _ => fun
  | [d1, d2, d3] => { results := [.lit (.bool true)], args := [d1, d2, d3] }
  | _ => none }
def spaceOverduesRow : OpenClaim := { program := "ytkmkcpjmhcpjpaa", sum := "f04d2388f8651301ec01f21f7ea583daca93ed99471bd863546ec5c8cea33374", func := "spillway/spillwaylaw.SpaceOverdues", spec := "spaceOverdues", unfollowed := true, recurses := true, apart := false }
def SpaceOverduesSaid : Prop := spaceOverduesRow.holds Try.pinned (OpenSpec.ofChange spaceOverduesSpec)

/-- ITS FALSE NEIGHBOUR: 'it returns false'. Refute it at one input. -/
def spaceOverduesWrong : ChangeSpec := { name := "spaceOverdues", fn := fun _ => fun
  | [d1, d2, d3] => { results := [.lit (.bool false)], args := [d1, d2, d3] }
  | _ => none }
def SpaceOverduesWrongFalsely : Prop := spaceOverduesRow.holds Try.pinned (OpenSpec.ofChange spaceOverduesWrong)

/-- 'spillwaykeep.SpaceOnce': WHATEVER THE INPUT: true; the input reads as it did. -/
def spaceOnceSpec : ChangeSpec := { name := "spaceOnce", fn := fun _ => fun
  | [d] => { results := [.lit (.bool true)], args := [d] }
  | _ => none }
def spaceOnceRow : OpenClaim := { program := "ytkmkcpjmhcpjpaa", sum := "f04d2388f8651301ec01f21f7ea583daca93ed99471bd863546ec5c8cea33374", func := "spillway/spillwaykeep.SpaceOnce", spec := "spaceOnce", unfollowed := true, recurses := true, apart := false }
def SpaceOnceSaid : Prop := spaceOnceRow.holds Try.pinned (OpenSpec.ofChange spaceOnceSpec)

/-- ITS FALSE NEIGHBOUR: 'it returns false'. Refute it at one input. -/
def spaceOnceWrong : ChangeSpec := { name := "spaceOnce", fn := fun _ => fun
  | [d] => { results := [.lit (.bool false)], args := [d] }
  | _ => none }
def SpaceOnceWrongFalsely : Prop := spaceOnceRow.holds Try.pinned (OpenSpec.ofChange spaceOnceWrong)

/-- 'spillwaykeep.SpaceLate': WHATEVER THE INPUT: true; the input reads as it did. -/
def spaceLateSpec : ChangeSpec := { name := "spaceLate", fn := fun _ => fun
  | [d1, d2] => { results := [.lit (.bool true)], args := [d1, d2] }
  | _ => none }
def spaceLateRow : OpenClaim := { program := "ytkmkcpjmhcpjpaa", sum := "f04d2388f8651301ec01f21f7ea583daca93ed99471bd863546ec5c8cea33374", func := "spillway/spillwaykeep.SpaceLate", spec := "spaceLate", unfollowed := true, recurses := true, apart := false }
def SpaceLateSaid : Prop := spaceLateRow.holds Try.pinned (OpenSpec.ofChange spaceLateSpec)

/-- ITS FALSE NEIGHBOUR: 'it returns false'. Refute it at one input. -/
def spaceLateWrong : ChangeSpec := { name := "spaceLate", fn := fun _ => fun
  | [d1, d2] => { results := [.lit (.bool false)], args := [d1, d2] }
  | _ => none }
def SpaceLateWrongFalsely : Prop := spaceLateRow.holds Try.pinned (OpenSpec.ofChange spaceLateWrong)

/-- 'spillwaykeep.SpaceLies': WHATEVER THE INPUT: true; the input reads as it did. -/
def spaceLiesSpec : ChangeSpec := { name := "spaceLies", fn := fun _ => fun
  | [d1, d2] => { results := [.lit (.bool true)], args := [d1, d2] }
  | _ => none }
def spaceLiesRow : OpenClaim := { program := "ytkmkcpjmhcpjpaa", sum := "f04d2388f8651301ec01f21f7ea583daca93ed99471bd863546ec5c8cea33374", func := "spillway/spillwaykeep.SpaceLies", spec := "spaceLies", unfollowed := true, recurses := true, apart := false }
def SpaceLiesSaid : Prop := spaceLiesRow.holds Try.pinned (OpenSpec.ofChange spaceLiesSpec)

/-- ITS FALSE NEIGHBOUR: 'it returns false'. Refute it at one input. -/
def spaceLiesWrong : ChangeSpec := { name := "spaceLies", fn := fun _ => fun
  | [d1, d2] => { results := [.lit (.bool false)], args := [d1, d2] }
  | _ => none }
def SpaceLiesWrongFalsely : Prop := spaceLiesRow.holds Try.pinned (OpenSpec.ofChange spaceLiesWrong)

/-- 'spillwaykeep.SpaceTells': WHATEVER THE INPUT: true; the input reads as it did. -/
def spaceTellsSpec : ChangeSpec := { name := "spaceTells", fn := fun _ => fun
  | [d] => { results := [.lit (.bool true)], args := [d] }
  | _ => none }
def spaceTellsRow : OpenClaim := { program := "ytkmkcpjmhcpjpaa", sum := "f04d2388f8651301ec01f21f7ea583daca93ed99471bd863546ec5c8cea33374", func := "spillway/spillwaykeep.SpaceTells", spec := "spaceTells", unfollowed := true, recurses := true, apart := false }
def SpaceTellsSaid : Prop := spaceTellsRow.holds Try.pinned (OpenSpec.ofChange spaceTellsSpec)

/-- ITS FALSE NEIGHBOUR: 'it returns false'. Refute it at one input. -/
def spaceTellsWrong : ChangeSpec := { name := "spaceTells", fn := fun _ => fun
  | [d] => { results := [.lit (.bool false)], args := [d] }
  | _ => none }
def SpaceTellsWrongFalsely : Prop := spaceTellsRow.holds Try.pinned (OpenSpec.ofChange spaceTellsWrong)

/- THE SECOND FORM. 'bulk': how many values and letters a reading holds, each counted each time it is reached (what is shared counts as often as it is met; a slice's spare places count too). A statement '..UptoSaid' is the law's where the arguments, and the package variables that the reading takes, are together of bulk at most 1048576: NARROWER than '..Said'. Prove '..Said' where nothing that the law and all that it calls make is longer than what came in: it says more and counts as full. Else prove '..UptoSaid'. A law counts once. -/
mutual
def uptoBulk {H : Type} : DataW H → Nat
  | .lit (.string bytes) => bytes.length + 1
  | .lit _ => 1
  | .nil => 1
  | .ptr d => uptoBulk d + 1
  | .slice elems spare => uptoBulkAll elems + uptoBulkAll spare + 1
  | .agg parts => uptoBulkAll parts + 1
  | .iface _ d => uptoBulk d + 1
  | .map entries => uptoBulkEntries entries + 1
  | .held _ => 1
def uptoBulkAll {H : Type} : List (DataW H) → Nat
  | [] => 0
  | d :: r => uptoBulk d + uptoBulkAll r
def uptoBulkEntries {H : Type} : List (Lit × DataW H) → Nat
  | [] => 0
  | x :: r => uptoBulkEntry x + uptoBulkEntries r
def uptoBulkEntry {H : Type} : Lit × DataW H → Nat
  | (.string bytes, d) => bytes.length + uptoBulk d + 1
  | (_, d) => uptoBulk d + 1
 end
def uptoSmall : (H : Type) → List (DataW H) → Bool := fun _ ds => decide (uptoBulkAll ds ≤ 1048576)
def OpenSpec.upto (s : _root_.Go.ChangeSpec) : _root_.Go.OpenSpec := { _root_.Go.OpenSpec.ofChange s with cond := some uptoSmall }

/-- 'spillwaykeep.SenderEver', WHERE WHAT IT READS IS OF BULK AT MOST 1048576: true; the input reads as it did. -/
def senderEverUptoRow : OpenClaim := { program := "ytkmkcpjmhcpjpaa", sum := "f04d2388f8651301ec01f21f7ea583daca93ed99471bd863546ec5c8cea33374", func := "spillway/spillwaykeep.SenderEver", spec := "senderEver", apart := false, narrowed := true }
def SenderEverUptoSaid : Prop := senderEverUptoRow.holds Try.pinned (OpenSpec.upto senderEverSpec)

/-- 'spillwaykeep.SenderGood', WHERE WHAT IT READS IS OF BULK AT MOST 1048576: true; the input reads as it did. -/
def senderGoodUptoRow : OpenClaim := { program := "ytkmkcpjmhcpjpaa", sum := "f04d2388f8651301ec01f21f7ea583daca93ed99471bd863546ec5c8cea33374", func := "spillway/spillwaykeep.SenderGood", spec := "senderGood", apart := false, narrowed := true }
def SenderGoodUptoSaid : Prop := senderGoodUptoRow.holds Try.pinned (OpenSpec.upto senderGoodSpec)

/-- 'spillwaykeep.SenderCredit', WHERE WHAT IT READS IS OF BULK AT MOST 1048576: true; the input reads as it did. -/
def senderCreditUptoRow : OpenClaim := { program := "ytkmkcpjmhcpjpaa", sum := "f04d2388f8651301ec01f21f7ea583daca93ed99471bd863546ec5c8cea33374", func := "spillway/spillwaykeep.SenderCredit", spec := "senderCredit", apart := false, narrowed := true }
def SenderCreditUptoSaid : Prop := senderCreditUptoRow.holds Try.pinned (OpenSpec.upto senderCreditSpec)

/-- 'spillwaylaw.SpaceChecks', WHERE WHAT IT READS IS OF BULK AT MOST 1048576: true; the input reads as it did. -/
def spaceChecksUptoRow : OpenClaim := { program := "ytkmkcpjmhcpjpaa", sum := "f04d2388f8651301ec01f21f7ea583daca93ed99471bd863546ec5c8cea33374", func := "spillway/spillwaylaw.SpaceChecks", spec := "spaceChecks", unfollowed := true, recurses := true, apart := false, narrowed := true }
def SpaceChecksUptoSaid : Prop := spaceChecksUptoRow.holds Try.pinned (OpenSpec.upto spaceChecksSpec)

/-- 'spillwaylaw.SpaceSends', WHERE WHAT IT READS IS OF BULK AT MOST 1048576: true; the input reads as it did. -/
def spaceSendsUptoRow : OpenClaim := { program := "ytkmkcpjmhcpjpaa", sum := "f04d2388f8651301ec01f21f7ea583daca93ed99471bd863546ec5c8cea33374", func := "spillway/spillwaylaw.SpaceSends", spec := "spaceSends", unfollowed := true, recurses := true, apart := false, narrowed := true }
def SpaceSendsUptoSaid : Prop := spaceSendsUptoRow.holds Try.pinned (OpenSpec.upto spaceSendsSpec)

/-- 'spillwaylaw.SpaceLeaps', WHERE WHAT IT READS IS OF BULK AT MOST 1048576: true; the input reads as it did. -/
def spaceLeapsUptoRow : OpenClaim := { program := "ytkmkcpjmhcpjpaa", sum := "f04d2388f8651301ec01f21f7ea583daca93ed99471bd863546ec5c8cea33374", func := "spillway/spillwaylaw.SpaceLeaps", spec := "spaceLeaps", unfollowed := true, recurses := true, apart := false, narrowed := true }
def SpaceLeapsUptoSaid : Prop := spaceLeapsUptoRow.holds Try.pinned (OpenSpec.upto spaceLeapsSpec)

/-- 'spillwaylaw.SpaceHears', WHERE WHAT IT READS IS OF BULK AT MOST 1048576: true; the input reads as it did. -/
def spaceHearsUptoRow : OpenClaim := { program := "ytkmkcpjmhcpjpaa", sum := "f04d2388f8651301ec01f21f7ea583daca93ed99471bd863546ec5c8cea33374", func := "spillway/spillwaylaw.SpaceHears", spec := "spaceHears", inPlace := ["internal/reflectlite.ValueOf", "internal/reflectlite.Swapper", "(internal/reflectlite.Value).Len"], unfollowed := true, recurses := true, apart := false, narrowed := true }
def SpaceHearsUptoSaid : Prop := spaceHearsUptoRow.holds Try.pinned (OpenSpec.upto spaceHearsSpec)

/-- 'spillwaylaw.SpaceAcks', WHERE WHAT IT READS IS OF BULK AT MOST 1048576: true; the input reads as it did. -/
def spaceAcksUptoRow : OpenClaim := { program := "ytkmkcpjmhcpjpaa", sum := "f04d2388f8651301ec01f21f7ea583daca93ed99471bd863546ec5c8cea33374", func := "spillway/spillwaylaw.SpaceAcks", spec := "spaceAcks", unfollowed := true, recurses := true, apart := false, narrowed := true }
def SpaceAcksUptoSaid : Prop := spaceAcksUptoRow.holds Try.pinned (OpenSpec.upto spaceAcksSpec)

/-- 'spillwaylaw.SpaceOverdues', WHERE WHAT IT READS IS OF BULK AT MOST 1048576: true; the input reads as it did. -/
def spaceOverduesUptoRow : OpenClaim := { program := "ytkmkcpjmhcpjpaa", sum := "f04d2388f8651301ec01f21f7ea583daca93ed99471bd863546ec5c8cea33374", func := "spillway/spillwaylaw.SpaceOverdues", spec := "spaceOverdues", unfollowed := true, recurses := true, apart := false, narrowed := true }
def SpaceOverduesUptoSaid : Prop := spaceOverduesUptoRow.holds Try.pinned (OpenSpec.upto spaceOverduesSpec)

/-- 'spillwaykeep.SpaceOnce', WHERE WHAT IT READS IS OF BULK AT MOST 1048576: true; the input reads as it did. -/
def spaceOnceUptoRow : OpenClaim := { program := "ytkmkcpjmhcpjpaa", sum := "f04d2388f8651301ec01f21f7ea583daca93ed99471bd863546ec5c8cea33374", func := "spillway/spillwaykeep.SpaceOnce", spec := "spaceOnce", unfollowed := true, recurses := true, apart := false, narrowed := true }
def SpaceOnceUptoSaid : Prop := spaceOnceUptoRow.holds Try.pinned (OpenSpec.upto spaceOnceSpec)

/-- 'spillwaykeep.SpaceLate', WHERE WHAT IT READS IS OF BULK AT MOST 1048576: true; the input reads as it did. -/
def spaceLateUptoRow : OpenClaim := { program := "ytkmkcpjmhcpjpaa", sum := "f04d2388f8651301ec01f21f7ea583daca93ed99471bd863546ec5c8cea33374", func := "spillway/spillwaykeep.SpaceLate", spec := "spaceLate", unfollowed := true, recurses := true, apart := false, narrowed := true }
def SpaceLateUptoSaid : Prop := spaceLateUptoRow.holds Try.pinned (OpenSpec.upto spaceLateSpec)

/-- 'spillwaykeep.SpaceLies', WHERE WHAT IT READS IS OF BULK AT MOST 1048576: true; the input reads as it did. -/
def spaceLiesUptoRow : OpenClaim := { program := "ytkmkcpjmhcpjpaa", sum := "f04d2388f8651301ec01f21f7ea583daca93ed99471bd863546ec5c8cea33374", func := "spillway/spillwaykeep.SpaceLies", spec := "spaceLies", unfollowed := true, recurses := true, apart := false, narrowed := true }
def SpaceLiesUptoSaid : Prop := spaceLiesUptoRow.holds Try.pinned (OpenSpec.upto spaceLiesSpec)

/-- 'spillwaykeep.SpaceTells', WHERE WHAT IT READS IS OF BULK AT MOST 1048576: true; the input reads as it did. -/
def spaceTellsUptoRow : OpenClaim := { program := "ytkmkcpjmhcpjpaa", sum := "f04d2388f8651301ec01f21f7ea583daca93ed99471bd863546ec5c8cea33374", func := "spillway/spillwaykeep.SpaceTells", spec := "spaceTells", unfollowed := true, recurses := true, apart := false, narrowed := true }
def SpaceTellsUptoSaid : Prop := spaceTellsUptoRow.holds Try.pinned (OpenSpec.upto spaceTellsSpec)

end Rows
end Go.Proofs.Ytkmkcpjmhcpjpaa
