/-
  No cell of these rows narrows 'for every input' (looked for: loops, veiled, ifaces, maps, wideKeys, modest, calm, conditions, laid).
  DERIVED. THE GIVEN ROWS OF THIS SEAT. 3 by the template 'for every input the law returns true; each argument reads behind the call as it read before'; 0 by the template 'total and deterministic' (their statements: YtpfahdogedchpaaTotals.lean).
  GIVEN WITH THE SEED: the statements are not yours to turn. If you find one false, say at which input.
  Laid BY PROGRAM, IN A SANDBOX (cutbox-rows.mjs): the forced cells as the released guide's own fill.sh prints them over the translation 22d9c77e3d27cff9… (all of the seat's roots in one cut). By AI agents, Wed Nov 11 2026. No macro, syntax, notation, axiom, sorry.
-/
import Derived.Test.YtpfahdogedchpaaChecked
import GoSem.Claim
import GoSem.ClaimJoined
import GoSem.ClaimMapViews
import Derived.JoinedTies
import Derived.KernelRfl
namespace Go.Proofs.Ytpfahdogedchpaa
/- THE CELL 'sum', in the pinned program and in every row, IS THE sha256 OF THE DUMP (.gsa) THAT YtpfahdogedchpaaProg.lean LOADS. Nothing in Lean hashes anything: it is a label: what it is worth is what the hold of that sum in a sandbox is worth. -/
noncomputable def Try.pinned : Pinned := { name := "ytpfahdogedchpaa", sum := "22d9c77e3d27cff9bfcf95beaf752db23405b9fdfaf98f216f88bfd22d737df3", checked := Try.checked }
namespace Rows
def none {H : Type} : Left H := { results := [], args := [] }

/-- 'spillwaylaw.RequestFeeds': WHATEVER THE INPUT: true; the input reads as it did. -/
def requestFeedsSpec : ChangeSpec := { name := "requestFeeds", fn := fun _ => fun
  | [d1, d2, d3, d4] => { results := [.lit (.bool true)], args := [d1, d2, d3, d4] }
  | _ => none }
def requestFeedsRow : OpenClaim := { program := "ytpfahdogedchpaa", sum := "22d9c77e3d27cff9bfcf95beaf752db23405b9fdfaf98f216f88bfd22d737df3", func := "spillway/spillwaylaw.RequestFeeds", spec := "requestFeeds", unfollowed := true, recurses := true, apart := false }
def RequestFeedsSaid : Prop := requestFeedsRow.holds Try.pinned (OpenSpec.ofChange requestFeedsSpec)

/-- ITS FALSE NEIGHBOUR: 'it returns false'. Refute it at one input. -/
def requestFeedsWrong : ChangeSpec := { name := "requestFeeds", fn := fun _ => fun
  | [d1, d2, d3, d4] => { results := [.lit (.bool false)], args := [d1, d2, d3, d4] }
  | _ => none }
def RequestFeedsWrongFalsely : Prop := requestFeedsRow.holds Try.pinned (OpenSpec.ofChange requestFeedsWrong)

/-- 'spillwaylaw.TallySends': WHATEVER THE INPUT: true; the input reads as it did. -/
def tallySendsSpec : ChangeSpec := { name := "tallySends", fn := fun _ => fun
  | [d1, d2] => { results := [.lit (.bool true)], args := [d1, d2] }
  | _ => none }
def tallySendsRow : OpenClaim := { program := "ytpfahdogedchpaa", sum := "22d9c77e3d27cff9bfcf95beaf752db23405b9fdfaf98f216f88bfd22d737df3", func := "spillway/spillwaylaw.TallySends", spec := "tallySends", apart := false }
def TallySendsSaid : Prop := tallySendsRow.holds Try.pinned (OpenSpec.ofChange tallySendsSpec)

/-- ITS FALSE NEIGHBOUR: 'it returns false'. Refute it at one input. -/
def tallySendsWrong : ChangeSpec := { name := "tallySends", fn := fun _ => fun
  | [d1, d2] => { results := [.lit (.bool false)], args := [d1, d2] }
  | _ => none }
def TallySendsWrongFalsely : Prop := tallySendsRow.holds Try.pinned (OpenSpec.ofChange tallySendsWrong)

/-- 'spillwaykeep.TallyMost': WHATEVER THE INPUT: true; the input reads as it did. -/
def tallyMostSpec : ChangeSpec := { name := "tallyMost", fn := fun _ => fun
  | [d] => { results := [.lit (.bool true)], args := [d] }
  | _ => none }
def tallyMostRow : OpenClaim := { program := "ytpfahdogedchpaa", sum := "22d9c77e3d27cff9bfcf95beaf752db23405b9fdfaf98f216f88bfd22d737df3", func := "spillway/spillwaykeep.TallyMost", spec := "tallyMost", apart := false }
def TallyMostSaid : Prop := tallyMostRow.holds Try.pinned (OpenSpec.ofChange tallyMostSpec)

/-- ITS FALSE NEIGHBOUR: 'it returns false'. Refute it at one input. -/
def tallyMostWrong : ChangeSpec := { name := "tallyMost", fn := fun _ => fun
  | [d] => { results := [.lit (.bool false)], args := [d] }
  | _ => none }
def TallyMostWrongFalsely : Prop := tallyMostRow.holds Try.pinned (OpenSpec.ofChange tallyMostWrong)

/- THE SECOND FORM. 'bulk': how many values and letters a reading holds, each counted each time it is reached (what is shared counts as often as it is met; a slice's spare places count too). A statement '..UptoSaid' is the law's where the arguments, and the package variables that the reading takes, are together of bulk at most 1048576: NARROWER than '..Said'. Prove '..Said' where nothing that the law and all that it calls make is longer than what came in: it says more and counts as full. Else prove '..UptoSaid'. A law counts once. -/
mutual
def uptoBulk {H : Type} : DataW H → Nat
  | .lit (.string bytes) => bytes.length + 1
  | .lit _ => 1
  | .nil => 1
  | .ptr d => uptoBulk d + 1
  | .slice elems spare => uptoBulkAll elems + uptoBulkAll spare + 1
  | .agg parts => uptoBulkAll parts + 1
  | .iface _ d => uptoBulk d + 1
  | .map entries => uptoBulkEntries entries + 1
  | .held _ => 1
def uptoBulkAll {H : Type} : List (DataW H) → Nat
  | [] => 0
  | d :: r => uptoBulk d + uptoBulkAll r
def uptoBulkEntries {H : Type} : List (Lit × DataW H) → Nat
  | [] => 0
  | x :: r => uptoBulkEntry x + uptoBulkEntries r
def uptoBulkEntry {H : Type} : Lit × DataW H → Nat
  | (.string bytes, d) => bytes.length + uptoBulk d + 1
  | (_, d) => uptoBulk d + 1
 end
def uptoSmall : (H : Type) → List (DataW H) → Bool := fun _ ds => decide (uptoBulkAll ds ≤ 1048576)
def OpenSpec.upto (s : _root_.Go.ChangeSpec) : _root_.Go.OpenSpec := { _root_.Go.OpenSpec.ofChange s with cond := some uptoSmall }

/-- 'spillwaylaw.RequestFeeds', WHERE WHAT IT READS IS OF BULK AT MOST 1048576: true; the input reads as it did. -/
def requestFeedsUptoRow : OpenClaim := { program := "ytpfahdogedchpaa", sum := "22d9c77e3d27cff9bfcf95beaf752db23405b9fdfaf98f216f88bfd22d737df3", func := "spillway/spillwaylaw.RequestFeeds", spec := "requestFeeds", unfollowed := true, recurses := true, apart := false, narrowed := true }
def RequestFeedsUptoSaid : Prop := requestFeedsUptoRow.holds Try.pinned (OpenSpec.upto requestFeedsSpec)

/-- 'spillwaylaw.TallySends', WHERE WHAT IT READS IS OF BULK AT MOST 1048576: true; the input reads as it did. -/
def tallySendsUptoRow : OpenClaim := { program := "ytpfahdogedchpaa", sum := "22d9c77e3d27cff9bfcf95beaf752db23405b9fdfaf98f216f88bfd22d737df3", func := "spillway/spillwaylaw.TallySends", spec := "tallySends", apart := false, narrowed := true }
def TallySendsUptoSaid : Prop := tallySendsUptoRow.holds Try.pinned (OpenSpec.upto tallySendsSpec)

/-- 'spillwaykeep.TallyMost', WHERE WHAT IT READS IS OF BULK AT MOST 1048576: true; the input reads as it did. -/
def tallyMostUptoRow : OpenClaim := { program := "ytpfahdogedchpaa", sum := "22d9c77e3d27cff9bfcf95beaf752db23405b9fdfaf98f216f88bfd22d737df3", func := "spillway/spillwaykeep.TallyMost", spec := "tallyMost", apart := false, narrowed := true }
def TallyMostUptoSaid : Prop := tallyMostUptoRow.holds Try.pinned (OpenSpec.upto tallyMostSpec)

end Rows
end Go.Proofs.Ytpfahdogedchpaa
