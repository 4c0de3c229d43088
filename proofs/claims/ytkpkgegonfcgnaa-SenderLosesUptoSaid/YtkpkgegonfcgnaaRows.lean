/-
  No cell of these rows narrows 'for every input' (looked for: loops, veiled, ifaces, maps, wideKeys, modest, calm, conditions, laid).
  DERIVED. THE GIVEN ROWS OF THIS SEAT. 8 by the template 'for every input the law returns true; each argument reads behind the call as it read before'; 0 by the template 'total and deterministic' (their statements: YtkpkgegonfcgnaaTotals.lean).
  GIVEN WITH THE SEED: the statements are not yours to turn. If you find one false, say at which input.
  Laid BY PROGRAM, IN A SANDBOX (cutbox-rows.mjs): the forced cells as the released guide's own fill.sh prints them over the translation 2afbaeded35ec163… (all of the seat's roots in one cut). By AI agents, Wed Nov 11 2026. No macro, syntax, notation, axiom, sorry.
-/
import Derived.Test.YtkpkgegonfcgnaaChecked
import GoSem.Claim
import GoSem.ClaimJoined
import GoSem.ClaimMapViews
import Derived.JoinedTies
import Derived.KernelRfl
namespace Go.Proofs.Ytkpkgegonfcgnaa
/- THE CELL 'sum', in the pinned program and in every row, IS THE sha256 OF THE DUMP (.gsa) THAT YtkpkgegonfcgnaaProg.lean LOADS. Nothing in Lean hashes anything: it is a label: what it is worth is what the hold of that sum in a sandbox is worth. -/
noncomputable def Try.pinned : Pinned := { name := "ytkpkgegonfcgnaa", sum := "2afbaeded35ec163a12c8be88ca876b4cf32456791ddcb538fe1655b3391b5cd", checked := Try.checked }
namespace Rows
def none {H : Type} : Left H := { results := [], args := [] }

/-- 'spillwaylaw.SenderChecks': WHATEVER THE INPUT: true; the input reads as it did. -/
def senderChecksSpec : ChangeSpec := { name := "senderChecks", fn := fun _ => fun
  | [d] => { results := [.lit (.bool true)], args := [d] }
  | _ => none }
def senderChecksRow : OpenClaim := { program := "ytkpkgegonfcgnaa", sum := "2afbaeded35ec163a12c8be88ca876b4cf32456791ddcb538fe1655b3391b5cd", func := "spillway/spillwaylaw.SenderChecks", spec := "senderChecks", apart := false }
def SenderChecksSaid : Prop := senderChecksRow.holds Try.pinned (OpenSpec.ofChange senderChecksSpec)

/-- ITS FALSE NEIGHBOUR: 'it returns false'. Refute it at one input. -/
def senderChecksWrong : ChangeSpec := { name := "senderChecks", fn := fun _ => fun
  | [d] => { results := [.lit (.bool false)], args := [d] }
  | _ => none }
def SenderChecksWrongFalsely : Prop := senderChecksRow.holds Try.pinned (OpenSpec.ofChange senderChecksWrong)

/-- 'spillwaylaw.SenderWrites': WHATEVER THE INPUT: true; the input reads as it did. -/
def senderWritesSpec : ChangeSpec := { name := "senderWrites", fn := fun _ => fun
  | [d1, d2, d3, d4] => { results := [.lit (.bool true)], args := [d1, d2, d3, d4] }
  | _ => none }
def senderWritesRow : OpenClaim := { program := "ytkpkgegonfcgnaa", sum := "2afbaeded35ec163a12c8be88ca876b4cf32456791ddcb538fe1655b3391b5cd", func := "spillway/spillwaylaw.SenderWrites", spec := "senderWrites", apart := false }
def SenderWritesSaid : Prop := senderWritesRow.holds Try.pinned (OpenSpec.ofChange senderWritesSpec)

/-- ITS FALSE NEIGHBOUR: 'it returns false'. Refute it at one input. -/
def senderWritesWrong : ChangeSpec := { name := "senderWrites", fn := fun _ => fun
  | [d1, d2, d3, d4] => { results := [.lit (.bool false)], args := [d1, d2, d3, d4] }
  | _ => none }
def SenderWritesWrongFalsely : Prop := senderWritesRow.holds Try.pinned (OpenSpec.ofChange senderWritesWrong)

/-- 'spillwaylaw.SenderPieces': WHATEVER THE INPUT: true; the input reads as it did. -/
def senderPiecesSpec : ChangeSpec := { name := "senderPieces", fn := fun _ => fun
  | [d1, d2, d3] => { results := [.lit (.bool true)], args := [d1, d2, d3] }
  | _ => none }
def senderPiecesRow : OpenClaim := { program := "ytkpkgegonfcgnaa", sum := "2afbaeded35ec163a12c8be88ca876b4cf32456791ddcb538fe1655b3391b5cd", func := "spillway/spillwaylaw.SenderPieces", spec := "senderPieces", apart := false }
def SenderPiecesSaid : Prop := senderPiecesRow.holds Try.pinned (OpenSpec.ofChange senderPiecesSpec)

/-- ITS FALSE NEIGHBOUR: 'it returns false'. Refute it at one input. -/
def senderPiecesWrong : ChangeSpec := { name := "senderPieces", fn := fun _ => fun
  | [d1, d2, d3] => { results := [.lit (.bool false)], args := [d1, d2, d3] }
  | _ => none }
def SenderPiecesWrongFalsely : Prop := senderPiecesRow.holds Try.pinned (OpenSpec.ofChange senderPiecesWrong)

/-- 'spillwaylaw.SenderHears': WHATEVER THE INPUT: true; the input reads as it did. -/
def senderHearsSpec : ChangeSpec := { name := "senderHears", fn := fun _ => fun
  | [d1, d2, d3, d4] => { results := [.lit (.bool true)], args := [d1, d2, d3, d4] }
  | _ => none }
def senderHearsRow : OpenClaim := { program := "ytkpkgegonfcgnaa", sum := "2afbaeded35ec163a12c8be88ca876b4cf32456791ddcb538fe1655b3391b5cd", func := "spillway/spillwaylaw.SenderHears", spec := "senderHears", inPlace := ["internal/reflectlite.ValueOf", "internal/reflectlite.Swapper", "(internal/reflectlite.Value).Len"], unfollowed := true, recurses := true, apart := false }
def SenderHearsSaid : Prop := senderHearsRow.holds Try.pinned (OpenSpec.ofChange senderHearsSpec)

/-- ITS FALSE NEIGHBOUR: 'it returns false'. Refute it at one input. -/
def senderHearsWrong : ChangeSpec := { name := "senderHears", fn := fun _ => fun
  | [d1, d2, d3, d4] => { results := [.lit (.bool false)], args := [d1, d2, d3, d4] }
  | _ => none }
def SenderHearsWrongFalsely : Prop := senderHearsRow.holds Try.pinned (OpenSpec.ofChange senderHearsWrong)

/-- 'spillwaylaw.SenderLoses': WHATEVER THE INPUT: true; the input reads as it did. -/
def senderLosesSpec : ChangeSpec := { name := "senderLoses", fn := fun _ => fun
  | [d1, d2, d3, d4] => { results := [.lit (.bool true)], args := [d1, d2, d3, d4] }
  | _ => none }
def senderLosesRow : OpenClaim := { program := "ytkpkgegonfcgnaa", sum := "2afbaeded35ec163a12c8be88ca876b4cf32456791ddcb538fe1655b3391b5cd", func := "spillway/spillwaylaw.SenderLoses", spec := "senderLoses", inPlace := ["internal/reflectlite.ValueOf", "internal/reflectlite.Swapper", "(internal/reflectlite.Value).Len"], unfollowed := true, recurses := true, apart := false }
def SenderLosesSaid : Prop := senderLosesRow.holds Try.pinned (OpenSpec.ofChange senderLosesSpec)

/-- ITS FALSE NEIGHBOUR: 'it returns false'. Refute it at one input. -/
def senderLosesWrong : ChangeSpec := { name := "senderLoses", fn := fun _ => fun
  | [d1, d2, d3, d4] => { results := [.lit (.bool false)], args := [d1, d2, d3, d4] }
  | _ => none }
def SenderLosesWrongFalsely : Prop := senderLosesRow.holds Try.pinned (OpenSpec.ofChange senderLosesWrong)

/-- 'spillwaykeep.SenderEver': WHATEVER THE INPUT: true; the input reads as it did. -/
def senderEverSpec : ChangeSpec := { name := "senderEver", fn := fun _ => fun
  | [d1, d2, d3] => { results := [.lit (.bool true)], args := [d1, d2, d3] }
  | _ => none }
def senderEverRow : OpenClaim := { program := "ytkpkgegonfcgnaa", sum := "2afbaeded35ec163a12c8be88ca876b4cf32456791ddcb538fe1655b3391b5cd", func := "spillway/spillwaykeep.SenderEver", spec := "senderEver", apart := false }
def SenderEverSaid : Prop := senderEverRow.holds Try.pinned (OpenSpec.ofChange senderEverSpec)

/-- ITS FALSE NEIGHBOUR: 'it returns false'. Refute it at one input. -/
def senderEverWrong : ChangeSpec := { name := "senderEver", fn := fun _ => fun
  | [d1, d2, d3] => { results := [.lit (.bool false)], args := [d1, d2, d3] }
  | _ => none }
def SenderEverWrongFalsely : Prop := senderEverRow.holds Try.pinned (OpenSpec.ofChange senderEverWrong)

/-- 'spillwaykeep.SenderGood': WHATEVER THE INPUT: true; the input reads as it did. -/
def senderGoodSpec : ChangeSpec := { name := "senderGood", fn := fun _ => fun
  | [d] => { results := [.lit (.bool true)], args := [d] }
  | _ => none }
def senderGoodRow : OpenClaim := { program := "ytkpkgegonfcgnaa", sum := "2afbaeded35ec163a12c8be88ca876b4cf32456791ddcb538fe1655b3391b5cd", func := "spillway/spillwaykeep.SenderGood", spec := "senderGood", apart := false }
def SenderGoodSaid : Prop := senderGoodRow.holds Try.pinned (OpenSpec.ofChange senderGoodSpec)

/-- ITS FALSE NEIGHBOUR: 'it returns false'. Refute it at one input. -/
def senderGoodWrong : ChangeSpec := { name := "senderGood", fn := fun _ => fun
  | [d] => { results := [.lit (.bool false)], args := [d] }
  | _ => none }
def SenderGoodWrongFalsely : Prop := senderGoodRow.holds Try.pinned (OpenSpec.ofChange senderGoodWrong)

/-- 'spillwaykeep.SenderCredit': WHATEVER THE INPUT: true; the input reads as it did. -/
def senderCreditSpec : ChangeSpec := { name := "senderCredit", fn := fun _ => fun
  | [d1, d2, d3, d4] => { results := [.lit (.bool true)], args := [d1, d2, d3, d4] }
  | _ => none }
def senderCreditRow : OpenClaim := { program := "ytkpkgegonfcgnaa", sum := "2afbaeded35ec163a12c8be88ca876b4cf32456791ddcb538fe1655b3391b5cd", func := "spillway/spillwaykeep.SenderCredit", spec := "senderCredit", apart := false }
def SenderCreditSaid : Prop := senderCreditRow.holds Try.pinned (OpenSpec.ofChange senderCreditSpec)

/-- ITS FALSE NEIGHBOUR: 'it returns false'. Refute it at one input. -/
def senderCreditWrong : ChangeSpec := { name := "senderCredit", fn := fun _ => fun
  | [d1, d2, d3, d4] => { results := [.lit (.bool false)], args := [d1, d2, d3, d4] }
  | _ => none }
def SenderCreditWrongFalsely : Prop := senderCreditRow.holds Try.pinned (OpenSpec.ofChange senderCreditWrong)

/- THE SECOND FORM. 'bulk': how many values and letters a reading holds, each counted each time it is reached (what is shared counts as often as it is met; a slice's spare places count too). A statement '..UptoSaid' is the law's where the arguments, and the package variables that the reading takes, are together of bulk at most 1048576: NARROWER than '..Said'. Prove '..Said' where nothing that the law and all that it calls make is longer than what came in: it says more and counts as full. Else prove '..UptoSaid'. A law counts once. -/
mutual
def uptoBulk {H : Type} : DataW H → Nat
  | .lit (.string bytes) => bytes.length + 1
  | .lit _ => 1
  | .nil => 1
  | .ptr d => uptoBulk d + 1
  | .slice elems spare => uptoBulkAll elems + uptoBulkAll spare + 1
  | .agg parts => uptoBulkAll parts + 1
  | .iface _ d => uptoBulk d + 1
  | .map entries => uptoBulkEntries entries + 1
  | .held _ => 1
def uptoBulkAll {H : Type} : List (DataW H) → Nat
  | [] => 0
  | d :: r => uptoBulk d + uptoBulkAll r
def uptoBulkEntries {H : Type} : List (Lit × DataW H) → Nat
  | [] => 0
  | x :: r => uptoBulkEntry x + uptoBulkEntries r
def uptoBulkEntry {H : Type} : Lit × DataW H → Nat
  | (.string bytes, d) => bytes.length + uptoBulk d + 1
  | (_, d) => uptoBulk d + 1
 end
def uptoSmall : (H : Type) → List (DataW H) → Bool := fun _ ds => decide (uptoBulkAll ds ≤ 1048576)
def OpenSpec.upto (s : _root_.Go.ChangeSpec) : _root_.Go.OpenSpec := { _root_.Go.OpenSpec.ofChange s with cond := some uptoSmall }

/-- 'spillwaylaw.SenderChecks', WHERE WHAT IT READS IS OF BULK AT MOST 1048576: true; the input reads as it did. -/
def senderChecksUptoRow : OpenClaim := { program := "ytkpkgegonfcgnaa", sum := "2afbaeded35ec163a12c8be88ca876b4cf32456791ddcb538fe1655b3391b5cd", func := "spillway/spillwaylaw.SenderChecks", spec := "senderChecks", apart := false, narrowed := true }
def SenderChecksUptoSaid : Prop := senderChecksUptoRow.holds Try.pinned (OpenSpec.upto senderChecksSpec)

/-- 'spillwaylaw.SenderWrites', WHERE WHAT IT READS IS OF BULK AT MOST 1048576: true; the input reads as it did. -/
def senderWritesUptoRow : OpenClaim := { program := "ytkpkgegonfcgnaa", sum := "2afbaeded35ec163a12c8be88ca876b4cf32456791ddcb538fe1655b3391b5cd", func := "spillway/spillwaylaw.SenderWrites", spec := "senderWrites", apart := false, narrowed := true }
def SenderWritesUptoSaid : Prop := senderWritesUptoRow.holds Try.pinned (OpenSpec.upto senderWritesSpec)

/-- 'spillwaylaw.SenderPieces', WHERE WHAT IT READS IS OF BULK AT MOST 1048576: true; the input reads as it did. -/
def senderPiecesUptoRow : OpenClaim := { program := "ytkpkgegonfcgnaa", sum := "2afbaeded35ec163a12c8be88ca876b4cf32456791ddcb538fe1655b3391b5cd", func := "spillway/spillwaylaw.SenderPieces", spec := "senderPieces", apart := false, narrowed := true }
def SenderPiecesUptoSaid : Prop := senderPiecesUptoRow.holds Try.pinned (OpenSpec.upto senderPiecesSpec)

/-- 'spillwaylaw.SenderHears', WHERE WHAT IT READS IS OF BULK AT MOST 1048576: true; the input reads as it did. -/
def senderHearsUptoRow : OpenClaim := { program := "ytkpkgegonfcgnaa", sum := "2afbaeded35ec163a12c8be88ca876b4cf32456791ddcb538fe1655b3391b5cd", func := "spillway/spillwaylaw.SenderHears", spec := "senderHears", inPlace := ["internal/reflectlite.ValueOf", "internal/reflectlite.Swapper", "(internal/reflectlite.Value).Len"], unfollowed := true, recurses := true, apart := false, narrowed := true }
def SenderHearsUptoSaid : Prop := senderHearsUptoRow.holds Try.pinned (OpenSpec.upto senderHearsSpec)

/-- 'spillwaylaw.SenderLoses', WHERE WHAT IT READS IS OF BULK AT MOST 1048576: true; the input reads as it did. -/
def senderLosesUptoRow : OpenClaim := { program := "ytkpkgegonfcgnaa", sum := "2afbaeded35ec163a12c8be88ca876b4cf32456791ddcb538fe1655b3391b5cd", func := "spillway/spillwaylaw.SenderLoses", spec := "senderLoses", inPlace := ["internal/reflectlite.ValueOf", "internal/reflectlite.Swapper", "(internal/reflectlite.Value).Len"], unfollowed := true, recurses := true, apart := false, narrowed := true }
def SenderLosesUptoSaid : Prop := senderLosesUptoRow.holds Try.pinned (OpenSpec.upto senderLosesSpec)

/-- 'spillwaykeep.SenderEver', WHERE WHAT IT READS IS OF BULK AT MOST 1048576: true; the input reads as it did. -/
def senderEverUptoRow : OpenClaim := { program := "ytkpkgegonfcgnaa", sum := "2afbaeded35ec163a12c8be88ca876b4cf32456791ddcb538fe1655b3391b5cd", func := "spillway/spillwaykeep.SenderEver", spec := "senderEver", apart := false, narrowed := true }
def SenderEverUptoSaid : Prop := senderEverUptoRow.holds Try.pinned (OpenSpec.upto senderEverSpec)

/-- 'spillwaykeep.SenderGood', WHERE WHAT IT READS IS OF BULK AT MOST 1048576: true; the input reads as it did. -/
def senderGoodUptoRow : OpenClaim := { program := "ytkpkgegonfcgnaa", sum := "2afbaeded35ec163a12c8be88ca876b4cf32456791ddcb538fe1655b3391b5cd", func := "spillway/spillwaykeep.SenderGood", spec := "senderGood", apart := false, narrowed := true }
def SenderGoodUptoSaid : Prop := senderGoodUptoRow.holds Try.pinned (OpenSpec.upto senderGoodSpec)

/-- 'spillwaykeep.SenderCredit', WHERE WHAT IT READS IS OF BULK AT MOST 1048576: true; the input reads as it did. -/
def senderCreditUptoRow : OpenClaim := { program := "ytkpkgegonfcgnaa", sum := "2afbaeded35ec163a12c8be88ca876b4cf32456791ddcb538fe1655b3391b5cd", func := "spillway/spillwaykeep.SenderCredit", spec := "senderCredit", apart := false, narrowed := true }
def SenderCreditUptoSaid : Prop := senderCreditUptoRow.holds Try.pinned (OpenSpec.upto senderCreditSpec)

end Rows
end Go.Proofs.Ytkpkgegonfcgnaa
