/-
  No cell of these rows narrows 'for every input' (looked for: loops, veiled, ifaces, maps, wideKeys, modest, calm, conditions, laid).
  DERIVED. THE GIVEN ROWS OF THIS SEAT. 3 by the template 'for every input the law returns true; each argument reads behind the call as it read before'; 0 by the template 'total and deterministic' (their statements: YtbkpegjpmbbcgaaTotals.lean).
  GIVEN WITH THE SEED: the statements are not yours to turn. If you find one false, say at which input.
  Laid BY PROGRAM, IN A SANDBOX (cutbox-rows.mjs): the forced cells as the released guide's own fill.sh prints them over the translation d9ebf9d6bd3ac07c… (all of the seat's roots in one cut). By AI agents, Wed Nov 11 2026. No macro, syntax, notation, axiom, sorry.
-/
import Derived.Test.YtbkpegjpmbbcgaaChecked
import GoSem.Claim
import GoSem.ClaimJoined
import GoSem.ClaimMapViews
import Derived.JoinedTies
import Derived.KernelRfl
namespace Go.Proofs.Ytbkpegjpmbbcgaa
/- THE CELL 'sum', in the pinned program and in every row, IS THE sha256 OF THE DUMP (.gsa) THAT YtbkpegjpmbbcgaaProg.lean LOADS. Nothing in Lean hashes anything: it is a label: what it is worth is what the hold of that sum in a sandbox is worth. -/
noncomputable def Try.pinned : Pinned := { name := "ytbkpegjpmbbcgaa", sum := "d9ebf9d6bd3ac07c00a5c1249aedfa7471029411164f1eab0ab34830a23c3c24", checked := Try.checked }
namespace Rows
def none {H : Type} : Left H := { results := [], args := [] }

/-- 'spillwaykeep.SenderEver': WHATEVER THE INPUT: true; the input reads as it did. -/
def senderEverSpec : ChangeSpec := { name := "senderEver", fn := fun _ => fun
  | [d1, d2, d3] => { results := [.lit (.bool true)], args := [d1, d2, d3] }
  | _ => none }
def senderEverRow : OpenClaim := { program := "ytbkpegjpmbbcgaa", sum := "d9ebf9d6bd3ac07c00a5c1249aedfa7471029411164f1eab0ab34830a23c3c24", func := "spillway/spillwaykeep.SenderEver", spec := "senderEver", apart := false }
def SenderEverSaid : Prop := senderEverRow.holds Try.pinned (OpenSpec.ofChange senderEverSpec)

/-- ITS FALSE NEIGHBOUR: 'it returns false'. Refute it at one input. -/
def senderEverWrong : ChangeSpec := { name := "senderEver", fn := fun _ => fun
  | [d1, d2, d3] => { results := [.lit (.bool false)], args := [d1, d2, d3] }
  | _ => none }
def SenderEverWrongFalsely : Prop := senderEverRow.holds Try.pinned (OpenSpec.ofChange senderEverWrong)

/-- 'spillwaykeep.SenderGood': WHATEVER THE INPUT: true; the input reads as it did. -/
def senderGoodSpec : ChangeSpec := { name := "senderGood", fn := fun _ => fun
  | [d] => { results := [.lit (.bool true)], args := [d] }
  | _ => none }
def senderGoodRow : OpenClaim := { program := "ytbkpegjpmbbcgaa", sum := "d9ebf9d6bd3ac07c00a5c1249aedfa7471029411164f1eab0ab34830a23c3c24", func := "spillway/spillwaykeep.SenderGood", spec := "senderGood", apart := false }
def SenderGoodSaid : Prop := senderGoodRow.holds Try.pinned (OpenSpec.ofChange senderGoodSpec)

/-- ITS FALSE NEIGHBOUR: 'it returns false'. Refute it at one input. -/
def senderGoodWrong : ChangeSpec := { name := "senderGood", fn := fun _ => fun
  | [d] => { results := [.lit (.bool false)], args := [d] }
  | _ => none }
def SenderGoodWrongFalsely : Prop := senderGoodRow.holds Try.pinned (OpenSpec.ofChange senderGoodWrong)

/-- 'spillwaykeep.SenderCredit': WHATEVER THE INPUT: true; the input reads as it did. -/
def senderCreditSpec : ChangeSpec := { name := "senderCredit", fn := fun _ => fun
  | [d1, d2, d3, d4] => { results := [.lit (.bool true)], args := [d1, d2, d3, d4] }
  | _ => none }
def senderCreditRow : OpenClaim := { program := "ytbkpegjpmbbcgaa", sum := "d9ebf9d6bd3ac07c00a5c1249aedfa7471029411164f1eab0ab34830a23c3c24", func := "spillway/spillwaykeep.SenderCredit", spec := "senderCredit", apart := false }
def SenderCreditSaid : Prop := senderCreditRow.holds Try.pinned (OpenSpec.ofChange senderCreditSpec)

/-- ITS FALSE NEIGHBOUR: 'it returns false'. Refute it at one input. -/
def senderCreditWrong : ChangeSpec := { name := "senderCredit", fn := fun _ => fun
  | [d1, d2, d3, d4] => { results := [.lit (.bool false)], args := [d1, d2, d3, d4] }
  | _ => none }
def SenderCreditWrongFalsely : Prop := senderCreditRow.holds Try.pinned (OpenSpec.ofChange senderCreditWrong)

/- THE SECOND FORM. 'bulk': how many values and letters a reading holds, each counted each time it is reached (what is shared counts as often as it is met; a slice's spare places count too). A statement '..UptoSaid' is the law's where the arguments, and the package variables that the reading takes, are together of bulk at most 1048576: NARROWER than '..Said'. Prove '..Said' where nothing that the law and all that it calls make is longer than what came in: it says more and counts as full. Else prove '..UptoSaid'. A law counts once. -/
mutual
def uptoBulk {H : Type} : DataW H → Nat
  | .lit (.string bytes) => bytes.length + 1
  | .lit _ => 1
  | .nil => 1
  | .ptr d => uptoBulk d + 1
  | .slice elems spare => uptoBulkAll elems + uptoBulkAll spare + 1
  | .agg parts => uptoBulkAll parts + 1
  | .iface _ d => uptoBulk d + 1
  | .map entries => uptoBulkEntries entries + 1
  | .held _ => 1
def uptoBulkAll {H : Type} : List (DataW H) → Nat
  | [] => 0
  | d :: r => uptoBulk d + uptoBulkAll r
def uptoBulkEntries {H : Type} : List (Lit × DataW H) → Nat
  | [] => 0
  | x :: r => uptoBulkEntry x + uptoBulkEntries r
def uptoBulkEntry {H : Type} : Lit × DataW H → Nat
  | (.string bytes, d) => bytes.length + uptoBulk d + 1
  | (_, d) => uptoBulk d + 1
 end
def uptoSmall : (H : Type) → List (DataW H) → Bool := fun _ ds => decide (uptoBulkAll ds ≤ 1048576)
def OpenSpec.upto (s : _root_.Go.ChangeSpec) : _root_.Go.OpenSpec := { _root_.Go.OpenSpec.ofChange s with cond := some uptoSmall }

/-- 'spillwaykeep.SenderEver', WHERE WHAT IT READS IS OF BULK AT MOST 1048576: true; the input reads as it did. -/
def senderEverUptoRow : OpenClaim := { program := "ytbkpegjpmbbcgaa", sum := "d9ebf9d6bd3ac07c00a5c1249aedfa7471029411164f1eab0ab34830a23c3c24", func := "spillway/spillwaykeep.SenderEver", spec := "senderEver", apart := false, narrowed := true }
def SenderEverUptoSaid : Prop := senderEverUptoRow.holds Try.pinned (OpenSpec.upto senderEverSpec)

/-- 'spillwaykeep.SenderGood', WHERE WHAT IT READS IS OF BULK AT MOST 1048576: true; the input reads as it did. -/
def senderGoodUptoRow : OpenClaim := { program := "ytbkpegjpmbbcgaa", sum := "d9ebf9d6bd3ac07c00a5c1249aedfa7471029411164f1eab0ab34830a23c3c24", func := "spillway/spillwaykeep.SenderGood", spec := "senderGood", apart := false, narrowed := true }
def SenderGoodUptoSaid : Prop := senderGoodUptoRow.holds Try.pinned (OpenSpec.upto senderGoodSpec)

/-- 'spillwaykeep.SenderCredit', WHERE WHAT IT READS IS OF BULK AT MOST 1048576: true; the input reads as it did. -/
def senderCreditUptoRow : OpenClaim := { program := "ytbkpegjpmbbcgaa", sum := "d9ebf9d6bd3ac07c00a5c1249aedfa7471029411164f1eab0ab34830a23c3c24", func := "spillway/spillwaykeep.SenderCredit", spec := "senderCredit", apart := false, narrowed := true }
def SenderCreditUptoSaid : Prop := senderCreditUptoRow.holds Try.pinned (OpenSpec.upto senderCreditSpec)

end Rows
end Go.Proofs.Ytbkpegjpmbbcgaa
