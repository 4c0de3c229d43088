/-
  DERIVED. GIVEN WITH THE SEED: THE CARDS: each row of YtaccedlpnngdhaaDoorRows.lean that lists a variable, with what it lists TIED to the program's text (the seventh form; the later family's looks); each row that meets fmt, with fmt's text TOLD by the authors' own Lean function (tested against real Go, not proved from fmt's source: count such statements apart). THE CARD IS WHAT COUNTS. Prove the row's statement (the work); the ties are given (YtaccedlpnngdhaaDoorTie.lean); close each card by the builder's one call (the guide's Derived/Test/ToyasCard.lean, 'card_holds'). Laid BY PROGRAM, IN A SANDBOX (cutbox-door.mjs). By AI agents, Wed Nov 11 2026. No macro, syntax, notation, axiom, sorry.
-/
import Derived.Test.YtaccedlpnngdhaaDoorRows
import GoSem.ClaimSeven
namespace Go.Proofs.YtaccedlpnngdhaaDoor
namespace Rows

/-- THE TIED CARD OF 'spillwaylaw.HeadEncodes'. -/
def headEncodesCard : Claim7 := { stood := { row := headEncodesRow, standIns := [], harness := (true, "c9bff01848fd92d224d12ded0d50ec57b6c9812b153cf5744f42d951f7a536fc"), looks := false }, kinds := [], alts := [], laidByText := true, laidKinds := [.data, .data], laidTests := true, laidLooks := .later }
def HeadEncodesCardSaid : Prop := Claim7.holds Tryd.pinned (.plain (OpenSpec.ofChange headEncodesSpec)) headEncodesCard

/-- THE TIED CARD OF 'spillwaykeep.HeadBack'. -/
def headBackCard : Claim7 := { stood := { row := headBackRow, standIns := [], harness := (true, "c9bff01848fd92d224d12ded0d50ec57b6c9812b153cf5744f42d951f7a536fc"), looks := false }, kinds := [], alts := [], laidByText := true, laidKinds := [.data, .data], laidTests := true, laidLooks := .later }
def HeadBackCardSaid : Prop := Claim7.holds Tryd.pinned (.plain (OpenSpec.ofChange headBackSpec)) headBackCard

/-- THE TIED CARD OF 'spillwaykeep.HeadAny'. -/
def headAnyCard : Claim7 := { stood := { row := headAnyRow, standIns := [], harness := (true, "c9bff01848fd92d224d12ded0d50ec57b6c9812b153cf5744f42d951f7a536fc"), looks := false }, kinds := [], alts := [], laidByText := true, laidKinds := [.data, .data], laidTests := true, laidLooks := .later }
def HeadAnyCardSaid : Prop := Claim7.holds Tryd.pinned (.plain (OpenSpec.ofChange headAnySpec)) headAnyCard

/-- THE SECOND FORM's CARD OF 'spillwaylaw.HeadEncodes'. -/
def headEncodesUptoCard : Claim7 := { stood := { row := headEncodesUptoRow, standIns := [], harness := (true, "c9bff01848fd92d224d12ded0d50ec57b6c9812b153cf5744f42d951f7a536fc"), looks := false }, kinds := [], alts := [], laidByText := true, laidKinds := [.data, .data], laidTests := true, laidLooks := .later }
def HeadEncodesUptoCardSaid : Prop := Claim7.holds Tryd.pinned (.plain (OpenSpec.upto headEncodesSpec)) headEncodesUptoCard

/-- THE SECOND FORM's CARD OF 'spillwaykeep.HeadBack'. -/
def headBackUptoCard : Claim7 := { stood := { row := headBackUptoRow, standIns := [], harness := (true, "c9bff01848fd92d224d12ded0d50ec57b6c9812b153cf5744f42d951f7a536fc"), looks := false }, kinds := [], alts := [], laidByText := true, laidKinds := [.data, .data], laidTests := true, laidLooks := .later }
def HeadBackUptoCardSaid : Prop := Claim7.holds Tryd.pinned (.plain (OpenSpec.upto headBackSpec)) headBackUptoCard

/-- THE SECOND FORM's CARD OF 'spillwaykeep.HeadAny'. -/
def headAnyUptoCard : Claim7 := { stood := { row := headAnyUptoRow, standIns := [], harness := (true, "c9bff01848fd92d224d12ded0d50ec57b6c9812b153cf5744f42d951f7a536fc"), looks := false }, kinds := [], alts := [], laidByText := true, laidKinds := [.data, .data], laidTests := true, laidLooks := .later }
def HeadAnyUptoCardSaid : Prop := Claim7.holds Tryd.pinned (.plain (OpenSpec.upto headAnySpec)) headAnyUptoCard
end Rows
end Go.Proofs.YtaccedlpnngdhaaDoor
