/-
  DERIVED. GIVEN WITH THE SEED: THE CARDS: each row of YtpfahdogedchpaaDoorRows.lean that lists a variable, with what it lists TIED to the program's text (the seventh form; the later family's looks); each row that meets fmt, with fmt's text TOLD by the authors' own Lean function (tested against real Go, not proved from fmt's source: count such statements apart). THE CARD IS WHAT COUNTS. Prove the row's statement (the work); the ties are given (YtpfahdogedchpaaDoorTie.lean); close each card by the builder's one call (the guide's Derived/Test/ToyasCard.lean, 'card_holds'). Laid BY PROGRAM, IN A SANDBOX (cutbox-door.mjs). By AI agents, Wed Nov 11 2026. No macro, syntax, notation, axiom, sorry.
-/
import Derived.Test.YtpfahdogedchpaaDoorRows
import GoSem.ClaimSeven
namespace Go.Proofs.YtpfahdogedchpaaDoor
namespace Rows

/-- THE TIED CARD OF 'spillwaylaw.RequestWrites'. -/
def requestWritesCard : Claim7 := { stood := { row := requestWritesRow, standIns := [], harness := (true, "86172cc8609afa86547e7298adc91ddf38cb6716136523b28615c3e5535e92cd"), looks := false }, kinds := [], alts := [], laidByText := true, laidKinds := [.data, .data], laidTests := true, laidLooks := .later }
def RequestWritesCardSaid : Prop := Claim7.holds Tryd.pinned (.plain (OpenSpec.ofChange requestWritesSpec)) requestWritesCard

/-- THE TIED CARD OF 'spillwaykeep.RequestBack'. -/
def requestBackCard : Claim7 := { stood := { row := requestBackRow, standIns := [], harness := (true, "86172cc8609afa86547e7298adc91ddf38cb6716136523b28615c3e5535e92cd"), looks := false }, kinds := [], alts := [], laidByText := true, laidKinds := [.data, .data], laidTests := true, laidLooks := .later }
def RequestBackCardSaid : Prop := Claim7.holds Tryd.pinned (.plain (OpenSpec.ofChange requestBackSpec)) requestBackCard

/-- THE TIED CARD OF 'spillwaykeep.RequestWaits'. -/
def requestWaitsCard : Claim7 := { stood := { row := requestWaitsRow, standIns := [], harness := (true, "86172cc8609afa86547e7298adc91ddf38cb6716136523b28615c3e5535e92cd"), looks := false }, kinds := [], alts := [], laidByText := true, laidKinds := [.data, .data], laidTests := true, laidLooks := .later }
def RequestWaitsCardSaid : Prop := Claim7.holds Tryd.pinned (.plain (OpenSpec.ofChange requestWaitsSpec)) requestWaitsCard

/-- THE TIED CARD OF 'spillwaykeep.RequestForm'. -/
def requestFormCard : Claim7 := { stood := { row := requestFormRow, standIns := [], harness := (true, "86172cc8609afa86547e7298adc91ddf38cb6716136523b28615c3e5535e92cd"), looks := false }, kinds := [], alts := [], laidByText := true, laidKinds := [.data, .data], laidTests := true, laidLooks := .later }
def RequestFormCardSaid : Prop := Claim7.holds Tryd.pinned (.plain (OpenSpec.ofChange requestFormSpec)) requestFormCard

/-- THE SECOND FORM's CARD OF 'spillwaylaw.RequestWrites'. -/
def requestWritesUptoCard : Claim7 := { stood := { row := requestWritesUptoRow, standIns := [], harness := (true, "86172cc8609afa86547e7298adc91ddf38cb6716136523b28615c3e5535e92cd"), looks := false }, kinds := [], alts := [], laidByText := true, laidKinds := [.data, .data], laidTests := true, laidLooks := .later }
def RequestWritesUptoCardSaid : Prop := Claim7.holds Tryd.pinned (.plain (OpenSpec.upto requestWritesSpec)) requestWritesUptoCard

/-- THE SECOND FORM's CARD OF 'spillwaykeep.RequestBack'. -/
def requestBackUptoCard : Claim7 := { stood := { row := requestBackUptoRow, standIns := [], harness := (true, "86172cc8609afa86547e7298adc91ddf38cb6716136523b28615c3e5535e92cd"), looks := false }, kinds := [], alts := [], laidByText := true, laidKinds := [.data, .data], laidTests := true, laidLooks := .later }
def RequestBackUptoCardSaid : Prop := Claim7.holds Tryd.pinned (.plain (OpenSpec.upto requestBackSpec)) requestBackUptoCard

/-- THE SECOND FORM's CARD OF 'spillwaykeep.RequestWaits'. -/
def requestWaitsUptoCard : Claim7 := { stood := { row := requestWaitsUptoRow, standIns := [], harness := (true, "86172cc8609afa86547e7298adc91ddf38cb6716136523b28615c3e5535e92cd"), looks := false }, kinds := [], alts := [], laidByText := true, laidKinds := [.data, .data], laidTests := true, laidLooks := .later }
def RequestWaitsUptoCardSaid : Prop := Claim7.holds Tryd.pinned (.plain (OpenSpec.upto requestWaitsSpec)) requestWaitsUptoCard

/-- THE SECOND FORM's CARD OF 'spillwaykeep.RequestForm'. -/
def requestFormUptoCard : Claim7 := { stood := { row := requestFormUptoRow, standIns := [], harness := (true, "86172cc8609afa86547e7298adc91ddf38cb6716136523b28615c3e5535e92cd"), looks := false }, kinds := [], alts := [], laidByText := true, laidKinds := [.data, .data], laidTests := true, laidLooks := .later }
def RequestFormUptoCardSaid : Prop := Claim7.holds Tryd.pinned (.plain (OpenSpec.upto requestFormSpec)) requestFormUptoCard
end Rows
end Go.Proofs.YtpfahdogedchpaaDoor
