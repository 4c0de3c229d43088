/-
  DERIVED. GIVEN WITH THE SEED: THE CARDS: each row of YtjeocggocloigabDoorRows.lean that lists a variable, with what it lists TIED to the program's text (the seventh form; the later family's looks); each row that meets fmt, with fmt's text TOLD by the authors' own Lean function (tested against real Go, not proved from fmt's source: count such statements apart). THE CARD IS WHAT COUNTS. Prove the row's statement (the work); the ties are given (YtjeocggocloigabDoorTie.lean); close each card by the builder's one call (the guide's Derived/Test/ToyasCard.lean, 'card_holds'). Laid BY PROGRAM, IN A SANDBOX (cutbox-door.mjs). By AI agents, Wed Nov 11 2026. No macro, syntax, notation, axiom, sorry.
-/
import Derived.Test.YtjeocggocloigabDoorRows
import GoSem.ClaimSeven
namespace Go.Proofs.YtjeocggocloigabDoor
namespace Rows

/-- THE TIED CARD OF 'spillwaykeep.FrameList'. -/
def frameListCard : Claim7 := { stood := { row := frameListRow, standIns := [], harness := (true, "51c279c40e358a57a48e817c9216460bd2b89171b475ad31556b204e1d748b7d"), looks := false }, kinds := [], alts := [], laidByText := true, laidKinds := [.data, .data], laidTests := true, laidLooks := .later }
def FrameListCardSaid : Prop := Claim7.holds Tryd.pinned (.plain (OpenSpec.ofChange frameListSpec)) frameListCard

/-- THE TIED CARD OF 'spillwaykeep.FrameApart'. -/
def frameApartCard : Claim7 := { stood := { row := frameApartRow, standIns := [], harness := (true, "51c279c40e358a57a48e817c9216460bd2b89171b475ad31556b204e1d748b7d"), looks := false }, kinds := [], alts := [], laidByText := true, laidKinds := [.data, .data], laidTests := true, laidLooks := .later }
def FrameApartCardSaid : Prop := Claim7.holds Tryd.pinned (.plain (OpenSpec.ofChange frameApartSpec)) frameApartCard

/-- THE SECOND FORM's CARD OF 'spillwaykeep.FrameList'. -/
def frameListUptoCard : Claim7 := { stood := { row := frameListUptoRow, standIns := [], harness := (true, "51c279c40e358a57a48e817c9216460bd2b89171b475ad31556b204e1d748b7d"), looks := false }, kinds := [], alts := [], laidByText := true, laidKinds := [.data, .data], laidTests := true, laidLooks := .later }
def FrameListUptoCardSaid : Prop := Claim7.holds Tryd.pinned (.plain (OpenSpec.upto frameListSpec)) frameListUptoCard

/-- THE SECOND FORM's CARD OF 'spillwaykeep.FrameApart'. -/
def frameApartUptoCard : Claim7 := { stood := { row := frameApartUptoRow, standIns := [], harness := (true, "51c279c40e358a57a48e817c9216460bd2b89171b475ad31556b204e1d748b7d"), looks := false }, kinds := [], alts := [], laidByText := true, laidKinds := [.data, .data], laidTests := true, laidLooks := .later }
def FrameApartUptoCardSaid : Prop := Claim7.holds Tryd.pinned (.plain (OpenSpec.upto frameApartSpec)) frameApartUptoCard
end Rows
end Go.Proofs.YtjeocggocloigabDoor
