/-
  DERIVED. GIVEN WITH THE SEED: THE CARDS: each row of YtpickcmpnncgcaaDoorRows.lean that lists a variable, with what it lists TIED to the program's text (the seventh form; the later family's looks); each row that meets fmt, with fmt's text TOLD by the authors' own Lean function (tested against real Go, not proved from fmt's source: count such statements apart). THE CARD IS WHAT COUNTS. Prove the row's statement (the work); the ties are given (YtpickcmpnncgcaaDoorTie.lean); close each card by the builder's one call (the guide's Derived/Test/ToyasCard.lean, 'card_holds'). Laid BY PROGRAM, IN A SANDBOX (cutbox-door.mjs). By AI agents, Wed Nov 11 2026. No macro, syntax, notation, axiom, sorry.
-/
import Derived.Test.YtpickcmpnncgcaaDoorRows
import GoSem.ClaimSeven
namespace Go.Proofs.YtpickcmpnncgcaaDoor
namespace Rows

/-- THE TIED CARD OF 'spillwaylaw.VarSizes'. -/
def varSizesCard : Claim7 := { stood := { row := varSizesRow, standIns := [], harness := (true, "8bac903649d43c3a03d1526e7fddb76c3b9678e3cae654a4513298c567bab660"), looks := false }, kinds := [], alts := [], laidByText := true, laidKinds := [.data, .data], laidTests := true, laidLooks := .later }
def VarSizesCardSaid : Prop := Claim7.holds Tryd.pinned (.plain (OpenSpec.ofChange varSizesSpec)) varSizesCard

/-- THE TIED CARD OF 'spillwaykeep.VarBack'. -/
def varBackCard : Claim7 := { stood := { row := varBackRow, standIns := [], harness := (true, "8bac903649d43c3a03d1526e7fddb76c3b9678e3cae654a4513298c567bab660"), looks := false }, kinds := [], alts := [], laidByText := true, laidKinds := [.data, .data], laidTests := true, laidLooks := .later }
def VarBackCardSaid : Prop := Claim7.holds Tryd.pinned (.plain (OpenSpec.ofChange varBackSpec)) varBackCard

/-- THE TIED CARD OF 'spillwaykeep.VarOrder'. -/
def varOrderCard : Claim7 := { stood := { row := varOrderRow, standIns := [], harness := (true, "8bac903649d43c3a03d1526e7fddb76c3b9678e3cae654a4513298c567bab660"), looks := false }, kinds := [], alts := [], laidByText := true, laidKinds := [.data, .data], laidTests := true, laidLooks := .later }
def VarOrderCardSaid : Prop := Claim7.holds Tryd.pinned (.plain (OpenSpec.ofChange varOrderSpec)) varOrderCard

/-- THE SECOND FORM's CARD OF 'spillwaylaw.VarSizes'. -/
def varSizesUptoCard : Claim7 := { stood := { row := varSizesUptoRow, standIns := [], harness := (true, "8bac903649d43c3a03d1526e7fddb76c3b9678e3cae654a4513298c567bab660"), looks := false }, kinds := [], alts := [], laidByText := true, laidKinds := [.data, .data], laidTests := true, laidLooks := .later }
def VarSizesUptoCardSaid : Prop := Claim7.holds Tryd.pinned (.plain (OpenSpec.upto varSizesSpec)) varSizesUptoCard

/-- THE SECOND FORM's CARD OF 'spillwaykeep.VarBack'. -/
def varBackUptoCard : Claim7 := { stood := { row := varBackUptoRow, standIns := [], harness := (true, "8bac903649d43c3a03d1526e7fddb76c3b9678e3cae654a4513298c567bab660"), looks := false }, kinds := [], alts := [], laidByText := true, laidKinds := [.data, .data], laidTests := true, laidLooks := .later }
def VarBackUptoCardSaid : Prop := Claim7.holds Tryd.pinned (.plain (OpenSpec.upto varBackSpec)) varBackUptoCard

/-- THE SECOND FORM's CARD OF 'spillwaykeep.VarOrder'. -/
def varOrderUptoCard : Claim7 := { stood := { row := varOrderUptoRow, standIns := [], harness := (true, "8bac903649d43c3a03d1526e7fddb76c3b9678e3cae654a4513298c567bab660"), looks := false }, kinds := [], alts := [], laidByText := true, laidKinds := [.data, .data], laidTests := true, laidLooks := .later }
def VarOrderUptoCardSaid : Prop := Claim7.holds Tryd.pinned (.plain (OpenSpec.upto varOrderSpec)) varOrderUptoCard
end Rows
end Go.Proofs.YtpickcmpnncgcaaDoor
