/-
  DERIVED. GIVEN WITH THE SEED: THE CARDS: each row of YtanbjaohmhoohaaGreatDoorRows.lean that lists a variable, with what it lists TIED to the program's text (the seventh form; the later family's looks); each row that meets fmt, with fmt's text TOLD by the authors' own Lean function (tested against real Go, not proved from fmt's source: count such statements apart). THE CARD IS WHAT COUNTS. Prove the row's statement (the work); the ties are given (YtanbjaohmhoohaaGreatDoorTie.lean); close each card by the builder's one call (the guide's Derived/Test/ToyasCard.lean, 'card_holds'). Laid BY PROGRAM, IN A SANDBOX (cutbox-door.mjs). By AI agents, Wed Nov 11 2026. No macro, syntax, notation, axiom, sorry.
-/
import Derived.Test.YtanbjaohmhoohaaGreatDoorRows
import GoSem.ClaimSeven
namespace Go.Proofs.YtanbjaohmhoohaaGreatDoor
namespace Rows

/-- THE TIED CARD OF 'pigeonholelaw6.MdcheckChecks'. -/
def mdcheckChecksCard : Claim7 := { stood := { row := mdcheckChecksRow, standIns := [], harness := (true, "c98d64bc0076bcc78435c5917676da0e2a5fd80a28fab58dfa171c1ad1dcfa50"), looks := true }, kinds := [], alts := [], laidByText := true, laidKinds := [.data, .data, .data, .data, .handle, .sentinel, .sentinel, .pinned], laidTests := true, laidLooks := .later }
def MdcheckChecksCardSaid : Prop := Claim7.holds Tryz.pinned (.plain (OpenSpec.ofChange mdcheckChecksSpec)) mdcheckChecksCard

/-- THE TIED CARD OF 'pigeonholelaw6.MdcheckFits'. -/
def mdcheckFitsCard : Claim7 := { stood := { row := mdcheckFitsRow, standIns := [], harness := (true, "c98d64bc0076bcc78435c5917676da0e2a5fd80a28fab58dfa171c1ad1dcfa50"), looks := true }, kinds := [], alts := [], laidByText := true, laidKinds := [.data, .data, .data, .data, .handle, .sentinel, .sentinel, .pinned], laidTests := true, laidLooks := .later }
def MdcheckFitsCardSaid : Prop := Claim7.holds Tryz.pinned (.plain (OpenSpec.ofChange mdcheckFitsSpec)) mdcheckFitsCard

/-- THE TIED CARD OF 'pigeonholelaw6.MdcheckSmall'. -/
def mdcheckSmallCard : Claim7 := { stood := { row := mdcheckSmallRow, standIns := [], harness := (true, "c98d64bc0076bcc78435c5917676da0e2a5fd80a28fab58dfa171c1ad1dcfa50"), looks := true }, kinds := [], alts := [], laidByText := true, laidKinds := [.data, .data, .data, .data, .handle, .sentinel, .sentinel, .pinned], laidTests := true, laidLooks := .later }
def MdcheckSmallCardSaid : Prop := Claim7.holds Tryz.pinned (.plain (OpenSpec.ofChange mdcheckSmallSpec)) mdcheckSmallCard

/-- THE TIED CARD OF 'pigeonholelaw6.MdcheckAlias'. -/
def mdcheckAliasCard : Claim7 := { stood := { row := mdcheckAliasRow, standIns := [], harness := (true, "c98d64bc0076bcc78435c5917676da0e2a5fd80a28fab58dfa171c1ad1dcfa50"), looks := true }, kinds := [], alts := [], laidByText := true, laidKinds := [.data, .data, .data, .data, .handle, .sentinel, .sentinel, .pinned], laidTests := true, laidLooks := .later }
def MdcheckAliasCardSaid : Prop := Claim7.holds Tryz.pinned (.plain (OpenSpec.ofChange mdcheckAliasSpec)) mdcheckAliasCard

/-- THE TIED CARD OF 'pigeonholelaw6.MdcheckFirst'. -/
def mdcheckFirstCard : Claim7 := { stood := { row := mdcheckFirstRow, standIns := [], harness := (true, "c98d64bc0076bcc78435c5917676da0e2a5fd80a28fab58dfa171c1ad1dcfa50"), looks := true }, kinds := [], alts := [], laidByText := true, laidKinds := [.data, .data, .data, .data, .handle, .sentinel, .sentinel, .pinned], laidTests := true, laidLooks := .later }
def MdcheckFirstCardSaid : Prop := Claim7.holds Tryz.pinned (.plain (OpenSpec.ofChange mdcheckFirstSpec)) mdcheckFirstCard

/-- THE TIED CARD OF 'pigeonholelaw6.MdcheckRoom'. -/
def mdcheckRoomCard : Claim7 := { stood := { row := mdcheckRoomRow, standIns := [], harness := (true, "c98d64bc0076bcc78435c5917676da0e2a5fd80a28fab58dfa171c1ad1dcfa50"), looks := true }, kinds := [], alts := [], laidByText := true, laidKinds := [.data, .data, .data, .data, .handle, .sentinel, .sentinel, .pinned], laidTests := true, laidLooks := .later }
def MdcheckRoomCardSaid : Prop := Claim7.holds Tryz.pinned (.plain (OpenSpec.ofChange mdcheckRoomSpec)) mdcheckRoomCard

/-- THE SECOND FORM's CARD OF 'pigeonholelaw6.MdcheckChecks'. -/
def mdcheckChecksUptoCard : Claim7 := { stood := { row := mdcheckChecksUptoRow, standIns := [], harness := (true, "c98d64bc0076bcc78435c5917676da0e2a5fd80a28fab58dfa171c1ad1dcfa50"), looks := true }, kinds := [], alts := [], laidByText := true, laidKinds := [.data, .data, .data, .data, .handle, .sentinel, .sentinel, .pinned], laidTests := true, laidLooks := .later }
def MdcheckChecksUptoCardSaid : Prop := Claim7.holds Tryz.pinned (.plain (OpenSpec.upto mdcheckChecksSpec)) mdcheckChecksUptoCard

/-- THE SECOND FORM's CARD OF 'pigeonholelaw6.MdcheckFits'. -/
def mdcheckFitsUptoCard : Claim7 := { stood := { row := mdcheckFitsUptoRow, standIns := [], harness := (true, "c98d64bc0076bcc78435c5917676da0e2a5fd80a28fab58dfa171c1ad1dcfa50"), looks := true }, kinds := [], alts := [], laidByText := true, laidKinds := [.data, .data, .data, .data, .handle, .sentinel, .sentinel, .pinned], laidTests := true, laidLooks := .later }
def MdcheckFitsUptoCardSaid : Prop := Claim7.holds Tryz.pinned (.plain (OpenSpec.upto mdcheckFitsSpec)) mdcheckFitsUptoCard

/-- THE SECOND FORM's CARD OF 'pigeonholelaw6.MdcheckSmall'. -/
def mdcheckSmallUptoCard : Claim7 := { stood := { row := mdcheckSmallUptoRow, standIns := [], harness := (true, "c98d64bc0076bcc78435c5917676da0e2a5fd80a28fab58dfa171c1ad1dcfa50"), looks := true }, kinds := [], alts := [], laidByText := true, laidKinds := [.data, .data, .data, .data, .handle, .sentinel, .sentinel, .pinned], laidTests := true, laidLooks := .later }
def MdcheckSmallUptoCardSaid : Prop := Claim7.holds Tryz.pinned (.plain (OpenSpec.upto mdcheckSmallSpec)) mdcheckSmallUptoCard

/-- THE SECOND FORM's CARD OF 'pigeonholelaw6.MdcheckAlias'. -/
def mdcheckAliasUptoCard : Claim7 := { stood := { row := mdcheckAliasUptoRow, standIns := [], harness := (true, "c98d64bc0076bcc78435c5917676da0e2a5fd80a28fab58dfa171c1ad1dcfa50"), looks := true }, kinds := [], alts := [], laidByText := true, laidKinds := [.data, .data, .data, .data, .handle, .sentinel, .sentinel, .pinned], laidTests := true, laidLooks := .later }
def MdcheckAliasUptoCardSaid : Prop := Claim7.holds Tryz.pinned (.plain (OpenSpec.upto mdcheckAliasSpec)) mdcheckAliasUptoCard

/-- THE SECOND FORM's CARD OF 'pigeonholelaw6.MdcheckFirst'. -/
def mdcheckFirstUptoCard : Claim7 := { stood := { row := mdcheckFirstUptoRow, standIns := [], harness := (true, "c98d64bc0076bcc78435c5917676da0e2a5fd80a28fab58dfa171c1ad1dcfa50"), looks := true }, kinds := [], alts := [], laidByText := true, laidKinds := [.data, .data, .data, .data, .handle, .sentinel, .sentinel, .pinned], laidTests := true, laidLooks := .later }
def MdcheckFirstUptoCardSaid : Prop := Claim7.holds Tryz.pinned (.plain (OpenSpec.upto mdcheckFirstSpec)) mdcheckFirstUptoCard

/-- THE SECOND FORM's CARD OF 'pigeonholelaw6.MdcheckRoom'. -/
def mdcheckRoomUptoCard : Claim7 := { stood := { row := mdcheckRoomUptoRow, standIns := [], harness := (true, "c98d64bc0076bcc78435c5917676da0e2a5fd80a28fab58dfa171c1ad1dcfa50"), looks := true }, kinds := [], alts := [], laidByText := true, laidKinds := [.data, .data, .data, .data, .handle, .sentinel, .sentinel, .pinned], laidTests := true, laidLooks := .later }
def MdcheckRoomUptoCardSaid : Prop := Claim7.holds Tryz.pinned (.plain (OpenSpec.upto mdcheckRoomSpec)) mdcheckRoomUptoCard
end Rows
end Go.Proofs.YtanbjaohmhoohaaGreatDoor
