/-
  DERIVED. GIVEN WITH THE SEED: THE CARDS: each row of YtfhllbnpkcgfdaaGreatDoorRows.lean that lists a variable, with what it lists TIED to the program's text (the seventh form; the later family's looks); each row that meets fmt, with fmt's text TOLD by the authors' own Lean function (tested against real Go, not proved from fmt's source: count such statements apart). THE CARD IS WHAT COUNTS. Prove the row's statement (the work); the ties are given (YtfhllbnpkcgfdaaGreatDoorTie.lean); close each card by the builder's one call (the guide's Derived/Test/ToyasCard.lean, 'card_holds'). Laid BY PROGRAM, IN A SANDBOX (cutbox-door.mjs). By AI agents, Wed Nov 11 2026. No macro, syntax, notation, axiom, sorry.
-/
import Derived.Test.YtfhllbnpkcgfdaaGreatDoorRows
import GoSem.ClaimSeven
namespace Go.Proofs.YtfhllbnpkcgfdaaGreatDoor
namespace Rows

/-- THE TIED CARD OF 'pigeonholelaw6.MdcheckChecks'. -/
def mdcheckChecksCard : Claim7 := { stood := { row := mdcheckChecksRow, standIns := [], harness := (true, "f4ff00a791fd3bdede0457fc29f9ea8def60acc8f4b4d16e12438f37ba79ad2d"), looks := true }, kinds := [], alts := [], laidByText := true, laidKinds := [.data, .data, .data, .data, .handle, .sentinel, .sentinel, .pinned], laidTests := true, laidLooks := .later }
def MdcheckChecksCardSaid : Prop := Claim7.holds Tryz.pinned (.plain (OpenSpec.ofChange mdcheckChecksSpec)) mdcheckChecksCard

/-- THE TIED CARD OF 'pigeonholelaw6.MdcheckFits'. -/
def mdcheckFitsCard : Claim7 := { stood := { row := mdcheckFitsRow, standIns := [], harness := (true, "f4ff00a791fd3bdede0457fc29f9ea8def60acc8f4b4d16e12438f37ba79ad2d"), looks := true }, kinds := [], alts := [], laidByText := true, laidKinds := [.data, .data, .data, .data, .handle, .sentinel, .sentinel, .pinned], laidTests := true, laidLooks := .later }
def MdcheckFitsCardSaid : Prop := Claim7.holds Tryz.pinned (.plain (OpenSpec.ofChange mdcheckFitsSpec)) mdcheckFitsCard

/-- THE SECOND FORM's CARD OF 'pigeonholelaw6.MdcheckChecks'. -/
def mdcheckChecksUptoCard : Claim7 := { stood := { row := mdcheckChecksUptoRow, standIns := [], harness := (true, "f4ff00a791fd3bdede0457fc29f9ea8def60acc8f4b4d16e12438f37ba79ad2d"), looks := true }, kinds := [], alts := [], laidByText := true, laidKinds := [.data, .data, .data, .data, .handle, .sentinel, .sentinel, .pinned], laidTests := true, laidLooks := .later }
def MdcheckChecksUptoCardSaid : Prop := Claim7.holds Tryz.pinned (.plain (OpenSpec.upto mdcheckChecksSpec)) mdcheckChecksUptoCard

/-- THE SECOND FORM's CARD OF 'pigeonholelaw6.MdcheckFits'. -/
def mdcheckFitsUptoCard : Claim7 := { stood := { row := mdcheckFitsUptoRow, standIns := [], harness := (true, "f4ff00a791fd3bdede0457fc29f9ea8def60acc8f4b4d16e12438f37ba79ad2d"), looks := true }, kinds := [], alts := [], laidByText := true, laidKinds := [.data, .data, .data, .data, .handle, .sentinel, .sentinel, .pinned], laidTests := true, laidLooks := .later }
def MdcheckFitsUptoCardSaid : Prop := Claim7.holds Tryz.pinned (.plain (OpenSpec.upto mdcheckFitsSpec)) mdcheckFitsUptoCard
end Rows
end Go.Proofs.YtfhllbnpkcgfdaaGreatDoor
