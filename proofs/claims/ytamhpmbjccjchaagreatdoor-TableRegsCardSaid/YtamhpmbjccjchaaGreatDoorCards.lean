/-
  DERIVED. GIVEN WITH THE SEED: THE CARDS: each row of YtamhpmbjccjchaaGreatDoorRows.lean that lists a variable, with what it lists TIED to the program's text (the seventh form; the later family's looks); each row that meets fmt, with fmt's text TOLD by the authors' own Lean function (tested against real Go, not proved from fmt's source: count such statements apart). THE CARD IS WHAT COUNTS. Prove the row's statement (the work); the ties are given (YtamhpmbjccjchaaGreatDoorTie.lean); close each card by the builder's one call (the guide's Derived/Test/ToyasCard.lean, 'card_holds'). Laid BY PROGRAM, IN A SANDBOX (cutbox-door.mjs). By AI agents, Wed Nov 11 2026. No macro, syntax, notation, axiom, sorry.
-/
import Derived.Test.YtamhpmbjccjchaaGreatDoorRows
import GoSem.ClaimSeven
namespace Go.Proofs.YtamhpmbjccjchaaGreatDoor
namespace Rows

/-- THE TIED CARD OF 'pigeonholelaw7.TableRegs'. -/
def tableRegsCard : Claim7 := { stood := { row := tableRegsRow, standIns := [], harness := (true, "d7beb142e9148bb56981e0582caa11754910c7033c85e6ad557c27a86b2e1d0e"), looks := true }, kinds := [], alts := [], laidByText := true, laidKinds := [.data, .data, .data, .data, .handle, .sentinel, .sentinel, .pinned], laidTests := true, laidLooks := .later }
def TableRegsCardSaid : Prop := Claim7.holds Tryz.pinned (.plain (OpenSpec.ofChange tableRegsSpec)) tableRegsCard

/-- THE TIED CARD OF 'pigeonholelaw7.TableLap'. -/
def tableLapCard : Claim7 := { stood := { row := tableLapRow, standIns := [], harness := (true, "d7beb142e9148bb56981e0582caa11754910c7033c85e6ad557c27a86b2e1d0e"), looks := true }, kinds := [], alts := [], laidByText := true, laidKinds := [.data, .data, .data, .data, .handle, .sentinel, .sentinel, .pinned], laidTests := true, laidLooks := .later }
def TableLapCardSaid : Prop := Claim7.holds Tryz.pinned (.plain (OpenSpec.ofChange tableLapSpec)) tableLapCard

/-- THE SECOND FORM's CARD OF 'pigeonholelaw7.TableRegs'. -/
def tableRegsUptoCard : Claim7 := { stood := { row := tableRegsUptoRow, standIns := [], harness := (true, "d7beb142e9148bb56981e0582caa11754910c7033c85e6ad557c27a86b2e1d0e"), looks := true }, kinds := [], alts := [], laidByText := true, laidKinds := [.data, .data, .data, .data, .handle, .sentinel, .sentinel, .pinned], laidTests := true, laidLooks := .later }
def TableRegsUptoCardSaid : Prop := Claim7.holds Tryz.pinned (.plain (OpenSpec.upto tableRegsSpec)) tableRegsUptoCard

/-- THE SECOND FORM's CARD OF 'pigeonholelaw7.TableLap'. -/
def tableLapUptoCard : Claim7 := { stood := { row := tableLapUptoRow, standIns := [], harness := (true, "d7beb142e9148bb56981e0582caa11754910c7033c85e6ad557c27a86b2e1d0e"), looks := true }, kinds := [], alts := [], laidByText := true, laidKinds := [.data, .data, .data, .data, .handle, .sentinel, .sentinel, .pinned], laidTests := true, laidLooks := .later }
def TableLapUptoCardSaid : Prop := Claim7.holds Tryz.pinned (.plain (OpenSpec.upto tableLapSpec)) tableLapUptoCard
end Rows
end Go.Proofs.YtamhpmbjccjchaaGreatDoor
