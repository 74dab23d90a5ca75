/-
  DERIVED. GIVEN WITH THE SEED: THE CARDS: each row of YtkoloennfejaaaaGreatDoorRows.lean that lists a variable, with what it lists TIED to the program's text (the seventh form; the later family's looks); each row that meets fmt, with fmt's text TOLD by the authors' own Lean function (tested against real Go, not proved from fmt's source: count such statements apart). THE CARD IS WHAT COUNTS. Prove the row's statement (the work); the ties are given (YtkoloennfejaaaaGreatDoorTie.lean); close each card by the builder's one call (the guide's Derived/Test/ToyasCard.lean, 'card_holds'). Laid BY PROGRAM, IN A SANDBOX (cutbox-door.mjs). By AI agents, Wed Nov 11 2026. No macro, syntax, notation, axiom, sorry.
-/
import Derived.Test.YtkoloennfejaaaaGreatDoorRows
import GoSem.ClaimSeven
namespace Go.Proofs.YtkoloennfejaaaaGreatDoor
namespace Rows

/-- THE TIED CARD OF 'pigeonholelaw7.TableClasses'. -/
def tableClassesCard : Claim7 := { stood := { row := tableClassesRow, standIns := [], harness := (true, "28297f003a06de18a4529d37b57c7640bcf52e2a6082eda71b2ea64d4ae466d8"), looks := true }, kinds := [], alts := [], laidByText := true, laidKinds := [.data, .data, .data, .data, .handle, .sentinel, .sentinel, .pinned], laidTests := true, laidLooks := .later }
def TableClassesCardSaid : Prop := Claim7.holds Tryz.pinned (.plain (OpenSpec.ofChange tableClassesSpec)) tableClassesCard

/-- THE TIED CARD OF 'pigeonholelaw7.TableOps'. -/
def tableOpsCard : Claim7 := { stood := { row := tableOpsRow, standIns := [], harness := (true, "28297f003a06de18a4529d37b57c7640bcf52e2a6082eda71b2ea64d4ae466d8"), looks := true }, kinds := [], alts := [], laidByText := true, laidKinds := [.data, .data, .data, .data, .handle, .sentinel, .sentinel, .pinned], laidTests := true, laidLooks := .later }
def TableOpsCardSaid : Prop := Claim7.holds Tryz.pinned (.plain (OpenSpec.ofChange tableOpsSpec)) tableOpsCard

/-- THE TIED CARD OF 'pigeonholelaw7.TableConv'. -/
def tableConvCard : Claim7 := { stood := { row := tableConvRow, standIns := [], harness := (true, "28297f003a06de18a4529d37b57c7640bcf52e2a6082eda71b2ea64d4ae466d8"), looks := true }, kinds := [], alts := [], laidByText := true, laidKinds := [.data, .data, .data, .data, .handle, .sentinel, .sentinel, .pinned], laidTests := true, laidLooks := .later }
def TableConvCardSaid : Prop := Claim7.holds Tryz.pinned (.plain (OpenSpec.ofChange tableConvSpec)) tableConvCard

/-- THE TIED CARD OF 'pigeonholelaw7.TableKeeps'. -/
def tableKeepsCard : Claim7 := { stood := { row := tableKeepsRow, standIns := [], harness := (true, "28297f003a06de18a4529d37b57c7640bcf52e2a6082eda71b2ea64d4ae466d8"), looks := true }, kinds := [], alts := [], laidByText := true, laidKinds := [.data, .data, .data, .data, .handle, .sentinel, .sentinel, .pinned], laidTests := true, laidLooks := .later }
def TableKeepsCardSaid : Prop := Claim7.holds Tryz.pinned (.plain (OpenSpec.ofChange tableKeepsSpec)) tableKeepsCard

/-- THE SECOND FORM's CARD OF 'pigeonholelaw7.TableClasses'. -/
def tableClassesUptoCard : Claim7 := { stood := { row := tableClassesUptoRow, standIns := [], harness := (true, "28297f003a06de18a4529d37b57c7640bcf52e2a6082eda71b2ea64d4ae466d8"), looks := true }, kinds := [], alts := [], laidByText := true, laidKinds := [.data, .data, .data, .data, .handle, .sentinel, .sentinel, .pinned], laidTests := true, laidLooks := .later }
def TableClassesUptoCardSaid : Prop := Claim7.holds Tryz.pinned (.plain (OpenSpec.upto tableClassesSpec)) tableClassesUptoCard

/-- THE SECOND FORM's CARD OF 'pigeonholelaw7.TableOps'. -/
def tableOpsUptoCard : Claim7 := { stood := { row := tableOpsUptoRow, standIns := [], harness := (true, "28297f003a06de18a4529d37b57c7640bcf52e2a6082eda71b2ea64d4ae466d8"), looks := true }, kinds := [], alts := [], laidByText := true, laidKinds := [.data, .data, .data, .data, .handle, .sentinel, .sentinel, .pinned], laidTests := true, laidLooks := .later }
def TableOpsUptoCardSaid : Prop := Claim7.holds Tryz.pinned (.plain (OpenSpec.upto tableOpsSpec)) tableOpsUptoCard

/-- THE SECOND FORM's CARD OF 'pigeonholelaw7.TableConv'. -/
def tableConvUptoCard : Claim7 := { stood := { row := tableConvUptoRow, standIns := [], harness := (true, "28297f003a06de18a4529d37b57c7640bcf52e2a6082eda71b2ea64d4ae466d8"), looks := true }, kinds := [], alts := [], laidByText := true, laidKinds := [.data, .data, .data, .data, .handle, .sentinel, .sentinel, .pinned], laidTests := true, laidLooks := .later }
def TableConvUptoCardSaid : Prop := Claim7.holds Tryz.pinned (.plain (OpenSpec.upto tableConvSpec)) tableConvUptoCard

/-- THE SECOND FORM's CARD OF 'pigeonholelaw7.TableKeeps'. -/
def tableKeepsUptoCard : Claim7 := { stood := { row := tableKeepsUptoRow, standIns := [], harness := (true, "28297f003a06de18a4529d37b57c7640bcf52e2a6082eda71b2ea64d4ae466d8"), looks := true }, kinds := [], alts := [], laidByText := true, laidKinds := [.data, .data, .data, .data, .handle, .sentinel, .sentinel, .pinned], laidTests := true, laidLooks := .later }
def TableKeepsUptoCardSaid : Prop := Claim7.holds Tryz.pinned (.plain (OpenSpec.upto tableKeepsSpec)) tableKeepsUptoCard
end Rows
end Go.Proofs.YtkoloennfejaaaaGreatDoor
