/-
  DERIVED. GIVEN WITH THE SEED: THE CARDS: each row of YtgnnipnnnebpiaaGreatDoorRows.lean that lists a variable, with what it lists TIED to the program's text (the seventh form; the later family's looks); each row that meets fmt, with fmt's text TOLD by the authors' own Lean function (tested against real Go, not proved from fmt's source: count such statements apart). THE CARD IS WHAT COUNTS. Prove the row's statement (the work); the ties are given (YtgnnipnnnebpiaaGreatDoorTie.lean); close each card by the builder's one call (the guide's Derived/Test/ToyasCard.lean, 'card_holds'). Laid BY PROGRAM, IN A SANDBOX (cutbox-door.mjs). By AI agents, Wed Nov 11 2026. No macro, syntax, notation, axiom, sorry.
-/
import Derived.Test.YtgnnipnnnebpiaaGreatDoorRows
import GoSem.ClaimSeven
namespace Go.Proofs.YtgnnipnnnebpiaaGreatDoor
namespace Rows

/-- THE TIED CARD OF 'pigeonholelaw5.GeomOuter'. -/
def geomOuterCard : Claim7 := { stood := { row := geomOuterRow, standIns := [], harness := (true, "08add739a46ba02ae7c083cf32e7dc4700dd1bdf94eb3495d906af0465b504dd"), looks := true }, kinds := [], alts := [], laidByText := true, laidKinds := [.data, .data, .data, .data, .handle, .sentinel, .sentinel, .pinned], laidTests := true, laidLooks := .later }
def GeomOuterCardSaid : Prop := Claim7.holds Tryz.pinned (.plain (OpenSpec.ofChange geomOuterSpec)) geomOuterCard

/-- THE TIED CARD OF 'pigeonholelaw5.GeomRow'. -/
def geomRowCard : Claim7 := { stood := { row := geomRowRow, standIns := [], harness := (true, "08add739a46ba02ae7c083cf32e7dc4700dd1bdf94eb3495d906af0465b504dd"), looks := true }, kinds := [], alts := [], laidByText := true, laidKinds := [.data, .data, .data, .data, .handle, .sentinel, .sentinel, .pinned], laidTests := true, laidLooks := .later }
def GeomRowCardSaid : Prop := Claim7.holds Tryz.pinned (.plain (OpenSpec.ofChange geomRowSpec)) geomRowCard

/-- THE TIED CARD OF 'pigeonholelaw5.GeomChain'. -/
def geomChainCard : Claim7 := { stood := { row := geomChainRow, standIns := [], harness := (true, "08add739a46ba02ae7c083cf32e7dc4700dd1bdf94eb3495d906af0465b504dd"), looks := true }, kinds := [], alts := [], laidByText := true, laidKinds := [.data, .data, .data, .data, .handle, .sentinel, .sentinel, .pinned], laidTests := true, laidLooks := .later }
def GeomChainCardSaid : Prop := Claim7.holds Tryz.pinned (.plain (OpenSpec.ofChange geomChainSpec)) geomChainCard

/-- THE SECOND FORM's CARD OF 'pigeonholelaw5.GeomOuter'. -/
def geomOuterUptoCard : Claim7 := { stood := { row := geomOuterUptoRow, standIns := [], harness := (true, "08add739a46ba02ae7c083cf32e7dc4700dd1bdf94eb3495d906af0465b504dd"), looks := true }, kinds := [], alts := [], laidByText := true, laidKinds := [.data, .data, .data, .data, .handle, .sentinel, .sentinel, .pinned], laidTests := true, laidLooks := .later }
def GeomOuterUptoCardSaid : Prop := Claim7.holds Tryz.pinned (.plain (OpenSpec.upto geomOuterSpec)) geomOuterUptoCard

/-- THE SECOND FORM's CARD OF 'pigeonholelaw5.GeomRow'. -/
def geomRowUptoCard : Claim7 := { stood := { row := geomRowUptoRow, standIns := [], harness := (true, "08add739a46ba02ae7c083cf32e7dc4700dd1bdf94eb3495d906af0465b504dd"), looks := true }, kinds := [], alts := [], laidByText := true, laidKinds := [.data, .data, .data, .data, .handle, .sentinel, .sentinel, .pinned], laidTests := true, laidLooks := .later }
def GeomRowUptoCardSaid : Prop := Claim7.holds Tryz.pinned (.plain (OpenSpec.upto geomRowSpec)) geomRowUptoCard

/-- THE SECOND FORM's CARD OF 'pigeonholelaw5.GeomChain'. -/
def geomChainUptoCard : Claim7 := { stood := { row := geomChainUptoRow, standIns := [], harness := (true, "08add739a46ba02ae7c083cf32e7dc4700dd1bdf94eb3495d906af0465b504dd"), looks := true }, kinds := [], alts := [], laidByText := true, laidKinds := [.data, .data, .data, .data, .handle, .sentinel, .sentinel, .pinned], laidTests := true, laidLooks := .later }
def GeomChainUptoCardSaid : Prop := Claim7.holds Tryz.pinned (.plain (OpenSpec.upto geomChainSpec)) geomChainUptoCard
end Rows
end Go.Proofs.YtgnnipnnnebpiaaGreatDoor
