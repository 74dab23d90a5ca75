/-
  The closed facts of TableConv' row over the whole program.
-/
import Derived.Test.YtkoloennfejaaaaGreatDoorChecked
import Derived.Test.YtkoloennfejaaaaGreatDoorRows
import Derived.SevenTiedAt
namespace Go.Proofs.YtkoloennfejaaaaGreatDoor
theorem tableConv_joined:joinedFacts Tryz.pinned.checked.prog 5 Tryz.f5 Rows.tableConvSpec Rows.tableConvRow=true:=by kernel_rfl
end Go.Proofs.YtkoloennfejaaaaGreatDoor
