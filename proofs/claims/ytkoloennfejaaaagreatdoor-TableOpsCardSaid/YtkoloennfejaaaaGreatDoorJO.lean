/-
  The closed facts of TableOps' row over the whole program.
-/
import Derived.Test.YtkoloennfejaaaaGreatDoorChecked
import Derived.Test.YtkoloennfejaaaaGreatDoorRows
import Derived.SevenTiedAt
namespace Go.Proofs.YtkoloennfejaaaaGreatDoor
theorem tableOps_joined:joinedFacts Tryz.pinned.checked.prog 4 Tryz.f4 Rows.tableOpsSpec Rows.tableOpsRow=true:=by kernel_rfl
end Go.Proofs.YtkoloennfejaaaaGreatDoor
