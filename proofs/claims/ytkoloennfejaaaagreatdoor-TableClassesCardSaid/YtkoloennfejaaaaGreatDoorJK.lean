/-
  The closed facts of TableClasses' row over the whole program.
-/
import Derived.Test.YtkoloennfejaaaaGreatDoorChecked
import Derived.Test.YtkoloennfejaaaaGreatDoorRows
import Derived.SevenTiedAt
namespace Go.Proofs.YtkoloennfejaaaaGreatDoor
theorem tableClasses_joined:joinedFacts Tryz.pinned.checked.prog 3 Tryz.f3 Rows.tableClassesSpec Rows.tableClassesRow=true:=by kernel_rfl
end Go.Proofs.YtkoloennfejaaaaGreatDoor
