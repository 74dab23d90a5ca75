
import Derived.Test.YtomlgdnafeeeiaaGreatDoorChecked
import Derived.Test.YtomlgdnafeeeiaaGreatDoorRows
import Derived.SevenTiedAt
/-
 The closed facts of TableKeeps' row over the whole program.
-/
namespace Go.Proofs.YtomlgdnafeeeiaaGreatDoor
theorem tableKeeps_joined:joinedFacts Tryz.pinned.checked.prog 3 Tryz.f3 Rows.tableKeepsSpec Rows.tableKeepsRow=true:=by kernel_rfl
end Go.Proofs.YtomlgdnafeeeiaaGreatDoor
