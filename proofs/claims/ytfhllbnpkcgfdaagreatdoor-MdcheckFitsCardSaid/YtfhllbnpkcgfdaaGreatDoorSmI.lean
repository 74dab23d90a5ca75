/-
  Check of a machine whose registers are a plain machine's, whatever its classes, operations, convention.
-/
import Derived.Test.YtfhllbnpkcgfdaaGreatDoorSmOne
namespace Go.Proofs.YtfhllbnpkcgfdaaGreatDoor
open Go.RowKit
/-- Check of a machine whose name is none. -/
theorem ptEnters (f : Nat) (hf : f ∈ ptFns) : ∀ args w, (callFunc f args).run Tryz.prog w = .ok (.enter f args) w := by
  simp only [ptFns, List.mem_cons, List.not_mem_nil, or_false] at hf
  rcases hf with rfl | rfl | rfl | rfl | rfl | rfl | rfl
  · exact enters_of Tryz.func19 (by kernel_rfl) rfl
  · exact enters_of Tryz.func20 (by kernel_rfl) rfl
  · exact enters_of Tryz.func21 (by kernel_rfl) rfl
  · exact enters_of Tryz.func22 (by kernel_rfl) rfl
  · exact enters_of Tryz.func23 (by kernel_rfl) rfl
  · exact enters_of Tryz.func24 (by kernel_rfl) rfl
  · exact enters_of Tryz.func25 (by kernel_rfl) rfl
end Go.Proofs.YtfhllbnpkcgfdaaGreatDoor
