/-
  Check of a machine whose registers are a plain machine's, whatever its classes, operations, convention.
-/
import Derived.Test.YtkoloennfejaaaaGreatDoorSmOne
namespace Go.Proofs.YtkoloennfejaaaaGreatDoor
open Go.RowKit
theorem qax(f:Nat)(hf:f∈ptFns):∀args w,(callFunc f args).run Tryz.prog w = .ok (.enter f args) w:=by
 simp only[ptFns,List.mem_cons,List.not_mem_nil,or_false] at hf
 rcases hf with rfl|rfl|rfl|rfl|rfl|rfl|rfl
 ·exact enters_of Tryz.func97 (by kernel_rfl) rfl
 ·exact enters_of Tryz.func98 (by kernel_rfl) rfl
 ·exact enters_of Tryz.func99 (by kernel_rfl) rfl
 ·exact enters_of Tryz.func100 (by kernel_rfl) rfl
 ·exact enters_of Tryz.func101 (by kernel_rfl) rfl
 ·exact enters_of Tryz.func102 (by kernel_rfl) rfl
 ·exact enters_of Tryz.func103 (by kernel_rfl) rfl
end Go.Proofs.YtkoloennfejaaaaGreatDoor
