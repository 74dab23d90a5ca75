/-
  Check of a machine whose registers are a plain machine's, whatever its classes, operations, convention.
-/
import Derived.Test.YtamhpmbjccjchaaGreatDoorSmOne
namespace Go.Proofs.YtamhpmbjccjchaaGreatDoor
open Go.RowKit
theorem qao(f:Nat)(hf:f∈ptFns):∀args w,(callFunc f args).run Tryz.prog w = .ok (.enter f args) w:=by
 simp only[ptFns,List.mem_cons,List.not_mem_nil,or_false] at hf
 rcases hf with rfl|rfl|rfl|rfl|rfl|rfl|rfl
 ·exact enters_of Tryz.func53 (by kernel_rfl) rfl
 ·exact enters_of Tryz.func54 (by kernel_rfl) rfl
 ·exact enters_of Tryz.func55 (by kernel_rfl) rfl
 ·exact enters_of Tryz.func56 (by kernel_rfl) rfl
 ·exact enters_of Tryz.func57 (by kernel_rfl) rfl
 ·exact enters_of Tryz.func58 (by kernel_rfl) rfl
 ·exact enters_of Tryz.func59 (by kernel_rfl) rfl
end Go.Proofs.YtamhpmbjccjchaaGreatDoor
