
import Derived.Test.YtomlgdnafeeeiaaGreatDoorSmOne
/-
 Check of a machine whose registers are a plain machine's,whatever its classes,operations,convention.
-/
namespace Go.Proofs.YtomlgdnafeeeiaaGreatDoor
open Proofs.Tryz
open Go.RowKit
theorem qdW(f:Nat)(hf:f∈yq):∀args w,(callFunc f args).run prog w = .ok (.enter f args) w:=by
 simp only[yq,List.mem_cons,List.not_mem_nil,or_false] at hf
 rcases hf with rfl|rfl|rfl|rfl|rfl|rfl|rfl
 ·exact enters_of func59 (by kernel_rfl) rfl
 ·exact enters_of func60 (by kernel_rfl) rfl
 ·exact enters_of func61 (by kernel_rfl) rfl
 ·exact enters_of func62 (by kernel_rfl) rfl
 ·exact enters_of func63 (by kernel_rfl) rfl
 ·exact enters_of func64 (by kernel_rfl) rfl
 ·exact enters_of func65 (by kernel_rfl) rfl
end Go.Proofs.YtomlgdnafeeeiaaGreatDoor
