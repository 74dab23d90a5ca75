/-
  What the rows' list gives a walk: errors' own variable of the type 'error'.
-/
import Derived.Test.YtfhllbnpkcgfdaaGreatDoorHandC
import Derived.Test.YtfhllbnpkcgfdaaGreatDoorPan
import Derived.LaidSub
namespace Go.Proofs.YtfhllbnpkcgfdaaGreatDoor
open Go.ChangeShapes Go.WideShapes Go.ChangeAt Go.RowKit
theorem errorType_at : Tryz.prog.globalNamed "errors.errorType" = some 0 := by kernel_rfl
theorem rtype_at : (Tryz.prog.cutTypes.find? (·.1 == "internal/reflectlite.rtype")).map (·.2) = some 171 := by kernel_rfl
theorem error_alone : ((List.range Tryz.prog.types.size).filter fun t => Tryz.prog.rowNamed t [101, 114, 114, 111, 114]) = [113] := by kernel_rfl
/-- What the row's list gives a walk: errors' own variable of the type 'error'. -/
theorem envA_of_laid {W : World} (h : laidMetH Tryz.prog listed W) : EnvA W := by
  have h' := (laidMetH_iff).1 h
  obtain ⟨name, u, ty, e1, e2, e3, e4, e5⟩ := h'.2 ("errors.errorType", Rows.laid_errors_errorType) (List.mem_filter.2 ⟨by simp [listed, Rows.mdcheckChecksRow], rfl⟩)
  have en : name = [101, 114, 114, 111, 114] := (Option.some.inj e1).symm
  subst en
  obtain rfl := Option.some.inj (rtype_at.symm.trans e2)
  have hm : ty ∈ (List.range Tryz.prog.types.size).filter fun t => Tryz.prog.rowNamed t [101, 114, 114, 111, 114] := List.mem_filter.2 ⟨List.mem_range.2 e3, e4⟩
  rw [error_alone] at hm
  obtain rfl := List.mem_singleton.1 hm
  have hh : typeHandle Tryz.prog 113 = .pointer (some ⟨9, 113, none⟩) := by kernel_rfl
  rw [hh] at e5
  simpa [EnvA] using World.var?_cell errorType_at e5 0
end Go.Proofs.YtfhllbnpkcgfdaaGreatDoor
