/-
  GeomRow: the registers side by side are made.
-/
import Derived.Test.YtgnnipnnnebpiaaGreatDoorGeoI
import Derived.IntWalk
import Derived.Deep.RegionLaw
import Derived.Deep.AppendLies
namespace Go.Proofs.YtgnnipnnnebpiaaGreatDoor
open Go.RowKit Go.Shelf

theorem Tryz.infoReg : (Tryz.prog.info? 26).map (fun i => (i.zero, i.size, i.bytes)) = some (some (.agg #[.string ⟨#[]⟩, .int .i64 0, .int .i64 0, .slice none 0 0]), 4, 56) := by kernel_rfl

def hexs : ByteArray := ⟨#[48, 49, 50, 51, 52, 53, 54, 55, 56, 57, 97, 98, 99, 100, 101, 102]⟩
def rowName (k : Nat) : ByteArray := ⟨#[112]⟩ ++ hexs.extract k (k + 1)
def rowCell (width : Int) (k : Nat) : List Value := [.string (rowName k), .int .i64 width, .int .i64 (k * width), .slice none 0 0]
def rowCells (width : Int) (k : Nat) : List Value := (List.range k).flatMap (rowCell width)
theorem rowCells_succ (width : Int) (k : Nat) : rowCells width (k + 1) = rowCells width k ++ rowCell width k := by simp [rowCells, List.range_succ]

/-- 'x.f = append(x.f, ..)' where what the slice stands over lies behind base, and x's block ahead of it. -/
theorem append_step_lt {W W6 : World} {T j : Nat} {t e : TypeId} {cs : Array Value} {size base k m : Nat} {v v' : Value} {xs ys : List Value} {tmp : Obj}
    (hT : Cells W T t cs) (hlt : T < base) (hrow : W.ownsRow base e size v k xs) (hown : W6.ownsRow base e size v' m ys) (hgrow : (W.alloc tmp).drew.grownBy W6 v.ownBlock) :
    Cells (W6.setCell ⟨T, j, none⟩ v') T t (cs.setIfInBounds j v') ∧ (W6.setCell ⟨T, j, none⟩ v').ownsRow base e size v' m ys ∧ Below T W (W6.setCell ⟨T, j, none⟩ v') := by
  have hg : W.grownBy W6 v.ownBlock := ⟨hgrow.os, hgrow.tape, hgrow.output, Nat.le_trans (by simp) hgrow.size, fun i hi hne => (hgrow.block i (by simp; omega) hne).trans (Below.heap_alloc W tmp i hi)⟩
  have hv : ∀ g, v.ownBlock = some g → base ≤ g := fun g h => (ownsRow_block hrow h).1
  have hT6 : Cells W6 T t cs := hT.kept hg (fun e1 => by have := hv T e1.symm; omega)
  refine ⟨hT6.set v', hown.kept (grownBy_set W6 T j v') ?_, ((Below.refl T W).grown hg (Nat.le_of_lt hT.lt) (fun i e1 => by have := hv i e1; omega)).setCell (p := ⟨T, j, none⟩) (Nat.le_refl _) v'⟩
  cases h : v'.ownBlock with
  | none => exact .inl rfl
  | some g => exact .inr (fun e1 => by have := (ownsRow_block hown h).1; cases e1; omega)

/-- At the head of the loop that makes the registers: k of them are made. -/
def RowMade (W1 : World) (width : Int) (k : Nat) (wr : World) : Prop :=
  ∃ v, Cells wr W1.heap.size 26 #[.string ⟨#[119, 105, 100, 101]⟩, .int .i64 64, .int .i64 0, v] ∧ wr.ownsRow (W1.heap.size + 1) 26 4 v k (rowCells width k) ∧ Below W1.heap.size W1 wr

end Go.Proofs.YtgnnipnnnebpiaaGreatDoor
