/-
  vir's put, same.
-/
import Derived.Test.YtfnfijgknjnccaaGreatDoorVwH
namespace Go.Proofs.YtfnfijgknjnccaaGreatDoor
open Go.RowKit Go.Sort
/-- The number at a place of an instruction. -/
def InsV.num (x : InsV) (i : Nat) : Int := if i = 1 then x.d else if i = 2 then x.a else if i = 3 then x.b else if i = 7 then x.t else if i = 8 then x.f else x.n
theorem place_is {s : ByteArray} {i : Nat} (h : placeI s = some i) : i = 1 ∨ i = 2 ∨ i = 3 ∨ i = 7 ∨ i = 8 ∨ i = 4 := by
  unfold placeI at h
  split at h
  · injection h with h; omega
  split at h
  · injection h with h; omega
  split at h
  · injection h with h; omega
  split at h
  · injection h with h; omega
  split at h
  · injection h with h; omega
  split at h
  · injection h with h; omega
  · cases h
theorem num_cell (x : InsV) {s : ByteArray} {i : Nat} (h : placeI s = some i) : x.cells[i]? = some (.int .i64 (x.num i)) := by
  rcases place_is h with rfl | rfl | rfl | rfl | rfl | rfl <;> rfl
/-- The word of an instruction where a part stands. -/
def putX (x : InsV) (part : ByteArray) : ByteArray :=
  match placeI part with
  | some i => wordN (x.num i)
  | none => if part.toList == [78, 65, 77, 69] || part.toList == [79, 80] then x.nm else part
/-- The numbers are those of Go's int. -/
structure InsIn (x : InsV) : Prop where
  d : In64 x.d
  a : In64 x.a
  b : In64 x.b
  n : In64 x.n
  t : In64 x.t
  f : In64 x.f
theorem InsIn.num {x : InsV} (h : InsIn x) (i : Nat) : In64 (x.num i) := by
  unfold InsV.num
  split; exact h.d
  split; exact h.a
  split; exact h.b
  split; exact h.t
  split; exact h.f
  exact h.n
set_option maxHeartbeats 4000000
set_option maxRecDepth 100000
theorem put_any (x : InsV) (part : ByteArray) (w : World) (hE : EnvV w) (hx : InsIn x) :
    Calls Tryz.prog 68 #[.agg x.cells, .string part] w fun e w' => e = .returned (.string (putX x part)) ∧ Below w.heap.size w w' := by
  have hb0 : Below w.heap.size w (w.alloc (.cells x.cells 25)) := (Below.refl _ _).alloc (Nat.le_refl _) _
  have K := place_any part w.heap.size (w.alloc (.cells x.cells 25))
  have hC := Cells.new w 25 x.cells
  unfold putX
  cases hp : placeI part with
  | some i =>
    rw [hp] at K
    have hc := hC.cell (num_cell x hp)
    have K2 := numeral_any (x.num i) (hx.num i) _ (hE.below hb0)
    dsimp only
    generalize x.num i = m at *
    generalize wordN m = q at *
    clear hE hx hp hC
    unfold InsV.cells at *
    simp only [Option.map_some] at K
    go_enter Tryz.func68, Tryz.ntmps68
    go_wp2_with (first | (go_at_call 90; refine K.mono ?_; clear K; rintro e W1 ⟨rfl, rfl⟩) | (go_at_call 39; refine K2.mono ?_; clear K2; rintro e W2 ⟨rfl, hb2⟩))
    go_ret
    exact ⟨rfl, hb0.trans (hb2.mono hb0.size)⟩
  | none =>
    rw [hp] at K
    simp only [Option.map_none] at K
    have hc := hC.cell (j := 5) (v := .string x.nm) rfl
    clear hE hx hp hC
    unfold InsV.cells at *
    dsimp only
    cases h1 : part.toList == [78, 65, 77, 69]
    · cases h2 : part.toList == [79, 80]
      all_goals
        go_enter Tryz.func68, Tryz.ntmps68
        go_wp2_with (go_at_call 90; refine K.mono ?_; clear K; rintro e W1 ⟨rfl, rfl⟩)
        go_ret
        exact ⟨rfl, hb0⟩
    · go_enter Tryz.func68, Tryz.ntmps68
      go_wp2_with (go_at_call 90; refine K.mono ?_; clear K; rintro e W1 ⟨rfl, rfl⟩)
      go_ret
      exact ⟨rfl, hb0⟩
end Go.Proofs.YtfnfijgknjnccaaGreatDoor
