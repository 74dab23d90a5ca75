/-
  geom's 'laps': a register that laps with none ahead of it.
-/
import Derived.Test.YtgnnipnnnebpiaaGreatDoorGeoA
import Derived.LoopTactic
namespace Go.Proofs.YtgnnipnnnebpiaaGreatDoor
open Go.RowKit

set_option maxRecDepth 100000 in
set_option maxHeartbeats 3200000 in
theorem laps1_no (bs bp : Nat) (root aAt aW pAt pW wd at_ : Int) (nm : ByteArray) (sv : Value) (w : World) (c0 : w.cell? ⟨bs, 5, none⟩ = some (.int .i64 root)) (c1 : w.cell? ⟨bs, 6, none⟩ = some (.int .i64 aAt)) (c2 : w.cell? ⟨bs, 7, none⟩ = some (.int .i64 aW)) (c3 : w.cell? ⟨bp, 0, none⟩ = some (.int .i64 root)) (c4 : w.cell? ⟨bp, 1, none⟩ = some (.int .i64 pAt)) (c5 : w.cell? ⟨bp, 2, none⟩ = some (.int .i64 pW))
    (h1 : 0 ≤ aAt) (h2 : aAt ≤ 500) (h3 : 0 ≤ at_) (h4 : at_ ≤ 500) (h5 : 1 ≤ wd) (h6 : wd ≤ 1000) (h7 : 0 ≤ pAt) (h8 : pAt ≤ 1000) (h9 : 1 ≤ pW) (h10 : pW ≤ 1000) (hl : lapB (aAt + at_) wd pAt pW = false) :
    Calls Tryz.prog 35 #[.agg #[.string nm, .int .i64 wd, .int .i64 at_, sv], .pointer (some ⟨bs, 0, none⟩), .pointer (some ⟨bp, 0, none⟩)] w fun e w' => e = .returned (.bool false) ∧ Below w.heap.size w w' := by
  have C1 := fun W => in_any root aAt aW wd at_ nm sv W h1 (by omega) h3 (by omega)
  have C2 := fun W => Lap_any root (aAt + at_) wd pAt pW W (by omega) (by omega) h5 h6 h7 h8 h9 h10
  rw [hl] at C2
  have lbs := World.block_lt_of_cell? _ _ c0
  have lbp := World.block_lt_of_cell? _ _ c3
  dsimp only at lbs lbp
  have nbs := World.new_ne w _ c0
  have nbp := World.new_ne w _ c3
  clear hl
  go_enter Tryz.func35, Tryz.ntmps35
  go_wp2
  go_region_held3 (fun w' => w'.cell? ⟨bs, 5, none⟩ = some (.int .i64 root) ∧ w'.cell? ⟨bs, 6, none⟩ = some (.int .i64 aAt) ∧ w'.cell? ⟨bs, 7, none⟩ = some (.int .i64 aW) ∧ w'.cell? ⟨bp, 0, none⟩ = some (.int .i64 root) ∧ w'.cell? ⟨bp, 1, none⟩ = some (.int .i64 pAt) ∧ w'.cell? ⟨bp, 2, none⟩ = some (.int .i64 pW) ∧ w'.cell? ⟨w.heap.size, 0, none⟩ = some (.string nm) ∧ w'.cell? ⟨w.heap.size, 1, none⟩ = some (.int .i64 wd) ∧ w'.cell? ⟨w.heap.size, 2, none⟩ = some (.int .i64 at_) ∧ w'.cell? ⟨w.heap.size, 3, none⟩ = some (sv))
    (go_keep)
    ((first
      | (go_at_call 28; refine (C1 _).mono ?_; clear C1; rintro e W1 ⟨rfl, hb⟩; have k0 : W1.cell? ⟨bs, 5, none⟩ = some (.int .i64 root) := cell_below hb (by first | assumption | (simp [*]; done)); have k1 : W1.cell? ⟨bs, 6, none⟩ = some (.int .i64 aAt) := cell_below hb (by first | assumption | (simp [*]; done)); have k2 : W1.cell? ⟨bs, 7, none⟩ = some (.int .i64 aW) := cell_below hb (by first | assumption | (simp [*]; done)); have k3 : W1.cell? ⟨bp, 0, none⟩ = some (.int .i64 root) := cell_below hb (by first | assumption | (simp [*]; done)); have k4 : W1.cell? ⟨bp, 1, none⟩ = some (.int .i64 pAt) := cell_below hb (by first | assumption | (simp [*]; done)); have k5 : W1.cell? ⟨bp, 2, none⟩ = some (.int .i64 pW) := cell_below hb (by first | assumption | (simp [*]; done)); have k6 : W1.cell? ⟨w.heap.size, 0, none⟩ = some (.string nm) := cell_below hb (by first | assumption | (simp [*]; done)); have k7 : W1.cell? ⟨w.heap.size, 1, none⟩ = some (.int .i64 wd) := cell_below hb (by first | assumption | (simp [*]; done)); have k8 : W1.cell? ⟨w.heap.size, 2, none⟩ = some (.int .i64 at_) := cell_below hb (by first | assumption | (simp [*]; done)); have k9 : W1.cell? ⟨w.heap.size, 3, none⟩ = some (sv) := cell_below hb (by first | assumption | (simp [*]; done)))
      | (go_at_call 9; refine (C2 _).mono ?_; clear C2; rintro e W2 ⟨rfl, hb2⟩; have m0 : W2.cell? ⟨bs, 5, none⟩ = some (.int .i64 root) := cell_below hb2 (by first | assumption | (simp [*]; done)); have m1 : W2.cell? ⟨bs, 6, none⟩ = some (.int .i64 aAt) := cell_below hb2 (by first | assumption | (simp [*]; done)); have m2 : W2.cell? ⟨bs, 7, none⟩ = some (.int .i64 aW) := cell_below hb2 (by first | assumption | (simp [*]; done)); have m3 : W2.cell? ⟨bp, 0, none⟩ = some (.int .i64 root) := cell_below hb2 (by first | assumption | (simp [*]; done)); have m4 : W2.cell? ⟨bp, 1, none⟩ = some (.int .i64 pAt) := cell_below hb2 (by first | assumption | (simp [*]; done)); have m5 : W2.cell? ⟨bp, 2, none⟩ = some (.int .i64 pW) := cell_below hb2 (by first | assumption | (simp [*]; done)); have m6 : W2.cell? ⟨w.heap.size, 0, none⟩ = some (.string nm) := cell_below hb2 (by first | assumption | (simp [*]; done)); have m7 : W2.cell? ⟨w.heap.size, 1, none⟩ = some (.int .i64 wd) := cell_below hb2 (by first | assumption | (simp [*]; done)); have m8 : W2.cell? ⟨w.heap.size, 2, none⟩ = some (.int .i64 at_) := cell_below hb2 (by first | assumption | (simp [*]; done)); have m9 : W2.cell? ⟨w.heap.size, 3, none⟩ = some (sv) := cell_below hb2 (by first | assumption | (simp [*]; done)))))
  go_wp2
  go_ret
  exact ⟨rfl, ((((Below.refl _ _).alloc (Nat.le_refl _) _).drew).trans (hb.mono (by simp))).trans (hb2.mono (by have := hb.size; simp at this; omega))⟩
end Go.Proofs.YtgnnipnnnebpiaaGreatDoor
