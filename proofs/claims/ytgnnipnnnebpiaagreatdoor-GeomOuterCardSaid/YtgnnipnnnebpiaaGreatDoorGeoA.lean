/-
  geom's functions on places: in, bitsFrom, Lap, Within, fits: at places whose numbers are from 0 to 1000.
-/
import Derived.Test.YtgnnipnnnebpiaaGreatDoorLexC
import Derived.Test.YtgnnipnnnebpiaaGreatDoorKeep
import Derived.Deep.QuietTactic
import Derived.BigQuiet
import Derived.RegionTactic
import Derived.BigRegion
import Derived.Lib.Hide
import Derived.Deep.RegionHeld3
import Derived.StillTactics
import Derived.OwnWalk
import Derived.Laws.Pointers
namespace Go.Proofs.YtgnnipnnnebpiaaGreatDoor
open Go.RowKit

/-- How many bits a place has from a bit on. -/
def bitsB (at_ wd bit : Int) : Int := if at_ ≤ bit ∧ bit - at_ ≤ wd then wd - (bit - at_) else 0
theorem bitsB_pos {at_ wd bit : Int} : 0 < bitsB at_ wd bit ↔ at_ ≤ bit ∧ bit - at_ < wd := by
  unfold bitsB; split <;> omega
theorem bitsB_of {at_ wd bit : Int} (h1 : at_ ≤ bit) (h2 : bit - at_ ≤ wd) : bitsB at_ wd bit = wd - (bit - at_) := by
  unfold bitsB; rw [if_pos ⟨h1, h2⟩]
theorem ret_int' {k : IntKind} {a b : Int} (h : a = b) : Ending.returned (.int k a) = .returned (.int k b) := by rw [h]

set_option maxHeartbeats 400000 in
theorem in_any (root aAt aW wd at_ : Int) (nm : ByteArray) (sv : Value) (w : World) (h1 : 0 ≤ aAt) (h2 : aAt ≤ 1000) (h3 : 0 ≤ at_) (h4 : at_ ≤ 1000) :
    Calls Tryz.prog 28 #[.agg #[.int .i64 root, .int .i64 aAt, .int .i64 aW], .agg #[.string nm, .int .i64 wd, .int .i64 at_, sv]] w fun e w' =>
      e = .returned (.agg #[.int .i64 root, .int .i64 (aAt + at_), .int .i64 wd]) ∧ Below w.heap.size w w' := by
  go_enter Tryz.func28, Tryz.ntmps28
  go_wp2
  refine bodyPost_ret (v := .agg #[.int .i64 root, .int .i64 (aAt + at_), .int .i64 wd]) (by simp [results, Tryz.results28, go_sem]) rfl ⟨rfl, ?_⟩
  exact (((Below.refl _ _).alloc (Nat.le_refl _) _).alloc (by simp) _).alloc (by simp; omega) _

set_option maxHeartbeats 400000 in
theorem bitsFrom_any (root at_ wd bit : Int) (w : World) (h1 : 0 ≤ at_) (h2 : at_ ≤ 1000) (h3 : 0 ≤ wd) (h4 : wd ≤ 1000) (h5 : 0 ≤ bit) (h6 : bit ≤ 1000) :
    Calls Tryz.prog 16 #[.agg #[.int .i64 root, .int .i64 at_, .int .i64 wd], .int .i64 bit] w fun e w' =>
      e = .returned (.int .u64 (bitsB at_ wd bit)) ∧ Below w.heap.size w w' := by
  go_enter Tryz.func16, Tryz.ntmps16
  go_wp2
  go_quiet (fail)
  go_wp2
  all_goals
    go_ret
    exact ⟨ret_int' (by unfold bitsB; split <;> omega), below_drewN ((Below.refl _ _).alloc (Nat.le_refl _) _) _⟩

/-- Do two places of one outer register have a bit in common? -/
def lapB (a1 w1 a2 w2 : Int) : Bool := decide (a1 < a2 + w2) && decide (a2 < a1 + w1)

set_option maxHeartbeats 800000 in
theorem Lap_any (root a1 w1 a2 w2 : Int) (w : World) (h1 : 0 ≤ a1) (h2 : a1 ≤ 1000) (h3 : 1 ≤ w1) (h4 : w1 ≤ 1000) (h5 : 0 ≤ a2) (h6 : a2 ≤ 1000) (h7 : 1 ≤ w2) (h8 : w2 ≤ 1000) :
    Calls Tryz.prog 9 #[.agg #[.int .i64 root, .int .i64 a1, .int .i64 w1], .agg #[.int .i64 root, .int .i64 a2, .int .i64 w2]] w fun e w' =>
      e = .returned (.bool (lapB a1 w1 a2 w2)) ∧ Below w.heap.size w w' := by
  have C1 := fun W => bitsFrom_any root a1 w1 a2 W h1 h2 (by omega) h4 h5 h6
  have C2 := fun W => bitsFrom_any root a2 w2 a1 W h5 h6 (by omega) h8 h1 h2
  by_cases hp : 0 < bitsB a1 w1 a2
  · have hq := Lib.hid (bitsB_pos.1 hp)
    go_enter Tryz.func9, Tryz.ntmps9
    go_wp2_with (go_at_call 16; refine (C1 _).mono ?_; clear C1; rintro e W1 ⟨rfl, hb⟩; obtain ⟨hc, hf⟩ := bcell hb)
    go_ret
    refine ⟨ret_bool (by have := hq.out; unfold lapB; simp; omega), (((Below.refl _ _).alloc (Nat.le_refl _) _).alloc (by simp) _).trans (hb.mono (by simp; omega))⟩
  · have hq : Hid (¬ (a1 ≤ a2 ∧ a2 - a1 < w1)) := Lib.hid (fun h => hp (bitsB_pos.2 h))
    go_enter Tryz.func9, Tryz.ntmps9
    go_wp2_with (first
      | (go_at_call 16; refine (C1 _).mono ?_; clear C1; rintro e W1 ⟨rfl, hb⟩; obtain ⟨hc, hf⟩ := bcell hb)
      | (go_at_call 16; refine (C2 _).mono ?_; clear C2; rintro e W2 ⟨rfl, hb2⟩))
    go_ret
    refine ⟨ret_bool (by have := hq.out; have := @bitsB_pos a2 w2 a1; unfold lapB; rw [Bool.eq_iff_iff]; simp; omega), (((Below.refl _ _).alloc (Nat.le_refl _) _).alloc (by simp) _).trans ((hb.trans (hb2.mono hb.size)).mono (by simp; omega))⟩

set_option maxRecDepth 100000 in
set_option maxHeartbeats 1600000 in
theorem Within_yes (root a1 w1 a2 w2 : Int) (w : World) (h1 : 0 ≤ a1) (h2 : a1 ≤ 1000) (h3 : 1 ≤ w1) (h4 : w1 ≤ 1000) (h5 : 0 ≤ a2) (h6 : a2 ≤ 1000) (h7 : 1 ≤ w2) (h8 : w2 ≤ 1000) (hin1 : a2 ≤ a1) (hin2 : a1 + w1 ≤ a2 + w2) :
    Calls Tryz.prog 10 #[.agg #[.int .i64 root, .int .i64 a1, .int .i64 w1], .agg #[.int .i64 root, .int .i64 a2, .int .i64 w2]] w fun e w' =>
      e = .returned (.bool true) ∧ Below w.heap.size w w' := by
  have C2 := fun W => bitsFrom_any root a2 w2 a1 W h5 h6 (by omega) h8 h1 h2
  rw [bitsB_of hin1 (by omega)] at C2
  have hlt : decide (w1 < 1) = false := by simp; omega
  have hge : w1 ≤ w2 - (a1 - a2) := by omega
  have hw1 : IntKind.u64.wrap w1 = w1 := by rw [show w1 = ((w1.toNat : Nat) : Int) by omega]; simp [IntKind.wrap, IntKind.bits]; omega
  go_enter Tryz.func10, Tryz.ntmps10
  go_wp2
  go_region_held3 (fun w' => w'.cell? ⟨w.heap.size, 0, none⟩ = some (.int .i64 root) ∧ w'.cell? ⟨w.heap.size, 1, none⟩ = some (.int .i64 a1) ∧ w'.cell? ⟨w.heap.size, 2, none⟩ = some (.int .i64 w1) ∧
      w'.cell? ⟨w.heap.size + 1, 0, none⟩ = some (.int .i64 root) ∧ w'.cell? ⟨w.heap.size + 1, 1, none⟩ = some (.int .i64 a2) ∧ w'.cell? ⟨w.heap.size + 1, 2, none⟩ = some (.int .i64 w2))
    (go_keep)
    ((go_at_call 16; refine (C2 _).mono ?_; rintro e W1 ⟨rfl, hb⟩; have hcc := (bcell hb).1; have k0 : W1.cell? ⟨w.heap.size, 0, none⟩ = some (.int .i64 root) := (hcc _ _ (by simp; try omega)).trans (by first | assumption | (simp; done)); have k1 : W1.cell? ⟨w.heap.size, 1, none⟩ = some (.int .i64 a1) := (hcc _ _ (by simp; try omega)).trans (by first | assumption | (simp; done)); have k2 : W1.cell? ⟨w.heap.size, 2, none⟩ = some (.int .i64 w1) := (hcc _ _ (by simp; try omega)).trans (by first | assumption | (simp; done)); have k3 : W1.cell? ⟨w.heap.size + 1, 0, none⟩ = some (.int .i64 root) := (hcc _ _ (by simp; try omega)).trans (by first | assumption | (simp; done)); have k4 : W1.cell? ⟨w.heap.size + 1, 1, none⟩ = some (.int .i64 a2) := (hcc _ _ (by simp; try omega)).trans (by first | assumption | (simp; done)); have k5 : W1.cell? ⟨w.heap.size + 1, 2, none⟩ = some (.int .i64 w2) := (hcc _ _ (by simp; try omega)).trans (by first | assumption | (simp; done)); clear hcc))
  go_wp2
  go_ret
  exact ⟨rfl, ((((Below.refl _ _).alloc (Nat.le_refl _) _).alloc (by simp) _).drew).trans (hb.mono (by simp; omega))⟩

set_option maxHeartbeats 800000 in
theorem fits_yes (nm : ByteArray) (wd at_ deep root aAt aW : Int) (sv av : Value) (w : World) (h1 : 1 ≤ wd) (h2 : wd ≤ 64) (h3 : 0 ≤ at_) (h4 : at_ ≤ 1000) (h5 : aW ≤ 1000) (hf : at_ + wd ≤ aW) :
    Calls Tryz.prog 25 #[.agg #[.string nm, .int .i64 wd, .int .i64 at_, sv, .int .i64 deep, .int .i64 root, .int .i64 aAt, .int .i64 aW, av]] w fun e w' =>
      e = .returned (.bool true) ∧ Below w.heap.size w w' := by
  have hle : at_ ≤ aW - wd := by omega
  go_enter Tryz.func25, Tryz.ntmps25
  go_wp2
  go_ret
  exact ⟨rfl, (Below.refl _ _).alloc (Nat.le_refl _) _⟩
end Go.Proofs.YtgnnipnnnebpiaaGreatDoor
