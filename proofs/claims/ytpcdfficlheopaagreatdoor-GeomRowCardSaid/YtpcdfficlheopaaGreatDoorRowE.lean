/-
  GeomRow answers true.
-/
import Derived.Test.YtpcdfficlheopaaGreatDoorRowD
namespace Go.Proofs.YtpcdfficlheopaaGreatDoor
open Go.RowKit Go.Shelf

set_option maxHeartbeats 1000000 in
theorem row_out (n width : Int) (w : World) (hE : Env w) (h : n < 1 ∨ (¬ n < 1 ∧ 16 < n) ∨ (¬ n < 1 ∧ ¬ 16 < n ∧ width < 1) ∨ (¬ n < 1 ∧ ¬ 16 < n ∧ ¬ width < 1 ∧ 64 < width) ∨ (¬ n < 1 ∧ ¬ 16 < n ∧ ¬ width < 1 ∧ ¬ 64 < width ∧ IntKind.i64.wrap (n * width) = n * width ∧ 64 < n * width)) :
    Calls Tryz.prog 4 #[.int .i64 n, .int .i64 width] w fun e w' => e = .returned (.bool true) ∧ Below w.heap.size w w' := by
  have C1 := alive_yes w hE
  rcases h with h | ⟨a, h⟩ | ⟨a, b, h⟩ | ⟨a, b, c, h⟩ | ⟨a, b, c, d, hm, h⟩
  all_goals
    go_enter Tryz.func4, Tryz.ntmps4
    go_wp2_with (go_at_call 6; refine C1.mono ?_; clear C1; rintro e W1 ⟨rfl, hb1⟩)
    go_ret
    exact ⟨rfl, hb1⟩

theorem row_any (n width : Int) (w : World) (hE : Env w) : Calls Tryz.prog 4 #[.int .i64 n, .int .i64 width] w fun e w' => e = .returned (.bool true) ∧ Below w.heap.size w w' := by
  by_cases a : n < 1
  · exact row_out n width w hE (.inl a)
  by_cases b : 16 < n
  · exact row_out n width w hE (.inr (.inl ⟨a, b⟩))
  by_cases c : width < 1
  · exact row_out n width w hE (.inr (.inr (.inl ⟨a, b, c⟩)))
  by_cases d : 64 < width
  · exact row_out n width w hE (.inr (.inr (.inr (.inl ⟨a, b, c, d⟩))))
  have h0 : 0 ≤ n * width := Int.mul_nonneg (by omega) (by omega)
  have h1 : n * width ≤ 16 * 64 := Int.le_trans (Int.mul_le_mul_of_nonneg_right (by omega : n ≤ 16) (by omega)) (Int.mul_le_mul_of_nonneg_left (by omega) (by omega))
  by_cases e : 64 < n * width
  · exact row_out n width w hE (.inr (.inr (.inr (.inr ⟨a, b, c, d, IntWalk.i64_in _ (by omega), e⟩))))
  obtain ⟨k, rfl⟩ : ∃ k : Nat, n = k := ⟨n.toNat, by omega⟩
  exact row_in k width w hE (by omega) (by omega) (by omega) (by omega) (by omega)
end Go.Proofs.YtpcdfficlheopaaGreatDoor
