/-
  law9's VirWords, whatever is asked of it.
-/
import Derived.Test.YtfnfijgknjnccaaGreatDoorVyF
import Derived.Test.YtfnfijgknjnccaaGreatDoorVyG
namespace Go.Proofs.YtfnfijgknjnccaaGreatDoor
open Go.RowKit Go.Sort
set_option maxHeartbeats 4000000
set_option maxRecDepth 100000
theorem below5 (W : World) (o1 o2 o3 o4 o5 : Obj) : Below W.heap.size W (((((W.alloc o1).alloc o2).alloc o3).alloc o4).alloc o5) :=
  ((((belowN.alloc (by simp) _).alloc (by simp; omega) _).alloc (by simp; omega) _).alloc (by simp; omega) _)
theorem virWords_off (q d a b : Int) (h : ¬ ((0 ≤ d ∧ d ≤ 99999) ∧ (0 ≤ a ∧ a ≤ 99999) ∧ (0 ≤ b ∧ b ≤ 99999))) {w : World} (hE : EnvF w) : Calls Tryz.prog 5 #[.int .i64 q, .int .i64 d, .int .i64 a, .int .i64 b] w fun e w' => e = .returned (.bool true) ∧ Below w.heap.size w w' := by
  have KA := alive9 hE
  clear hE
  have hcase : d < 0 ∨ (0 ≤ d ∧ d > 99999) ∨ (0 ≤ d ∧ d ≤ 99999 ∧ a < 0) ∨ (0 ≤ d ∧ d ≤ 99999 ∧ 0 ≤ a ∧ a > 99999) ∨ (0 ≤ d ∧ d ≤ 99999 ∧ 0 ≤ a ∧ a ≤ 99999 ∧ b < 0) ∨ (0 ≤ d ∧ d ≤ 99999 ∧ 0 ≤ a ∧ a ≤ 99999 ∧ 0 ≤ b ∧ b > 99999) := by omega
  clear h
  rcases hcase with h1 | ⟨h1, h2⟩ | ⟨h1, h2, h3⟩ | ⟨h1, h2, h3, h4⟩ | ⟨h1, h2, h3, h4, h5⟩ | ⟨h1, h2, h3, h4, h5, h6⟩
  · go_enter Tryz.func5, Tryz.ntmps5
    go_wp2_with (go_at_call 6; refine KA.mono ?_; clear KA; rintro e W1 ⟨rfl, hb1⟩)
    go_ret
    exact ⟨rfl, hb1⟩
  · go_enter Tryz.func5, Tryz.ntmps5
    go_wp2_with (go_at_call 6; refine KA.mono ?_; clear KA; rintro e W1 ⟨rfl, hb1⟩)
    go_ret
    exact ⟨rfl, hb1⟩
  · go_enter Tryz.func5, Tryz.ntmps5
    go_wp2_with (go_at_call 6; refine KA.mono ?_; clear KA; rintro e W1 ⟨rfl, hb1⟩)
    go_ret
    exact ⟨rfl, hb1⟩
  · go_enter Tryz.func5, Tryz.ntmps5
    go_wp2_with (go_at_call 6; refine KA.mono ?_; clear KA; rintro e W1 ⟨rfl, hb1⟩)
    go_ret
    exact ⟨rfl, hb1⟩
  · go_enter Tryz.func5, Tryz.ntmps5
    go_wp2_with (go_at_call 6; refine KA.mono ?_; clear KA; rintro e W1 ⟨rfl, hb1⟩)
    go_ret
    exact ⟨rfl, hb1⟩
  · go_enter Tryz.func5, Tryz.ntmps5
    go_wp2_with (go_at_call 6; refine KA.mono ?_; clear KA; rintro e W1 ⟨rfl, hb1⟩)
    go_ret
    exact ⟨rfl, hb1⟩
theorem virWords_none (q : Int) (d a b : Nat) (hq : q < 0 ∨ 11 ≤ q) (hd : d ≤ 99999) (ha : a ≤ 99999) (hz : a ≠ 0) (hb : b ≤ 99999) {w : World} (hE : EnvF w) : Calls Tryz.prog 5 #[.int .i64 q, .int .i64 d, .int .i64 a, .int .i64 b] w fun e w' => e = .returned (.bool true) ∧ Below w.heap.size w w' := by
  have KA := alive9 hE
  have d0 : (0 : Int) ≤ d := Int.natCast_nonneg _
  have b0 : (0 : Int) ≤ b := Int.natCast_nonneg _
  have a0 : (0 : Int) ≤ a := Int.natCast_nonneg _
  have sd : (wordN d).size ≤ 21 := wordN_size _ (by omega) (by omega)
  have sb : (wordN b).size ≤ 21 := wordN_size _ (by omega) (by omega)
  have sa : (wordN (a : Int)).size ≤ 21 := wordN_size _ (by omega) (by omega)
  have Kd := fun W => num10_any d hd W
  have Kb := fun W => num10_any b hb W
  have Ka := fun W => num10_any a ha W
  clear hE
  generalize wordN (d : Int) = qd at *
  generalize wordN (a : Int) = qa at *
  generalize wordN (b : Int) = qb at *
  rcases hq with hq | hq
  · go_enter Tryz.func5, Tryz.ntmps5
    go_wp2_with (first
      | (go_at_call 6; refine KA.mono ?_; clear KA; rintro e W1 ⟨rfl, hb1⟩)
      | (go_at_call 12; first | (refine (Kd _).mono ?_; clear Kd; rintro e w2 ⟨rfl, rfl⟩) | (refine (Ka _).mono ?_; clear Ka; rintro e w2 ⟨rfl, rfl⟩) | (refine (Kb _).mono ?_; clear Kb; rintro e w2 ⟨rfl, rfl⟩)))
    go_ret
    exact ⟨rfl, hb1.trans ((below5 W1 _ _ _ _ _).mono hb1.size)⟩
  · go_enter Tryz.func5, Tryz.ntmps5
    go_wp2_with (first
      | (go_at_call 6; refine KA.mono ?_; clear KA; rintro e W1 ⟨rfl, hb1⟩)
      | (go_at_call 12; first | (refine (Kd _).mono ?_; clear Kd; rintro e w2 ⟨rfl, rfl⟩) | (refine (Ka _).mono ?_; clear Ka; rintro e w2 ⟨rfl, rfl⟩) | (refine (Kb _).mono ?_; clear Kb; rintro e w2 ⟨rfl, rfl⟩)))
    go_ret
    exact ⟨rfl, hb1.trans ((below5 W1 _ _ _ _ _).mono hb1.size)⟩
theorem virWords_none0 (q : Int) (d b : Nat) (hq : q < 0 ∨ 11 ≤ q) (hd : d ≤ 99999) (hb : b ≤ 99999) {w : World} (hE : EnvF w) : Calls Tryz.prog 5 #[.int .i64 q, .int .i64 d, .int .i64 0, .int .i64 b] w fun e w' => e = .returned (.bool true) ∧ Below w.heap.size w w' := by
  have KA := alive9 hE
  have d0 : (0 : Int) ≤ d := Int.natCast_nonneg _
  have b0 : (0 : Int) ≤ b := Int.natCast_nonneg _

  have sd : (wordN d).size ≤ 21 := wordN_size _ (by omega) (by omega)
  have sb : (wordN b).size ≤ 21 := wordN_size _ (by omega) (by omega)
  have sa : (wordN ((0 : Nat) : Int)).size ≤ 21 := wordN_size _ (by omega) (by omega)
  have Kd := fun W => num10_any d hd W
  have Kb := fun W => num10_any b hb W
  have Ka := fun W => num10_any 0 (Nat.zero_le 99999) W
  clear hE
  generalize wordN (d : Int) = qd at *
  generalize wordN ((0 : Nat) : Int) = qa at *
  generalize wordN (b : Int) = qb at *
  rcases hq with hq | hq
  · go_enter Tryz.func5, Tryz.ntmps5
    go_wp2_with (first
      | (go_at_call 6; refine KA.mono ?_; clear KA; rintro e W1 ⟨rfl, hb1⟩)
      | (go_at_call 12; first | (refine (Kd _).mono ?_; clear Kd; rintro e w2 ⟨rfl, rfl⟩) | (refine (Ka _).mono ?_; clear Ka; rintro e w2 ⟨rfl, rfl⟩) | (refine (Kb _).mono ?_; clear Kb; rintro e w2 ⟨rfl, rfl⟩)))
    go_ret
    exact ⟨rfl, hb1.trans ((below5 W1 _ _ _ _ _).mono hb1.size)⟩
  · go_enter Tryz.func5, Tryz.ntmps5
    go_wp2_with (first
      | (go_at_call 6; refine KA.mono ?_; clear KA; rintro e W1 ⟨rfl, hb1⟩)
      | (go_at_call 12; first | (refine (Kd _).mono ?_; clear Kd; rintro e w2 ⟨rfl, rfl⟩) | (refine (Ka _).mono ?_; clear Ka; rintro e w2 ⟨rfl, rfl⟩) | (refine (Kb _).mono ?_; clear Kb; rintro e w2 ⟨rfl, rfl⟩)))
    go_ret
    exact ⟨rfl, hb1.trans ((below5 W1 _ _ _ _ _).mono hb1.size)⟩
theorem virWords_any (q d a b : Int) {w : World} (hE : EnvF w) : Calls Tryz.prog 5 #[.int .i64 q, .int .i64 d, .int .i64 a, .int .i64 b] w fun e w' => e = .returned (.bool true) ∧ Below w.heap.size w w' := by
  by_cases h : (0 ≤ d ∧ d ≤ 99999) ∧ (0 ≤ a ∧ a ≤ 99999) ∧ (0 ≤ b ∧ b ≤ 99999)
  · obtain ⟨⟨h1, h2⟩, ⟨h3, h4⟩, h5, h6⟩ := h
    obtain ⟨d, rfl⟩ := Int.eq_ofNat_of_zero_le h1
    obtain ⟨a, rfl⟩ := Int.eq_ofNat_of_zero_le h3
    obtain ⟨b, rfl⟩ := Int.eq_ofNat_of_zero_le h5
    by_cases hq : q < 0 ∨ 11 ≤ q
    · by_cases hz : a = 0
      · subst hz
        exact virWords_none0 q d b hq (by omega) (by omega) hE
      · exact virWords_none q d a b hq (by omega) (by omega) hz (by omega) hE
    · obtain ⟨k, rfl⟩ := Int.eq_ofNat_of_zero_le (show 0 ≤ q by omega)
      by_cases hz : a = 0
      · subst hz
        exact virWords_zero k d b (by omega) (by omega) (by omega) hE
      · exact virWords_pos k d a b (by omega) (by omega) (by omega) hz (by omega) hE
  · exact virWords_off q d a b h hE
end Go.Proofs.YtfnfijgknjnccaaGreatDoor
