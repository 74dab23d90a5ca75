/-
  The reference's Arity, Cut and Do: they answer as virrun's.
-/
import Derived.Test.YtpekbaikbgcnmaaVrG
namespace Go.Proofs.Ytpekbaikbgcnmaa
open Go.RowKit Go.Maps
theorem opNo_list {s : ByteArray} {k : Nat} (hk : opNo s = some k) : k < 13 ∧ s.toList = (nmOf k).data.toList := by
  obtain ⟨hlt, he, _⟩ := List.findIdx?_eq_some_iff_getElem.1 hk
  have h13 : k < 13 := hlt
  refine ⟨h13, ?_⟩
  have e : nmOf k = s := by
    have := nmOf_get h13
    rw [List.getElem?_eq_getElem hlt] at this
    rw [← Option.some.inj this]
    exact of_decide_eq_true he
  rw [e, ByteArray.toList_eq]
theorem opNo_out {s : ByteArray} (hk : opNo s = none) {k : Nat} (h : k < 13) : (s.toList == (nmOf k).data.toList) = false := by
  have h1 := List.findIdx?_eq_none_iff.1 hk (nmOf k) (List.mem_of_getElem? (nmOf_get h))
  have h2 : nmOf k ≠ s := of_decide_eq_false h1
  rw [beq_eq_false_iff_ne, ByteArray.toList_eq]
  exact fun e => h2 (keyS_inj (by unfold keyS; rw [e])).symm
set_option maxRecDepth 100000
set_option maxHeartbeats 4000000
theorem refArity (s : ByteArray) (w : World) : Calls Try.prog 10 #[.string s] w fun e w' => e = .returned (.int .i64 (arityS s)) ∧ w = w' := by
  cases hk : opNo s with
  | none =>
    have hr : arityS s = 0 := by unfold arityS; rw [hk]
    rw [hr]
    have g0 : (s.toList == [97, 100, 100]) = false := opNo_out hk (k := 0) (by decide)
    have g1 : (s.toList == [115, 117, 98]) = false := opNo_out hk (k := 1) (by decide)
    have g2 : (s.toList == [109, 117, 108]) = false := opNo_out hk (k := 2) (by decide)
    have g3 : (s.toList == [97, 110, 100]) = false := opNo_out hk (k := 3) (by decide)
    have g4 : (s.toList == [111, 114]) = false := opNo_out hk (k := 4) (by decide)
    have g5 : (s.toList == [120, 111, 114]) = false := opNo_out hk (k := 5) (by decide)
    have g6 : (s.toList == [115, 104, 108]) = false := opNo_out hk (k := 6) (by decide)
    have g7 : (s.toList == [115, 104, 114]) = false := opNo_out hk (k := 7) (by decide)
    have g8 : (s.toList == [100, 105, 118]) = false := opNo_out hk (k := 8) (by decide)
    have g9 : (s.toList == [114, 101, 109]) = false := opNo_out hk (k := 9) (by decide)
    have g10 : (s.toList == [108, 116]) = false := opNo_out hk (k := 10) (by decide)
    have g11 : (s.toList == [101, 113]) = false := opNo_out hk (k := 11) (by decide)
    have g12 : (s.toList == [110, 111, 116]) = false := opNo_out hk (k := 12) (by decide)
    clear hk hr
    go_enter Try.func10, Try.ntmps10
    go_wp2
    go_ret
    exact ⟨rfl, rfl⟩
  | some k =>
    obtain ⟨h13, hs⟩ := opNo_list hk
    have hr : arityS s = (arityK k : Int) := by unfold arityS; rw [hk]
    rw [hr]
    clear hk hr
    have hcases : k = 0 ∨ k = 1 ∨ k = 2 ∨ k = 3 ∨ k = 4 ∨ k = 5 ∨ k = 6 ∨ k = 7 ∨ k = 8 ∨ k = 9 ∨ k = 10 ∨ k = 11 ∨ k = 12 := by omega
    rcases hcases with rfl | rfl | rfl | rfl | rfl | rfl | rfl | rfl | rfl | rfl | rfl | rfl | rfl
    all_goals
      simp only [nmOf, opNames, List.getD_cons_zero, List.getD_cons_succ] at hs
      go_enter Try.func10, Try.ntmps10
      go_wp2
      go_ret
      exact ⟨rfl, rfl⟩
/-- Cut. -/
theorem refCut (n width : Int) (hn : -9223372036854775808 ≤ n ∧ n < 9223372036854775808) (w : World) : Calls Try.prog 12 #[.int .i64 n, .int .i64 width] w fun e w' => e = .returned (.int .i64 (cutS n width)) ∧ w = w' := by
  have hc := widN_cast width
  by_cases h64 : 64 ≤ width
  · have hr : cutS n width = n := by
      unfold cutS
      rw [show widN width = 64 by omega]
      exact cut_whole hn.1 hn.2
    rw [hr]
    clear hc hr
    go_enter Try.func12, Try.ntmps12
    go_wp2
    go_ret
    exact ⟨rfl, rfl⟩
  · by_cases h1 : width < 1
    · have hr : bits .and .i64 n 1 = cutS n width := by
        unfold cutS
        rw [show widN width = 1 by omega]
        exact cut_mask (w := 1) (by decide) n
      rw [← hr]
      clear hc hr
      go_enter Try.func12, Try.ntmps12
      go_wp2
      go_ret
      exact ⟨rfl, rfl⟩
    · obtain ⟨k, rfl⟩ : ∃ k : Nat, width = k := ⟨width.toNat, by omega⟩
      have hk : widN (k : Int) = k := by omega
      have hr : bits .and .i64 n (2 ^ k - 1) = cutS n k := by
        unfold cutS
        rw [hk]
        exact cut_mask (by omega) n
      have h2 : IntKind.i64.wrap (IntKind.i64.wrap (2 ^ k) - 1) = 2 ^ k - 1 := by
        have hp : (2 : Int) ^ k = ((2 ^ k : Nat) : Int) := by simp
        have hq : 2 ^ k ≤ 2 ^ 63 := Nat.pow_le_pow_right (by decide) (by omega)
        have h0 : 0 < 2 ^ k := Nat.pow_pos (by decide)
        rw [hp, IntKind.wrap_i64, IntKind.wrap_i64]
        omega
      rw [← hr]
      have hu : IntKind.u64.wrap (k : Int) = k := u64_lt (by omega) (by omega)
      have hm : min k 64 = k := by omega
      clear hc hr hk
      go_enter Try.func12, Try.ntmps12
      go_wp2
      go_ret
      exact ⟨ret_i64 (by rw [← h2, IntWalk.i64_left, IntWalk.i64_left]), rfl⟩
end Go.Proofs.Ytpekbaikbgcnmaa
