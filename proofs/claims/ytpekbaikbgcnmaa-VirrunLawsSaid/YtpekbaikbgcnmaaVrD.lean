/-
  The closures of virrun's operations, and its cut: what each answers.
-/
import Derived.Test.YtpekbaikbgcnmaaProg
import Derived.Test.YtpekbaikbgcnmaaVrC
import Derived.WalkKit
import Derived.WalkSpells
import Derived.WalkLawsBesides
import Derived.Lib.Hide
import Derived.LoopTactic
import Derived.Below
import Derived.WalkSmall
import Derived.Shelf.Abstract
import Derived.Shelf.RegionOpen
import Derived.OwnWalkIn
import Derived.TacticsInMore
import Derived.LoopNIn
import Derived.LoopIn
import Derived.LoopN
import Derived.Deep.DeepMust
import Derived.WalkMore
import Derived.IntWalk
import Derived.Deep.RegionHeld3
import Derived.Deep.AppendLies
import Derived.StillTactics
import Derived.OwnWalk
import Derived.Laws.Pointers
namespace Go.Proofs.Ytpekbaikbgcnmaa
open Go.RowKit
theorem ret_u64 {a b : Int} (h : a = b) : Ending.returned (.int .u64 a) = .returned (.int .u64 b) := by rw [h]
theorem ret_i64 {a b : Int} (h : a = b) : Ending.returned (.int .i64 a) = .returned (.int .i64 b) := by rw [h]
theorem ret_bool {a b : Bool} (h : a = b) : Ending.returned (.bool a) = .returned (.bool b) := by rw [h]

set_option maxHeartbeats 800000
theorem vrAdd (a b : Int) (w : World) : Calls Try.prog 16 #[.int .u64 a, .int .u64 b] w fun e w' => e = .returned (.int .u64 (fnU 0 a b).1) ∧ w = w' := by
  go_enter Try.func16, Try.ntmps16
  go_wp2
  go_ret
  exact ⟨rfl, rfl⟩
theorem vrSub (a b : Int) (w : World) : Calls Try.prog 17 #[.int .u64 a, .int .u64 b] w fun e w' => e = .returned (.int .u64 (fnU 1 a b).1) ∧ w = w' := by
  go_enter Try.func17, Try.ntmps17
  go_wp2
  go_ret
  exact ⟨rfl, rfl⟩
theorem vrMul (a b : Int) (w : World) : Calls Try.prog 18 #[.int .u64 a, .int .u64 b] w fun e w' => e = .returned (.int .u64 (fnU 2 a b).1) ∧ w = w' := by
  go_enter Try.func18, Try.ntmps18
  go_wp2
  go_ret
  exact ⟨rfl, rfl⟩
theorem vrAnd (a b : Int) (w : World) : Calls Try.prog 19 #[.int .u64 a, .int .u64 b] w fun e w' => e = .returned (.int .u64 (fnU 3 a b).1) ∧ w = w' := by
  go_enter Try.func19, Try.ntmps19
  go_wp2
  go_ret
  exact ⟨rfl, rfl⟩
theorem vrOr (a b : Int) (w : World) : Calls Try.prog 20 #[.int .u64 a, .int .u64 b] w fun e w' => e = .returned (.int .u64 (fnU 4 a b).1) ∧ w = w' := by
  go_enter Try.func20, Try.ntmps20
  go_wp2
  go_ret
  exact ⟨rfl, rfl⟩
theorem vrXor (a b : Int) (w : World) : Calls Try.prog 21 #[.int .u64 a, .int .u64 b] w fun e w' => e = .returned (.int .u64 (fnU 5 a b).1) ∧ w = w' := by
  go_enter Try.func21, Try.ntmps21
  go_wp2
  go_ret
  exact ⟨rfl, rfl⟩
theorem and63u {b : Int} (h0 : 0 ≤ b) (h1 : b < 18446744073709551616) : bits .and .u64 b 63 = ((b.toNat % 64 : Nat) : Int) := by
  obtain ⟨n, rfl⟩ : ∃ n : Nat, b = n := ⟨b.toNat, by omega⟩
  rw [show (63 : Int) = ((63 : Nat) : Int) from rfl, bits_and_u64_nat n 63 (by omega) (by decide), Int.toNat_natCast]
  congr 1
  exact Nat.and_two_pow_sub_one_eq_mod n 6
theorem vrShl (a b : Int) (h0 : 0 ≤ b) (h1 : b < 18446744073709551616) (w : World) : Calls Try.prog 22 #[.int .u64 a, .int .u64 b] w fun e w' => e = .returned (.int .u64 (fnU 6 a b).1) ∧ w = w' := by
  have hs := and63u h0 h1
  obtain ⟨s, hs2⟩ : ∃ s, s = b.toNat % 64 := ⟨_, rfl⟩
  have hf : (fnU 6 a b).1 = IntKind.u64.wrap (a * 2 ^ s) := by rw [hs2]; rfl
  have h64 : s < 64 := by omega
  rw [hf]
  rw [← hs2] at hs
  clear hs2 hf h0 h1
  have hm : min s 64 = s := by omega
  go_enter Try.func22, Try.ntmps22
  go_wp2
  go_ret
  exact ⟨rfl, rfl⟩
theorem vrShr (a b : Int) (h0 : 0 ≤ b) (h1 : b < 18446744073709551616) (w : World) : Calls Try.prog 23 #[.int .u64 a, .int .u64 b] w fun e w' => e = .returned (.int .u64 (fnU 7 a b).1) ∧ w = w' := by
  have hs := and63u h0 h1
  obtain ⟨s, hs2⟩ : ∃ s, s = b.toNat % 64 := ⟨_, rfl⟩
  have hf : (fnU 7 a b).1 = a / 2 ^ s := by rw [hs2]; rfl
  have h64 : s < 64 := by omega
  rw [hf]
  rw [← hs2] at hs
  clear hs2 hf h0 h1
  have hm : min s 64 = s := by omega
  go_enter Try.func23, Try.ntmps23
  go_wp2
  go_ret
  exact ⟨rfl, rfl⟩
theorem u64_lt {a : Int} (h0 : 0 ≤ a) (h1 : a < 18446744073709551616) : IntKind.u64.wrap a = a := by rw [IntKind.wrap_u64]; omega
theorem vrDiv (a b : Int) (ha : 0 ≤ a) (ha1 : a < 18446744073709551616) (h0 : 0 < b) (w : World) : Calls Try.prog 25 #[.int .u64 a, .int .u64 b] w fun e w' => e = .returned (.int .u64 (fnU 8 a b).1) ∧ w = w' := by
  have hb : ¬ b = 0 := by omega
  have hf : (fnU 8 a b).1 = a / b := by unfold fnU; simp only [if_neg hb]
  have hd : a.tdiv b = a / b := Int.tdiv_eq_ediv_of_nonneg ha
  have hw : IntKind.u64.wrap (a / b) = a / b := by
    refine u64_lt (Int.ediv_nonneg ha (by omega)) (Int.lt_of_le_of_lt (Int.ediv_le_self b ha) ha1)
  rw [hf]
  clear hf ha1 h0
  go_enter Try.func25, Try.ntmps25
  go_wp2
  go_ret
  exact ⟨rfl, rfl⟩
theorem vrRem (a b : Int) (ha : 0 ≤ a) (h0 : 0 < b) (w : World) : Calls Try.prog 26 #[.int .u64 a, .int .u64 b] w fun e w' => e = .returned (.int .u64 (fnU 9 a b).1) ∧ w = w' := by
  have hb : ¬ b = 0 := by omega
  have hf : (fnU 9 a b).1 = a % b := by unfold fnU; simp only [if_neg hb]
  have hd : a.tmod b = a % b := Int.tmod_eq_emod_of_nonneg ha
  rw [hf]
  clear hf h0
  go_enter Try.func26, Try.ntmps26
  go_wp2
  go_ret
  exact ⟨rfl, rfl⟩
theorem vrLt (a b : Int) (w : World) : Calls Try.prog 28 #[.int .u64 a, .int .u64 b] w fun e w' => e = .returned (.bool (decide (a < b))) ∧ w = w' := by
  go_enter Try.func28, Try.ntmps28
  go_wp2
  go_ret
  exact ⟨rfl, rfl⟩
theorem vrEq (a b : Int) (w : World) : Calls Try.prog 29 #[.int .u64 a, .int .u64 b] w fun e w' => e = .returned (.bool (decide (a = b))) ∧ w = w' := by
  go_enter Try.func29, Try.ntmps29
  go_wp2
  go_ret
  exact ⟨rfl, rfl⟩
theorem vrNot (a b : Int) (w : World) : Calls Try.prog 30 #[.int .u64 a, .int .u64 b] w fun e w' => e = .returned (.tuple #[.int .u64 (fnU 12 a b).1, .bool true]) ∧ w = w' := by
  go_enter Try.func30, Try.ntmps30
  go_wp2
  go_ret2
  exact ⟨rfl, rfl⟩
/-- cut. -/
theorem vrCut (n width : Int) (w : World) : Calls Try.prog 31 #[.int .i64 n, .int .i64 width] w fun e w' => e = .returned (.int .i64 (cutS n width)) ∧ w = w' := by
  have hr := cut_shifts n (widN_pos width) (widN_le width)
  have hc := widN_cast width
  have h1 := widN_pos width
  have h2 := widN_le width
  rw [show repB (cutB (widN width) n) = cutS n width from rfl] at hr
  generalize hW : widN width = W at *
  have e1 : min 64 (max 1 width) = (W : Int) := by omega
  go_enter Try.func31, Try.ntmps31
  go_wp2
  all_goals
    go_ret
    refine ⟨ret_i64 ?_, rfl⟩
    rw [← hr]
  · have : W = 64 := by omega
    subst this
    simp [IntKind.wrap_i64, wrap64]
  · have : W = 1 := by omega
    subst this
    simp [IntKind.wrap_i64, wrap64]
  · have : (64 - width).toNat = 64 - W := by omega
    rw [this]
    simp [IntKind.wrap_i64, wrap64]
end Go.Proofs.Ytpekbaikbgcnmaa
