/-
  law9's num10.
-/
import Derived.Test.YtfnfijgknjnccaaGreatDoorVyB
namespace Go.Proofs.YtfnfijgknjnccaaGreatDoor
open Go.RowKit Go.Sort
set_option maxHeartbeats 4000000
set_option maxRecDepth 100000
theorem digit_at : ∀ c, c < 10 → (⟨#[48, 49, 50, 51, 52, 53, 54, 55, 56, 57]⟩ : ByteArray).extract c (c + 1) = ⟨#[UInt8.ofNat (48 + c)]⟩ := by decide +kernel
theorem word_small (n : Nat) (h : n < 10) : wordN (n : Int) = ⟨#[UInt8.ofNat (48 + n)]⟩ := by
  apply txt_ext
  rw [wordN_list]
  unfold Lib.itoa
  rw [if_neg (by omega), Int.toNat_natCast, Lib.decDigits, dif_pos h]
theorem word_big (n : Nat) (h : ¬ n < 10) : wordN (n : Int) = wordN ((n / 10 : Nat) : Int) ++ ⟨#[UInt8.ofNat (48 + n % 10)]⟩ := by
  apply txt_ext
  rw [wordN_list]
  unfold Lib.itoa
  rw [if_neg (by omega), Int.toNat_natCast, Lib.decDigits, dif_neg h]
  have e : (wordN ((n / 10 : Nat) : Int)).data.toList = Lib.decDigits (n / 10) := by
    rw [wordN_list]
    unfold Lib.itoa
    rw [if_neg (by omega), Int.toNat_natCast]
  rw [← e]
  simp
theorem num10_any (n : Nat) (h : n ≤ 99999) (w : World) : Calls Tryz.prog 12 #[.int .i64 n] w fun e w' => e = .returned (.string (wordN n)) ∧ w = w' := by
  induction n using Nat.strongRecOn generalizing w with
  | ind n ih =>
    have h0 : (0 : Int) ≤ n := Int.natCast_nonneg _
    have hd := digit_at (n % 10) (Nat.mod_lt _ (by omega))
    by_cases hs : n < 10
    · have hw := word_small n hs
      have hm : n % 10 = n := Nat.mod_eq_of_lt hs
      clear ih
      go_enter Tryz.func12, Tryz.ntmps12
      go_wp2
      go_ret
      exact ⟨by rw [hd, hm, hw]; rfl, rfl⟩
    · have K := ih (n / 10) (by omega) (by omega) w
      have hw := word_big n hs
      have hq : (wordN ((n / 10 : Nat) : Int)).size ≤ 21 := wordN_size _ (by omega) (by omega)
      clear ih
      replace hd := Lib.hid hd
      replace hw := Lib.hid hw
      generalize wordN ((n / 10 : Nat) : Int) = q at *
      go_enter Tryz.func12, Tryz.ntmps12
      go_wp2_with (go_at_call 12; refine K.mono ?_; clear K; rintro e w' ⟨rfl, rfl⟩)
      go_ret
      rw [hw.out]
      exact ⟨by rw [hd.out]; rfl, rfl⟩
end Go.Proofs.YtfnfijgknjnccaaGreatDoor
