/-
  The laws of operations and of shifts, of what Do answers (text only).
-/
import Derived.Test.YtpekbaikbgcnmaaVrB
namespace Go.Proofs.Ytpekbaikbgcnmaa
def nmOf (k : Nat) : ByteArray := opNames.getD k ⟨#[]⟩
theorem opNo_of {k : Nat} (hk : k < 13) : opNo (nmOf k) = some k := by
  have hcases : k = 0 ∨ k = 1 ∨ k = 2 ∨ k = 3 ∨ k = 4 ∨ k = 5 ∨ k = 6 ∨ k = 7 ∨ k = 8 ∨ k = 9 ∨ k = 10 ∨ k = 11 ∨ k = 12 := by omega
  rcases hcases with rfl | rfl | rfl | rfl | rfl | rfl | rfl | rfl | rfl | rfl | rfl | rfl | rfl <;> rfl
/-- What is answered of two values. -/
def val2 (k : Nat) (width a b : Int) : Int := (doS (nmOf k) width [a, b]).1
def val1 (width a : Int) : Int := (doS (nmOf 12) width [a]).1
theorem do_two {k : Nat} (hk : k < 12) (width a b : Int) {z : BitVec (widN width)} (h : fnB k (cutB (widN width) a) (cutB (widN width) b) = some z) : doS (nmOf k) width [a, b] = (repB z, true) := by
  unfold doS doW
  rw [opNo_of (by omega)]
  have e : [a, b].length = arityK k := by unfold arityK; rw [if_neg (by omega)]; rfl
  simp only [if_pos e]
  have e0 : [a, b].getD 0 0 = a := rfl
  have e1 : [a, b].getD 1 0 = b := rfl
  rw [e0, e1, h]
theorem val_two {k : Nat} (hk : k < 12) (width a b : Int) {z : BitVec (widN width)} (h : fnB k (cutB (widN width) a) (cutB (widN width) b) = some z) : val2 k width a b = repB z := by
  unfold val2
  rw [do_two hk width a b h]
theorem v_add (w a b : Int) : val2 0 w a b = repB (cutB (widN w) a + cutB (widN w) b) := val_two (by decide) w a b rfl
theorem v_sub (w a b : Int) : val2 1 w a b = repB (cutB (widN w) a - cutB (widN w) b) := val_two (by decide) w a b rfl
theorem v_mul (w a b : Int) : val2 2 w a b = repB (cutB (widN w) a * cutB (widN w) b) := val_two (by decide) w a b rfl
theorem v_and (w a b : Int) : val2 3 w a b = repB (cutB (widN w) a &&& cutB (widN w) b) := val_two (by decide) w a b rfl
theorem v_or (w a b : Int) : val2 4 w a b = repB (cutB (widN w) a ||| cutB (widN w) b) := val_two (by decide) w a b rfl
theorem v_xor (w a b : Int) : val2 5 w a b = repB (cutB (widN w) a ^^^ cutB (widN w) b) := val_two (by decide) w a b rfl
theorem v_shl (w a b : Int) : val2 6 w a b = repB (cutB (widN w) a <<< ((cutB (widN w) b).toNat % 64)) := val_two (by decide) w a b rfl
theorem v_shr (w a b : Int) : val2 7 w a b = repB (cutB (widN w) a >>> ((cutB (widN w) b).toNat % 64)) := val_two (by decide) w a b rfl
theorem v_div (w a b : Int) (h : (cutB (widN w) b).toNat ≠ 0) : val2 8 w a b = repB (cutB (widN w) a / cutB (widN w) b) := val_two (by decide) w a b (if_neg h)
theorem v_rem (w a b : Int) (h : (cutB (widN w) b).toNat ≠ 0) : val2 9 w a b = repB (cutB (widN w) a % cutB (widN w) b) := val_two (by decide) w a b (if_neg h)
theorem v_lt (w a b : Int) : val2 10 w a b = repB (cutB (widN w) (if (cutB (widN w) a).toNat < (cutB (widN w) b).toNat then 1 else 0)) := val_two (by decide) w a b rfl
theorem v_eq (w a b : Int) : val2 11 w a b = repB (cutB (widN w) (if (cutB (widN w) a).toNat = (cutB (widN w) b).toNat then 1 else 0)) := val_two (by decide) w a b rfl
theorem v_not (w a : Int) : val1 w a = repB (~~~ cutB (widN w) a) := by
  unfold val1 doS doW
  rw [opNo_of (by decide)]
  rfl
theorem rep_one {w : Nat} (h : 1 ≤ w) : repB (cutB w 1) = 1 := by
  by_cases h64 : w = 64
  · subst h64; exact cut_whole (by decide) (by decide)
  · exact rep_small h64 (v := 1) (by
      have : 2 ^ 1 ≤ 2 ^ w := Nat.pow_le_pow_right (by decide) h
      omega)
/-- The fourteen laws. -/
theorem laws_all (w a b : Int) :
    val2 1 w (val2 0 w a b) b = cutS a w ∧ val2 0 w a b = val2 0 w b a ∧ val2 2 w a b = val2 2 w b a ∧ val2 5 w (val2 5 w a b) b = cutS a w ∧ val1 w (val1 w a) = cutS a w ∧
    val2 4 w (val2 3 w a b) (val2 5 w a b) = val2 4 w a b ∧ (val2 11 w a b = 1 ↔ cutS a w = cutS b w) ∧ val2 10 w a a = 0 ∧ val2 1 w a b = val2 0 w (val2 0 w a (val1 w b)) 1 ∧
    (cutS b w ≠ 0 → val2 0 w (val2 2 w (val2 8 w a b) b) (val2 9 w a b) = cutS a w ∧ val2 10 w (val2 9 w a b) b = 1) := by
  have h1 := widN_pos w
  have hn1 : cutB (widN w) 1 = 1#(widN w) := BitVec.ofInt_natCast _ 1
  unfold cutS
  refine ⟨?_, ?_, ?_, ?_, ?_, ?_, ?_, ?_, ?_, ?_⟩
  · rw [v_sub, v_add, cutB_rep, BitVec.add_sub_cancel]
  · rw [v_add, v_add, BitVec.add_comm]
  · rw [v_mul, v_mul, BitVec.mul_comm]
  · rw [v_xor, v_xor, cutB_rep, xor_back]
  · rw [v_not, v_not, cutB_rep, BitVec.not_not]
  · rw [v_or, v_and, v_xor, v_or, cutB_rep, cutB_rep, and_or_xor]
  · rw [v_eq, rep_inj]
    constructor
    · intro h
      by_cases he : (cutB (widN w) a).toNat = (cutB (widN w) b).toNat
      · exact BitVec.eq_of_toNat_eq he
      · rw [if_neg he, rep_zero] at h
        cases h
    · intro h
      rw [h, if_pos rfl, rep_one h1]
  · rw [v_lt, if_neg (Nat.lt_irrefl _), rep_zero]
  · rw [v_sub, v_not, v_add, v_add, cutB_rep, cutB_rep, hn1, ← sub_not]
  · intro hb
    have hy : cutB (widN w) b ≠ 0#(widN w) := fun h => hb (by
      have e : cutB (widN w) 0 = 0#(widN w) := BitVec.ofInt_natCast _ 0
      rw [h, ← e, rep_zero])
    have hy' : (cutB (widN w) b).toNat ≠ 0 := fun h => hy (BitVec.eq_of_toNat_eq (by rw [h]; simp))
    refine ⟨?_, ?_⟩
    · rw [v_add, v_mul, v_div w a b hy', v_rem w a b hy', cutB_rep, cutB_rep, cutB_rep, div_rem]
    · rw [v_lt, v_rem w a b hy', cutB_rep, if_pos (rem_lt _ _ hy), rep_one h1]
/-- Added to itself again and again. -/
def dbl (w a : Int) : Nat → Int
  | 0 => val2 0 w a 0
  | k + 1 => val2 0 w (dbl w a k) (dbl w a k)
theorem dbl_shl (w a : Int) : ∀ k, dbl w a k = repB (cutB (widN w) a <<< k)
  | 0 => by
    have e : cutB (widN w) 0 = 0#(widN w) := BitVec.ofInt_natCast _ 0
    unfold dbl
    rw [v_add, e, BitVec.add_zero, BitVec.shiftLeft_zero]
  | k + 1 => by
    unfold dbl
    rw [dbl_shl w a k, v_add, cutB_rep, ← dblB_shl, ← dblB_shl]
    rfl
theorem and63 (n : Int) : bits .and .i64 n 63 = n % 64 := by
  have h := cut_mask (w := 6) (by decide) n
  have e : (2 : Int) ^ 6 - 1 = 63 := by decide
  rw [e] at h
  rw [h]
  unfold repB cutB
  rw [if_neg (by decide), BitVec.toNat_ofInt]
  show (((n % 64).toNat : Nat) : Int) = n % 64
  omega
theorem low6 {w : Nat} (hw : 6 ≤ w) (n : Int) : ((cutB w n).toNat % 64 : Nat) = (n % 64).toNat ∧ ((cutB w (n % 64)).toNat % 64 : Nat) = (n % 64).toNat := by
  obtain ⟨k, rfl⟩ : ∃ k, w = 6 + k := ⟨w - 6, by omega⟩
  have hp : ((2 ^ (6 + k) : Nat) : Int) = 64 * ((2 ^ k : Nat) : Int) := by rw [Nat.pow_add]; simp
  have hd : ∀ m : Int, ((m % ((2 ^ (6 + k) : Nat) : Int)).toNat % 64 : Nat) = (m % 64).toNat := fun m => by
    have h0 : 0 ≤ m % ((2 ^ (6 + k) : Nat) : Int) := Int.emod_nonneg _ (by
      have : 0 < 2 ^ (6 + k) := Nat.pow_pos (by decide)
      omega)
    have h1 : m % ((2 ^ (6 + k) : Nat) : Int) % 64 = m % 64 := Int.emod_emod_of_dvd m ⟨_, hp⟩
    omega
  unfold cutB
  rw [BitVec.toNat_ofInt, BitVec.toNat_ofInt, hd, hd]
  exact ⟨rfl, by rw [Int.emod_emod_of_dvd n (Int.dvd_refl 64)]⟩
/-- Shifts. -/
theorem shifts_all (w a n : Int) (h8 : 8 ≤ w) (hw : w ≤ 64) :
    (doS (nmOf 6) w [a, n]).2 = true ∧ (doS (nmOf 7) w [a, n]).2 = true ∧ val2 6 w a n = val2 6 w a (n % 64) ∧ val2 7 w a n = val2 7 w a (n % 64) ∧
    val2 6 w a n = dbl w a (n % 64).toNat ∧ (n % 64 < w ∨ val2 6 w a n = 0 ∧ val2 7 w a n = 0) := by
  have e : widN w = w.toNat := by unfold widN; omega
  have h6 := low6 (w := widN w) (by omega) n
  refine ⟨by rw [do_two (by decide) w a n rfl], by rw [do_two (by decide) w a n rfl], ?_, ?_, ?_, ?_⟩
  · rw [v_shl, v_shl, h6.1, h6.2]
  · rw [v_shr, v_shr, h6.1, h6.2]
  · rw [v_shl, h6.1, dbl_shl]
  · by_cases h : n % 64 < w
    · exact .inl h
    · refine .inr ?_
      have hz : repB (0#(widN w)) = 0 := by
        have e : cutB (widN w) 0 = 0#(widN w) := BitVec.ofInt_natCast _ 0
        rw [← e, rep_zero]
      rw [v_shl, v_shr, h6.1, shl_out _ (by omega), shr_out _ (by omega), hz]
      exact ⟨rfl, rfl⟩
end Go.Proofs.Ytpekbaikbgcnmaa
