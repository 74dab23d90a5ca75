/-
  Numbers as words: what is written is read as it was; what else a word may be (text only).
-/
import Derived.Lib.ItoaNum
import Derived.Lib.AtoiAll
namespace Go.Proofs.YtfnfijgknjnccaaGreatDoor
open Go.Lib
theorem parseUint10_snoc (c : UInt8) : ∀ (l : List UInt8) (acc v : Nat), parseUint10 acc l = .ok v → parseUint10 acc (l ++ [c]) = parseUint10 v [c]
  | [], acc, v, h => by
    simp only [parseUint10] at h
    injection h with h
    subst h
    rfl
  | d :: r, acc, v, h => by
    simp only [parseUint10, List.cons_append] at h ⊢
    split at h
    · rename_i h1
      split at h
      · cases h
      · rename_i h2
        split at h
        · cases h
        · rename_i h3
          rw [if_pos h1, if_neg h2, if_neg h3, parseUint10_snoc c r _ v h]
          rfl
    · cases h
theorem digit_nat (k : Nat) (h : k < 10) : (UInt8.ofNat (48 + k)).toNat = 48 + k := by
  have : ∀ k < 10, (UInt8.ofNat (48 + k)).toNat = 48 + k := by decide
  exact this k h
theorem parse_dec (u : Nat) : u < 18446744073709551616 → parseUint10 0 (decDigits u) = .ok u := by
  induction u using Nat.strongRecOn with
  | _ u ih =>
    intro hu
    by_cases h : u < 10
    · rw [decDigits, dif_pos h]
      simp only [parseUint10]
      rw [digit_nat u h, if_pos (by omega), if_neg (by omega), if_neg (by omega)]
      congr 1
      omega
    · rw [decDigits, dif_neg h, parseUint10_snoc _ _ _ _ (ih (u / 10) (by omega) (by omega))]
      simp only [parseUint10]
      rw [digit_nat (u % 10) (by omega), if_pos (by omega), if_neg (by omega), if_neg (by omega)]
      congr 1
      omega
theorem dec_ne (u : Nat) : decDigits u ≠ [] := fun h => by
  have := decDigits_length u
  rw [h] at this
  have := nDigits_pos u
  simp at *
  omega
theorem dec_head (u : Nat) : ∃ c r, decDigits u = c :: r ∧ 48 ≤ c.toNat ∧ c.toNat ≤ 57 := by
  induction u using Nat.strongRecOn with
  | _ u ih =>
    by_cases h : u < 10
    · exact ⟨_, _, by rw [decDigits, dif_pos h], by rw [digit_nat u h]; omega, by rw [digit_nat u h]; omega⟩
    · obtain ⟨c, r, h1, h2, h3⟩ := ih (u / 10) (by omega)
      exact ⟨c, r ++ [UInt8.ofNat (48 + u % 10)], by rw [decDigits, dif_neg h, h1]; rfl, h2, h3⟩
/-- What is written is read as it was. -/
theorem atoi_itoa (n : Int) (h0 : -9223372036854775808 ≤ n) (h1 : n ≤ 9223372036854775807) : atoiAll (itoa n) = .ok n := by
  by_cases hn : n < 0
  · unfold itoa
    rw [if_pos hn]
    simp only [atoiAll]
    rw [if_pos (by decide)]
    unfold parseMag
    rw [if_neg (dec_ne _), parse_dec _ (by omega)]
    dsimp only
    rw [if_neg (by intro h; exact h.1 (by decide)), if_neg (by omega), if_pos (by decide)]
    congr 1
    omega
  · unfold itoa
    rw [if_neg hn]
    obtain ⟨c, r, e, h2, h3⟩ := dec_head n.toNat
    have hp := parse_dec n.toNat (by omega)
    rw [e] at hp ⊢
    simp only [atoiAll]
    rw [if_neg (by omega)]
    unfold parseMag
    rw [if_neg (by simp), hp]
    have h45 : ¬ c.toNat = 45 := by omega
    dsimp only
    rw [if_neg (by omega), if_neg (by omega), if_neg h45]
    congr 1
    omega
/-- The word of a number. -/
def wordN (n : Int) : ByteArray := ⟨(itoa n).toArray⟩
theorem wordN_list (n : Int) : (wordN n).data.toList = itoa n := by simp [wordN]
theorem nDigits_le (u : Nat) (h : u < 18446744073709551616) : nDigits u ≤ 20 := by
  have h1 : ∀ (k u : Nat), u < 10 ^ (k + 1) → nDigits u ≤ k + 1 := by
    intro k
    induction k with
    | zero => intro u hu; rw [nDigits_small (by simpa using hu)]; omega
    | succ k ih =>
      intro u hu
      by_cases h : u < 10
      · rw [nDigits_small h]; omega
      · rw [nDigits_big h]
        have := ih (u / 10) (by rw [Nat.pow_succ] at hu; omega)
        omega
  exact h1 19 u (by omega)
theorem wordN_size (n : Int) (h0 : -9223372036854775808 ≤ n) (h1 : n ≤ 9223372036854775807) : (wordN n).size ≤ 21 := by
  have e : (wordN n).size = (itoa n).length := by simp [wordN, ByteArray.size]
  rw [e]
  unfold itoa
  split
  · rw [List.length_cons, decDigits_length]
    have := nDigits_le n.natAbs (by omega)
    omega
  · rw [decDigits_length]
    have := nDigits_le n.toNat (by omega)
    omega
end Go.Proofs.YtfnfijgknjnccaaGreatDoor
