/-
  Numbers of a width: their lowest bits as a BitVec, how Go holds them in an int, and the laws by which operations go together (text only).
-/
import Derived.Laws.BitsLemmas
import Derived.Laws.Bits64b
namespace Go.Proofs.Ytpekbaikbgcnmaa
def cutB (w : Nat) (a : Int) : BitVec w := BitVec.ofInt w a
def repB {w : Nat} (x : BitVec w) : Int := if w = 64 then x.toInt else (x.toNat : Int)

theorem cutB_rep {w : Nat} (x : BitVec w) : cutB w (repB x) = x := by
  unfold cutB repB
  split
  · exact BitVec.ofInt_toInt
  · rw [BitVec.ofInt_natCast, BitVec.ofNat_toNat, BitVec.setWidth_eq]
theorem rep_inj {w : Nat} {x y : BitVec w} : repB x = repB y ↔ x = y :=
  ⟨fun h => by rw [← cutB_rep x, h, cutB_rep], fun h => by rw [h]⟩
theorem rep_range {w : Nat} (x : BitVec w) (hw : w ≤ 64) : -9223372036854775808 ≤ repB x ∧ repB x < 9223372036854775808 := by
  unfold repB
  split
  · rename_i h
    subst h
    have h1 := BitVec.le_toInt x
    have h2 := BitVec.toInt_lt (x := x)
    simp at h1 h2
    omega
  · have h1 := x.isLt
    have h2 : 2 ^ w ≤ 2 ^ 63 := Nat.pow_le_pow_right (by decide) (by omega)
    omega
theorem set64 (w : Nat) (hw : w ≤ 64) (a : Int) : (BitVec.ofInt 64 a).setWidth w = cutB w a := by
  apply BitVec.eq_of_toNat_eq
  unfold cutB
  rw [BitVec.toNat_setWidth, BitVec.toNat_ofInt, BitVec.toNat_ofInt]
  obtain ⟨k, hk⟩ : ∃ k, 64 = w + k := ⟨64 - w, by omega⟩
  have hp : ((2 ^ 64 : Nat) : Int) = ((2 ^ w : Nat) : Int) * ((2 ^ k : Nat) : Int) := by rw [hk, Nat.pow_add]; simp
  have h1 : a % ((2 ^ 64 : Nat) : Int) % ((2 ^ w : Nat) : Int) = a % ((2 ^ w : Nat) : Int) := by
    exact Int.emod_emod_of_dvd a ⟨_, hp⟩
  have h0 : 0 ≤ a % ((2 ^ 64 : Nat) : Int) := Int.emod_nonneg _ (by decide)
  have : ((a % ((2 ^ 64 : Nat) : Int)).toNat % 2 ^ w : Nat) = (a % ((2 ^ 64 : Nat) : Int) % ((2 ^ w : Nat) : Int)).toNat := by
    rw [Int.toNat_emod h0 (by omega), Int.toNat_natCast]
  rw [this, h1]
theorem ofInt_wrap (z : Int) : BitVec.ofInt 64 (IntKind.i64.wrap z) = BitVec.ofInt 64 z := by
  apply BitVec.eq_of_toNat_eq
  rw [BitVec.toNat_ofInt, BitVec.toNat_ofInt, IntKind.wrap_i64]
  congr 1
  show ((z + 9223372036854775808) % 18446744073709551616 - 9223372036854775808) % 18446744073709551616 = z % 18446744073709551616
  omega
theorem cutB_wrap (w : Nat) (hw : w ≤ 64) (z : Int) : cutB w (IntKind.i64.wrap z) = cutB w z := by
  rw [← set64 w hw, ofInt_wrap, set64 w hw]
theorem cutB_add (w : Nat) (a b : Int) : cutB w (a + b) = cutB w a + cutB w b := BitVec.ofInt_add ..
theorem cutB_mul (w : Nat) (a b : Int) : cutB w (a * b) = cutB w a * cutB w b := BitVec.ofInt_mul ..
theorem cutB_sub (w : Nat) (a b : Int) : cutB w (a - b) = cutB w a - cutB w b := by
  have h := cutB_add w (a - b) b
  rw [show a - b + b = a by omega] at h
  rw [h, BitVec.add_sub_cancel]
theorem cutB_nat (w : Nat) (x : BitVec 64) : cutB w (x.toNat : Int) = x.setWidth w := by
  unfold cutB
  rw [BitVec.ofInt_natCast, BitVec.ofNat_toNat]
theorem cutB_bits (w : Nat) (hw : w ≤ 64) (a b : Int) : cutB w (bits .and .i64 a b) = cutB w a &&& cutB w b ∧ cutB w (bits .or .i64 a b) = cutB w a ||| cutB w b ∧ cutB w (bits .xor .i64 a b) = cutB w a ^^^ cutB w b := by
  refine ⟨?_, ?_, ?_⟩
  · show cutB w (IntKind.i64.wrap ((BitVec.ofInt 64 a &&& BitVec.ofInt 64 b).toNat : Int)) = _
    rw [cutB_wrap w hw, cutB_nat w, BitVec.setWidth_and, set64 w hw, set64 w hw]
  · show cutB w (IntKind.i64.wrap ((BitVec.ofInt 64 a ||| BitVec.ofInt 64 b).toNat : Int)) = _
    rw [cutB_wrap w hw, cutB_nat w, BitVec.setWidth_or, set64 w hw, set64 w hw]
  · show cutB w (IntKind.i64.wrap ((BitVec.ofInt 64 a ^^^ BitVec.ofInt 64 b).toNat : Int)) = _
    rw [cutB_wrap w hw, cutB_nat w, BitVec.setWidth_xor, set64 w hw, set64 w hw]
/-- As an unsigned number. -/
theorem rep_u64 {w : Nat} (x : BitVec w) (hw : w ≤ 64) : IntKind.u64.wrap (repB x) = (x.toNat : Int) := by
  rw [IntKind.wrap_u64]
  unfold repB
  split
  · rename_i h
    subst h
    rw [BitVec.toInt_eq_toNat_bmod, Int.bmod_def]
    have := x.isLt
    split <;> omega
  · have h1 := x.isLt
    have h2 : 2 ^ w ≤ 2 ^ 64 := Nat.pow_le_pow_right (by decide) (by omega)
    omega
theorem rep_small {w : Nat} (hw : w ≠ 64) {v : Nat} (h : v < 2 ^ w) : repB (cutB w (v : Int)) = (v : Int) := by
  unfold repB cutB
  rw [if_neg hw, BitVec.ofInt_natCast, BitVec.toNat_ofNat, Nat.mod_eq_of_lt h]
/-- The lowest bits of a number, as Go's Cut tells them. -/
theorem cut_mask {w : Nat} (hw : w < 64) (a : Int) : bits .and .i64 a (2 ^ w - 1) = repB (cutB w a) := by
  have hc := (cutB_bits w (by omega) a (2 ^ w - 1)).1
  have hp : 1 ≤ 2 ^ w := Nat.one_le_two_pow
  have hq : 2 ^ w ≤ 2 ^ 63 := Nat.pow_le_pow_right (by decide) (by omega)
  have hn : (2 : Int) ^ w - 1 = ((2 ^ w - 1 : Nat) : Int) := by
    rw [Int.natCast_sub hp]; simp
  have hm : cutB w (2 ^ w - 1) = BitVec.allOnes w := by
    unfold cutB
    rw [hn, BitVec.ofInt_natCast]
    apply BitVec.eq_of_toNat_eq
    rw [BitVec.toNat_ofNat, BitVec.toNat_allOnes]
    exact Nat.mod_eq_of_lt (by omega)
  rw [hm, BitVec.and_allOnes] at hc
  have hb : bits .and .i64 a (2 ^ w - 1) = (((BitVec.ofInt 64 a &&& BitVec.ofInt 64 (2 ^ w - 1)).toNat : Nat) : Int) ∧ (BitVec.ofInt 64 a &&& BitVec.ofInt 64 (2 ^ w - 1)).toNat < 2 ^ w := by
    have h1 : (BitVec.ofInt 64 a &&& BitVec.ofInt 64 (2 ^ w - 1)).toNat ≤ 2 ^ w - 1 := by
      rw [BitVec.toNat_and]
      refine Nat.le_trans Nat.and_le_right ?_
      rw [hn, BitVec.ofInt_natCast, BitVec.toNat_ofNat]
      exact Nat.mod_le _ _
    refine ⟨?_, by omega⟩
    show IntKind.i64.wrap ((BitVec.ofInt 64 a &&& BitVec.ofInt 64 (2 ^ w - 1)).toNat : Int) = _
    rw [IntKind.wrap_i64]
    omega
  rw [← hc]
  obtain ⟨h1, h2⟩ := hb
  rw [h1]
  exact (rep_small (by omega) h2).symm
/-- The whole of a number of 64 bits. -/
theorem cut_whole {a : Int} (h1 : -9223372036854775808 ≤ a) (h2 : a < 9223372036854775808) : repB (cutB 64 a) = a := by
  unfold repB cutB
  rw [if_pos rfl, BitVec.toInt_ofInt, Int.bmod_def]
  split <;> omega
/-- Unsigned quotients and rests. -/
theorem cutB_div {w : Nat} (x y : BitVec w) : cutB w ((x.toNat / y.toNat : Nat) : Int) = x / y := by
  unfold cutB
  rw [BitVec.ofInt_natCast]
  apply BitVec.eq_of_toNat_eq
  rw [BitVec.toNat_ofNat, BitVec.toNat_udiv]
  exact Nat.mod_eq_of_lt (Nat.lt_of_le_of_lt (Nat.div_le_self _ _) x.isLt)
theorem cutB_rem {w : Nat} (x y : BitVec w) : cutB w ((x.toNat % y.toNat : Nat) : Int) = x % y := by
  unfold cutB
  rw [BitVec.ofInt_natCast]
  apply BitVec.eq_of_toNat_eq
  rw [BitVec.toNat_ofNat, BitVec.toNat_umod]
  exact Nat.mod_eq_of_lt (Nat.lt_of_le_of_lt (Nat.mod_le _ _) x.isLt)
/-- All bits turned. -/
theorem cutB_not (w : Nat) (a : Int) : cutB w (-a - 1) = ~~~ cutB w a := by
  rw [cutB_sub]
  have h : cutB w (-a) = - cutB w a := BitVec.ofInt_neg
  have h1 : cutB w 1 = 1#w := rfl
  rw [h, h1, BitVec.neg_eq_not_add, BitVec.add_sub_cancel]
/-- Operations go together as numbers do. -/
theorem and_or_xor {w : Nat} (x y : BitVec w) : (x &&& y) ||| (x ^^^ y) = x ||| y := by
  apply BitVec.eq_of_getLsbD_eq
  intro i _
  simp only [BitVec.getLsbD_or, BitVec.getLsbD_and, BitVec.getLsbD_xor]
  cases x.getLsbD i <;> cases y.getLsbD i <;> rfl
theorem xor_back {w : Nat} (x y : BitVec w) : (x ^^^ y) ^^^ y = x := by
  rw [BitVec.xor_assoc, BitVec.xor_self, BitVec.xor_zero]
theorem sub_not {w : Nat} (x y : BitVec w) : x - y = (x + ~~~ y) + 1#w := by
  rw [BitVec.sub_eq_add_neg, BitVec.neg_eq_not_add, BitVec.add_assoc]
theorem div_rem {w : Nat} (x y : BitVec w) : x / y * y + x % y = x := by
  apply BitVec.eq_of_toNat_eq
  rw [BitVec.toNat_add, BitVec.toNat_mul, BitVec.toNat_udiv, BitVec.toNat_umod]
  have h := Nat.div_add_mod' x.toNat y.toNat
  have h2 := x.isLt
  rw [Nat.mod_add_mod, h, Nat.mod_eq_of_lt h2]
theorem rem_lt {w : Nat} (x y : BitVec w) (h : y ≠ 0#w) : (x % y).toNat < y.toNat := by
  rw [BitVec.toNat_umod]
  apply Nat.mod_lt
  rcases Nat.eq_zero_or_pos y.toNat with h0 | h0
  · exact absurd (BitVec.eq_of_toNat_eq (by rw [h0]; rfl)) h
  · exact h0
/-- Doubled again and again. -/
def dblB {w : Nat} (x : BitVec w) : Nat → BitVec w
  | 0 => x
  | k + 1 => dblB x k + dblB x k
theorem dblB_shl {w : Nat} (x : BitVec w) : ∀ k, dblB x k = x <<< k
  | 0 => by simp [dblB]
  | k + 1 => by
    unfold dblB
    rw [dblB_shl x k, BitVec.shiftLeft_add]
    generalize x <<< k = z
    apply BitVec.eq_of_toNat_eq
    rw [BitVec.toNat_add, BitVec.toNat_shiftLeft, Nat.shiftLeft_eq]
    congr 1
    omega
theorem shl_out {w : Nat} (x : BitVec w) {k : Nat} (h : w ≤ k) : x <<< k = 0#w := by
  apply BitVec.eq_of_toNat_eq
  rw [BitVec.toNat_shiftLeft, Nat.shiftLeft_eq]
  obtain ⟨m, rfl⟩ : ∃ m, k = w + m := ⟨k - w, by omega⟩
  rw [Nat.pow_add, ← Nat.mul_assoc, Nat.mul_right_comm, Nat.mul_mod_left]
  rfl
theorem shr_out {w : Nat} (x : BitVec w) {k : Nat} (h : w ≤ k) : x >>> k = 0#w := by
  apply BitVec.eq_of_toNat_eq
  rw [BitVec.toNat_ushiftRight, Nat.shiftRight_eq_div_pow]
  have h1 := x.isLt
  have h2 : 2 ^ w ≤ 2 ^ k := Nat.pow_le_pow_right (by decide) h
  rw [Nat.div_eq_of_lt (by omega)]
  rfl
end Go.Proofs.Ytpekbaikbgcnmaa
