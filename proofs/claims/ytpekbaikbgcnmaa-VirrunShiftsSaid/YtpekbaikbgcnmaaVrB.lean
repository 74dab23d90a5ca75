/-
  What the operations of virrun answer, as bits of a width (text only).
-/
import Derived.Test.YtpekbaikbgcnmaaVrA
namespace Go.Proofs.Ytpekbaikbgcnmaa
/-- The width that is meant: from 1 to 64. -/
def widN (w : Int) : Nat := (min (max w 1) 64).toNat
theorem widN_pos (w : Int) : 1 ≤ widN w := by unfold widN; omega
theorem widN_le (w : Int) : widN w ≤ 64 := by unfold widN; omega
theorem widN_cast (w : Int) : (widN w : Int) = min (max w 1) 64 := by unfold widN; omega
def cutS (n w : Int) : Int := repB (cutB (widN w) n)
theorem cutB_u64 (w : Nat) (hw : w ≤ 64) (z : Int) : cutB w (IntKind.u64.wrap z) = cutB w z := by
  rw [← set64 w hw, ← set64 w hw z]
  congr 1
  apply BitVec.eq_of_toNat_eq
  rw [BitVec.toNat_ofInt, BitVec.toNat_ofInt, IntKind.wrap_u64]
  congr 1
  show z % 18446744073709551616 % 18446744073709551616 = z % 18446744073709551616
  omega
/-- A number below 2^64 of which just the bits of a width are set, turned to an int. -/
theorem wrap_rep {w : Nat} (hw : w ≤ 64) {v : Nat} (h : v < 2 ^ w) : IntKind.i64.wrap (v : Int) = repB (cutB w (v : Int)) := by
  by_cases h64 : w = 64
  · subst h64
    unfold repB cutB
    rw [if_pos rfl, BitVec.toInt_ofInt, Int.bmod_def, IntKind.wrap_i64]
    simp only [Nat.reducePow]
    have : v < 18446744073709551616 := h
    split <;> omega
  · rw [rep_small h64 h, IntKind.wrap_i64]
    have h2 : 2 ^ w ≤ 2 ^ 63 := Nat.pow_le_pow_right (by decide) (by omega)
    omega
/-- What the program's cut reckons. -/
theorem cut_shifts (n : Int) {w : Nat} (hw1 : 1 ≤ w) (hw : w ≤ 64) : IntKind.i64.wrap (IntKind.u64.wrap (IntKind.u64.wrap n * 2 ^ (64 - w)) / 2 ^ (64 - w)) = repB (cutB w n) := by
  obtain ⟨m, hm⟩ : ∃ m : Nat, IntKind.u64.wrap n = (m : Int) := ⟨(IntKind.u64.wrap n).toNat, by rw [IntKind.wrap_u64]; omega⟩
  have hc : cutB w n = cutB w (m : Int) := by rw [← hm, cutB_u64 w hw]
  have hp : 2 ^ w * 2 ^ (64 - w) = 2 ^ 64 := by rw [← Nat.pow_add]; congr 1; omega
  have e1 : IntKind.u64.wrap ((m : Int) * 2 ^ (64 - w)) / 2 ^ (64 - w) = ((m % 2 ^ w : Nat) : Int) := by
    rw [IntKind.wrap_u64]
    have e2 : ((m : Int) * 2 ^ (64 - w)) % 18446744073709551616 = ((m * 2 ^ (64 - w) % 2 ^ 64 : Nat) : Int) := by simp
    rw [e2, ← hp, Nat.mul_mod_mul_right]
    have e3 : ((m % 2 ^ w * 2 ^ (64 - w) : Nat) : Int) / 2 ^ (64 - w) = ((m % 2 ^ w * 2 ^ (64 - w) / 2 ^ (64 - w) : Nat) : Int) := by simp
    rw [e3, Nat.mul_div_cancel _ (Nat.pow_pos (by decide))]
  rw [hm, e1, wrap_rep hw (Nat.mod_lt _ (Nat.pow_pos (by decide))), hc]
  congr 1
  unfold cutB
  rw [BitVec.ofInt_natCast, BitVec.ofInt_natCast]
  apply BitVec.eq_of_toNat_eq
  rw [BitVec.toNat_ofNat, BitVec.toNat_ofNat, Nat.mod_mod]
/-- The operations by their numbers. -/
def opNames : List ByteArray := [⟨#[97, 100, 100]⟩, ⟨#[115, 117, 98]⟩, ⟨#[109, 117, 108]⟩, ⟨#[97, 110, 100]⟩, ⟨#[111, 114]⟩, ⟨#[120, 111, 114]⟩, ⟨#[115, 104, 108]⟩, ⟨#[115, 104, 114]⟩, ⟨#[100, 105, 118]⟩, ⟨#[114, 101, 109]⟩, ⟨#[108, 116]⟩, ⟨#[101, 113]⟩, ⟨#[110, 111, 116]⟩]
def opNo (s : ByteArray) : Option Nat := opNames.findIdx? (fun x => decide (x = s))
def arityK (k : Nat) : Nat := if k = 12 then 1 else 2
def fnB (k : Nat) {w : Nat} (x y : BitVec w) : Option (BitVec w) :=
  match k with
  | 0 => some (x + y)
  | 1 => some (x - y)
  | 2 => some (x * y)
  | 3 => some (x &&& y)
  | 4 => some (x ||| y)
  | 5 => some (x ^^^ y)
  | 6 => some (x <<< (y.toNat % 64))
  | 7 => some (x >>> (y.toNat % 64))
  | 8 => if y.toNat = 0 then none else some (x / y)
  | 9 => if y.toNat = 0 then none else some (x % y)
  | 10 => some (cutB w (if x.toNat < y.toNat then 1 else 0))
  | 11 => some (cutB w (if x.toNat = y.toNat then 1 else 0))
  | 12 => some (~~~ x)
  | _ => none
/-- The same of numbers below 2^64. -/
def fnU (k : Nat) (a b : Int) : Int × Bool :=
  match k with
  | 0 => (IntKind.u64.wrap (a + b), true)
  | 1 => (IntKind.u64.wrap (a - b), true)
  | 2 => (IntKind.u64.wrap (a * b), true)
  | 3 => (bits .and .u64 a b, true)
  | 4 => (bits .or .u64 a b, true)
  | 5 => (bits .xor .u64 a b, true)
  | 6 => (IntKind.u64.wrap (a * 2 ^ (b.toNat % 64)), true)
  | 7 => (a / 2 ^ (b.toNat % 64), true)
  | 8 => if b = 0 then (0, false) else (a / b, true)
  | 9 => if b = 0 then (0, false) else (a % b, true)
  | 10 => (if a < b then 1 else 0, true)
  | 11 => (if a = b then 1 else 0, true)
  | 12 => (bits .xor .u64 IntKind.u64.max a, true)
  | _ => (0, false)
def doW (s : ByteArray) (w : Nat) (l : List Int) : Int × Bool :=
  match opNo s with
  | none => (0, false)
  | some k => if l.length = arityK k then
      match fnB k (cutB w (l.getD 0 0)) (cutB w (l.getD 1 0)) with
      | some z => (repB z, true)
      | none => (0, false)
    else (0, false)
def doS (s : ByteArray) (width : Int) (l : List Int) : Int × Bool := doW s (widN width) l
theorem cutB_toNat {w : Nat} (x : BitVec w) : cutB w (x.toNat : Int) = x := by
  unfold cutB
  rw [BitVec.ofInt_natCast, BitVec.ofNat_toNat, BitVec.setWidth_eq]
theorem cutB_ubits (w : Nat) (hw : w ≤ 64) (a b : Int) : cutB w (bits .and .u64 a b) = cutB w a &&& cutB w b ∧ cutB w (bits .or .u64 a b) = cutB w a ||| cutB w b ∧ cutB w (bits .xor .u64 a b) = cutB w a ^^^ cutB w b := by
  refine ⟨?_, ?_, ?_⟩
  · show cutB w (IntKind.u64.wrap ((BitVec.ofInt 64 a &&& BitVec.ofInt 64 b).toNat : Int)) = _
    rw [cutB_u64 w hw, cutB_nat w, BitVec.setWidth_and, set64 w hw, set64 w hw]
  · show cutB w (IntKind.u64.wrap ((BitVec.ofInt 64 a ||| BitVec.ofInt 64 b).toNat : Int)) = _
    rw [cutB_u64 w hw, cutB_nat w, BitVec.setWidth_or, set64 w hw, set64 w hw]
  · show cutB w (IntKind.u64.wrap ((BitVec.ofInt 64 a ^^^ BitVec.ofInt 64 b).toNat : Int)) = _
    rw [cutB_u64 w hw, cutB_nat w, BitVec.setWidth_xor, set64 w hw, set64 w hw]
theorem cutB_max (w : Nat) (hw : w ≤ 64) : cutB w IntKind.u64.max = BitVec.allOnes w := by
  have e : IntKind.u64.max = IntKind.u64.wrap (-0 - 1) := by rfl
  have e0 : cutB w 0 = 0#w := BitVec.ofInt_natCast w 0
  rw [e, cutB_u64 w hw, cutB_not, e0, BitVec.not_zero]
theorem cutB_shl {w : Nat} (x : BitVec w) (k : Nat) : cutB w ((x.toNat : Int) * 2 ^ k) = x <<< k := by
  have e : ((x.toNat : Int) * 2 ^ k) = ((x.toNat * 2 ^ k : Nat) : Int) := by simp
  rw [e]
  unfold cutB
  rw [BitVec.ofInt_natCast]
  apply BitVec.eq_of_toNat_eq
  rw [BitVec.toNat_ofNat, BitVec.toNat_shiftLeft, Nat.shiftLeft_eq]
theorem cutB_shr {w : Nat} (x : BitVec w) (k : Nat) : cutB w ((x.toNat : Int) / 2 ^ k) = x >>> k := by
  have e : ((x.toNat : Int) / 2 ^ k) = ((x.toNat / 2 ^ k : Nat) : Int) := by simp
  rw [e]
  unfold cutB
  rw [BitVec.ofInt_natCast]
  apply BitVec.eq_of_toNat_eq
  rw [BitVec.toNat_ofNat, BitVec.toNat_ushiftRight, Nat.shiftRight_eq_div_pow]
  exact Nat.mod_eq_of_lt (Nat.lt_of_le_of_lt (Nat.div_le_self _ _) x.isLt)
theorem rep_zero (w : Nat) : repB (cutB w 0) = 0 := by
  have e : cutB w 0 = 0#w := by unfold cutB; exact BitVec.ofInt_natCast w 0
  rw [e]
  unfold repB
  split <;> simp
/-- What the closures reckon, cut, is what the bits say. -/
theorem fnU_B (k : Nat) (hk : k < 13) {w : Nat} (hw : w ≤ 64) (x y : BitVec w) :
    fnB k x y = if (fnU k x.toNat y.toNat).2 then some (cutB w (fnU k x.toNat y.toNat).1) else none := by
  have ha : cutB w (x.toNat : Int) = x := cutB_toNat x
  have hb : cutB w (y.toNat : Int) = y := cutB_toNat y
  have hcases : k = 0 ∨ k = 1 ∨ k = 2 ∨ k = 3 ∨ k = 4 ∨ k = 5 ∨ k = 6 ∨ k = 7 ∨ k = 8 ∨ k = 9 ∨ k = 10 ∨ k = 11 ∨ k = 12 := by omega
  rcases hcases with rfl | rfl | rfl | rfl | rfl | rfl | rfl | rfl | rfl | rfl | rfl | rfl | rfl
  · show some (x + y) = some (cutB w (IntKind.u64.wrap _)); rw [cutB_u64 w hw, cutB_add, ha, hb]
  · show some (x - y) = some (cutB w (IntKind.u64.wrap _)); rw [cutB_u64 w hw, cutB_sub, ha, hb]
  · show some (x * y) = some (cutB w (IntKind.u64.wrap _)); rw [cutB_u64 w hw, cutB_mul, ha, hb]
  · show some (x &&& y) = some (cutB w (bits .and .u64 _ _)); rw [(cutB_ubits w hw _ _).1, ha, hb]
  · show some (x ||| y) = some (cutB w (bits .or .u64 _ _)); rw [(cutB_ubits w hw _ _).2.1, ha, hb]
  · show some (x ^^^ y) = some (cutB w (bits .xor .u64 _ _)); rw [(cutB_ubits w hw _ _).2.2, ha, hb]
  · show some (x <<< (y.toNat % 64)) = some (cutB w (IntKind.u64.wrap _)); rw [cutB_u64 w hw, Int.toNat_natCast, cutB_shl]
  · show some (x >>> (y.toNat % 64)) = some (cutB w ((x.toNat : Int) / 2 ^ ((y.toNat : Int).toNat % 64))); rw [Int.toNat_natCast, cutB_shr]
  · show (if y.toNat = 0 then none else some (x / y)) = _
    by_cases h : y.toNat = 0
    · rw [if_pos h]; unfold fnU; simp [h]
    · have h' : ¬ ((y.toNat : Nat) : Int) = 0 := by omega
      rw [if_neg h]; unfold fnU; simp only [if_neg h', if_true]
      rw [← cutB_div x y]; simp
  · show (if y.toNat = 0 then none else some (x % y)) = _
    by_cases h : y.toNat = 0
    · rw [if_pos h]; unfold fnU; simp [h]
    · have h' : ¬ ((y.toNat : Nat) : Int) = 0 := by omega
      rw [if_neg h]; unfold fnU; simp only [if_neg h', if_true]
      rw [← cutB_rem x y]; simp
  · show some (cutB w (if x.toNat < y.toNat then 1 else 0)) = some (cutB w (if (x.toNat : Int) < (y.toNat : Int) then 1 else 0))
    simp only [Int.ofNat_lt]
  · show some (cutB w (if x.toNat = y.toNat then 1 else 0)) = some (cutB w (if (x.toNat : Int) = (y.toNat : Int) then 1 else 0))
    simp only [Int.ofNat_inj]
  · show some (~~~ x) = some (cutB w (bits .xor .u64 IntKind.u64.max _)); rw [(cutB_ubits w hw _ _).2.2, cutB_max w hw, ha, BitVec.allOnes_xor]
theorem fnU_no (k : Nat) (a b : Int) (h : (fnU k a b).2 = false) : (fnU k a b).1 = 0 := by
  by_cases hk : k < 13
  · have hcases : k = 0 ∨ k = 1 ∨ k = 2 ∨ k = 3 ∨ k = 4 ∨ k = 5 ∨ k = 6 ∨ k = 7 ∨ k = 8 ∨ k = 9 ∨ k = 10 ∨ k = 11 ∨ k = 12 := by omega
    rcases hcases with rfl | rfl | rfl | rfl | rfl | rfl | rfl | rfl | rfl | rfl | rfl | rfl | rfl
    all_goals first | (exact absurd h (by decide)) | (simp only [fnU] at h ⊢; split at h <;> simp_all) | (simp [fnU] at h)
  · match k, hk with
    | k + 13, _ => rfl
/-- What do answers where the operation is there and has as many values: of the closures' answer. -/
theorem doS_fn {s : ByteArray} {k : Nat} (hs : opNo s = some k) (hk : k < 13) (width : Int) (l : List Int) (hl : l.length = arityK k) :
    (cutS (IntKind.i64.wrap (fnU k (IntKind.u64.wrap (cutS (l.getD 0 0) width)) (if k = 12 then 0 else IntKind.u64.wrap (cutS (l.getD 1 0) width))).1) width, (fnU k (IntKind.u64.wrap (cutS (l.getD 0 0) width)) (if k = 12 then 0 else IntKind.u64.wrap (cutS (l.getD 1 0) width))).2) = doS s width l := by
  have hw := widN_le width
  have e0 : (if k = 12 then (0 : Int) else IntKind.u64.wrap (cutS (l.getD 1 0) width)) = IntKind.u64.wrap (cutS (l.getD 1 0) width) := by
    split
    · rename_i h
      subst h
      have : l.getD 1 0 = 0 := by
        match l, hl with
        | [a], _ => rfl
      rw [this]
      unfold cutS
      rw [rep_zero]
      rfl
    · rfl
  rw [e0]
  unfold doS doW
  rw [hs]
  simp only [if_pos hl]
  unfold cutS
  rw [rep_u64 _ hw, rep_u64 _ hw, fnU_B k hk hw]
  generalize hg : fnU k ↑(cutB (widN width) (l.getD 0 0)).toNat ↑(cutB (widN width) (l.getD 1 0)).toNat = g
  rw [cutB_wrap _ hw]
  cases h2 : g.2
  · have := fnU_no k _ _ (by rw [hg]; exact h2)
    rw [hg] at this
    rw [this, rep_zero]
    rfl
  · rfl
end Go.Proofs.Ytpekbaikbgcnmaa
