/-
  The reference's Do: it answers as virrun's.
-/
import Derived.Test.YtpekbaikbgcnmaaVrH
namespace Go.Proofs.Ytpekbaikbgcnmaa
open Go.RowKit Go.Maps
/-! Of values of a width, as ints (text only). -/
theorem rep_mod {w : Nat} (y : BitVec w) : repB y % 64 = ((y.toNat % 64 : Nat) : Int) := by
  unfold repB
  split
  · rename_i h
    subst h
    rw [BitVec.toInt_eq_toNat_bmod, Int.bmod_def]
    have := y.isLt
    split <;> omega
  · omega
theorem rep_nul {w : Nat} (y : BitVec w) : repB y = 0 ↔ y.toNat = 0 := by
  unfold repB
  split
  · rename_i h
    subst h
    rw [BitVec.toInt_eq_toNat_bmod, Int.bmod_def]
    have := y.isLt
    split <;> omega
  · omega
theorem rep_shl {w : Nat} (x : BitVec w) (k : Nat) : cutB w (repB x * 2 ^ k) = x <<< k := by
  rw [cutB_mul, cutB_rep, ← cutB_shl x k, cutB_mul, cutB_toNat]
/-- What the reference reckons, ahead of its last Cut. -/
def refV (k : Nat) (a b : Int) : Int :=
  match k with
  | 0 => wrap64 (a + b)
  | 1 => wrap64 (a - b)
  | 2 => wrap64 (a * b)
  | 3 => bits .and .i64 a b
  | 4 => bits .or .i64 a b
  | 5 => bits .xor .i64 a b
  | 6 => wrap64 (a * 2 ^ (b % 64).toNat)
  | 7 => wrap64 (IntKind.u64.wrap a / 2 ^ (b % 64).toNat)
  | 8 => wrap64 (IntKind.u64.wrap a / IntKind.u64.wrap b)
  | 9 => wrap64 (IntKind.u64.wrap a % IntKind.u64.wrap b)
  | 10 => if IntKind.u64.wrap a < IntKind.u64.wrap b then 1 else 0
  | 11 => if a = b then 1 else 0
  | _ => 0
theorem refV_B (k : Nat) (hk : k < 12) {w : Nat} (hw : w ≤ 64) (x y : BitVec w) (hz : k = 8 ∨ k = 9 → y.toNat ≠ 0) : fnB k x y = some (cutB w (refV k (repB x) (repB y))) := by
  have hcases : k = 0 ∨ k = 1 ∨ k = 2 ∨ k = 3 ∨ k = 4 ∨ k = 5 ∨ k = 6 ∨ k = 7 ∨ k = 8 ∨ k = 9 ∨ k = 10 ∨ k = 11 := by omega
  have hwr := fun z => (IntWalk.i64_left z) ▸ cutB_wrap w hw z
  have hm := rep_mod y
  rcases hcases with rfl | rfl | rfl | rfl | rfl | rfl | rfl | rfl | rfl | rfl | rfl | rfl
  · show some (x + y) = some (cutB w (wrap64 _)); rw [hwr, cutB_add, cutB_rep, cutB_rep]
  · show some (x - y) = some (cutB w (wrap64 _)); rw [hwr, cutB_sub, cutB_rep, cutB_rep]
  · show some (x * y) = some (cutB w (wrap64 _)); rw [hwr, cutB_mul, cutB_rep, cutB_rep]
  · show some (x &&& y) = some (cutB w (bits .and .i64 _ _)); rw [(cutB_bits w hw _ _).1, cutB_rep, cutB_rep]
  · show some (x ||| y) = some (cutB w (bits .or .i64 _ _)); rw [(cutB_bits w hw _ _).2.1, cutB_rep, cutB_rep]
  · show some (x ^^^ y) = some (cutB w (bits .xor .i64 _ _)); rw [(cutB_bits w hw _ _).2.2, cutB_rep, cutB_rep]
  · show some (x <<< (y.toNat % 64)) = some (cutB w (wrap64 (repB x * 2 ^ (repB y % 64).toNat))); rw [hwr, hm, Int.toNat_natCast, rep_shl]
  · show some (x >>> (y.toNat % 64)) = some (cutB w (wrap64 (IntKind.u64.wrap (repB x) / 2 ^ (repB y % 64).toNat))); rw [hwr, hm, Int.toNat_natCast, rep_u64 x hw, cutB_shr]
  · show (if y.toNat = 0 then none else some (x / y)) = some (cutB w (wrap64 (IntKind.u64.wrap (repB x) / IntKind.u64.wrap (repB y))))
    rw [if_neg (hz (.inl rfl)), hwr, rep_u64 x hw, rep_u64 y hw, ← cutB_div x y]; simp
  · show (if y.toNat = 0 then none else some (x % y)) = some (cutB w (wrap64 (IntKind.u64.wrap (repB x) % IntKind.u64.wrap (repB y))))
    rw [if_neg (hz (.inr rfl)), hwr, rep_u64 x hw, rep_u64 y hw, ← cutB_rem x y]; simp
  · show some (cutB w (if x.toNat < y.toNat then 1 else 0)) = some (cutB w (if IntKind.u64.wrap (repB x) < IntKind.u64.wrap (repB y) then 1 else 0))
    rw [rep_u64 x hw, rep_u64 y hw]; simp only [Int.ofNat_lt]
  · show some (cutB w (if x.toNat = y.toNat then 1 else 0)) = some (cutB w (if repB x = repB y then 1 else 0))
    simp only [rep_inj, BitVec.toNat_eq]
theorem doS_ref {s : ByteArray} {k : Nat} (hs : opNo s = some k) (hk : k < 12) (width x y : Int) (hz : k = 8 ∨ k = 9 → cutS y width ≠ 0) :
    doS s width [x, y] = (cutS (refV k (cutS x width) (cutS y width)) width, true) := by
  have hw := widN_le width
  have ha0 : [x, y].length = arityK k := by unfold arityK; rw [if_neg (by omega)]; rfl
  unfold doS doW
  rw [hs]
  simp only [if_pos ha0]
  rw [show [x, y].getD 0 0 = x from rfl, show [x, y].getD 1 0 = y from rfl, refV_B k hk hw _ _ (fun h => fun e => hz h ((rep_nul _).2 e))]
  rfl
theorem doS_nul {s : ByteArray} {k : Nat} (hs : opNo s = some k) (hk : k = 8 ∨ k = 9) (width x y : Int) (hz : cutS y width = 0) : doS s width [x, y] = (0, false) := by
  have ha0 : [x, y].length = arityK k := by unfold arityK; rw [if_neg (by omega)]; rfl
  have h0 : (cutB (widN width) y).toNat = 0 := (rep_nul _).1 hz
  unfold doS doW
  rw [hs]
  simp only [if_pos ha0]
  rw [show [x, y].getD 0 0 = x from rfl, show [x, y].getD 1 0 = y from rfl]
  rcases hk with rfl | rfl
  · rw [show fnB 8 (cutB (widN width) x) (cutB (widN width) y) = none from if_pos h0]
  · rw [show fnB 9 (cutB (widN width) x) (cutB (widN width) y) = none from if_pos h0]
theorem cutS_not (s : ByteArray) (hs : opNo s = some 12) (width x : Int) : doS s width [x] = (cutS (-(cutS x width) - 1) width, true) := by
  unfold doS doW
  rw [hs]
  show (repB (~~~ cutB (widN width) x), true) = _
  unfold cutS
  rw [cutB_not, cutB_rep]
end Go.Proofs.Ytpekbaikbgcnmaa
