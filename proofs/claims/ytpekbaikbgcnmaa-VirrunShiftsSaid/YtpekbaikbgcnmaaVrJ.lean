/-
  The reference's Do, walked.
-/
import Derived.Test.YtpekbaikbgcnmaaVrI
namespace Go.Proofs.Ytpekbaikbgcnmaa
open Go.RowKit Go.Maps
def InR (v : Int) : Prop := -9223372036854775808 ≤ v ∧ v < 9223372036854775808
theorem inR_wrap (z : Int) : InR (wrap64 z) := by unfold InR wrap64; omega
theorem inR_bits (op : BinOp) (a b : Int) : InR (bits op .i64 a b) := by
  have e : ∀ z, InR (IntKind.i64.wrap z) := fun z => by rw [IntKind.wrap_i64]; unfold InR; omega
  unfold bits
  split <;> exact e _
theorem inR_cut (n w : Int) : InR (cutS n w) := rep_range _ (widN_le w)
theorem bits_not (a : Int) (w : Int) : cutS (bits .xor .i64 (-1) a) w = cutS (-a - 1) w := by
  have e1 : cutB (widN w) (-1) = BitVec.allOnes (widN w) := by
    have e : (-1 : Int) = -0 - 1 := rfl
    have e0 : cutB (widN w) 0 = 0#(widN w) := BitVec.ofInt_natCast _ 0
    rw [e, cutB_not, e0, BitVec.not_zero]
  unfold cutS
  rw [(cutB_bits _ (widN_le w) _ _).2.2, cutB_not, e1, BitVec.allOnes_xor]
theorem ret_two {a b : Int} {c d : Bool} (h : a = b) (h2 : c = d) : Ending.returned (.tuple #[.int .i64 a, .bool c]) = .returned (.tuple #[.int .i64 b, .bool d]) := by rw [h, h2]
theorem refDoNo {s : ByteArray} {width : Int} {a : Option Addr} {c : Nat} {l : List Int} {W : World} (hno : ∀ k, opNo s = some k → l.length ≠ arityK k) :
    Calls Try.prog 8 #[.string s, .int .i64 width, .slice a l.length c] W fun e w' => e = .returned (.tuple #[.int .i64 0, .bool false]) ∧ W = w' := by
  have h : arityS s = 0 ∨ ¬ (l.length : Int) = arityS s := by
    unfold arityS
    cases hk : opNo s with
    | none => exact .inl rfl
    | some k => exact .inr (fun e => hno k hk (Int.ofNat_inj.1 e))
  clear hno
  have K := fun w => refArity s w
  generalize arityS s = q at *
  generalize l.length = n at *
  by_cases h0 : q = 0
  · subst h0
    clear h
    go_enter Try.func8, Try.ntmps8
    go_wp2_with (go_at_call 10; refine (K _).mono ?_; rintro e W1 ⟨rfl, rfl⟩)
    go_ret2
    exact ⟨rfl, rfl⟩
  · have h1 : ((n : Int) != q) = true := bne_iff_ne.2 (h.resolve_left h0)
    have h2 : (q == 0) = false := beq_eq_false_iff_ne.2 h0
    clear h h0
    go_enter Try.func8, Try.ntmps8
    go_wp2_with (go_at_call 10; refine (K _).mono ?_; rintro e W1 ⟨rfl, rfl⟩)
    go_ret2
    exact ⟨rfl, rfl⟩
set_option maxRecDepth 100000
set_option maxHeartbeats 8000000
theorem refDoOne {s : ByteArray} {width u x : Int} {b o c : Nat} {W : World} (hu : (width < 1 ∧ u = 1) ∨ (1 ≤ width ∧ u = width)) (hk : opNo s = some 12) (hx : InR x) (hc : W.cell? ⟨b, o, none⟩ = some (.int .i64 x)) :
    Calls Try.prog 8 #[.string s, .int .i64 width, .slice (some ⟨b, o, none⟩) 1 c] W fun e w' => e = .returned (.tuple #[.int .i64 (doS s u [x]).1, .bool (doS s u [x]).2]) ∧ W = w' := by
  have hA : arityS s = 1 := by unfold arityS; rw [hk]; rfl
  have K := fun w => refArity s w
  rw [hA] at K
  rw [cutS_not s hk]
  clear hA hk
  rcases hu with ⟨h, rfl⟩ | ⟨h, rfl⟩
  all_goals
    go_enter Try.func8, Try.ntmps8
    go_wp2_with (first | (go_at_call 10; refine (K _).mono ?_; rintro e W1 ⟨rfl, rfl⟩) | (go_at_call 12; refine (refCut _ _ (by first | assumption | exact inR_wrap _ | exact inR_bits _ _ _) _).mono ?_; rintro e W1 ⟨rfl, rfl⟩))
    go_ret2
    exact ⟨ret_two (bits_not _ _) rfl, rfl⟩
/-- What is known of two values, ahead of a walk. -/
structure Two (x y u A Bv ua ub : Int) (m : Nat) : Prop where
  hA : cutS x u = A
  hB : cutS y u = Bv
  h63 : bits .and .i64 Bv 63 = (m : Int)
  hm64 : m < 64
  hmu : IntKind.u64.wrap (m : Int) = m
  hmin : min m 64 = m
  hmt : (Bv % 64).toNat = m
  hua : IntKind.u64.wrap A = ua
  hub : IntKind.u64.wrap Bv = ub
  ra : 0 ≤ ua ∧ ua < 18446744073709551616
  rb : 0 ≤ ub ∧ ub < 18446744073709551616
  hz : ub = 0 ↔ Bv = 0
theorem inR_one : InR 1 := ⟨by decide, by decide⟩
theorem inR_nul : InR 0 := ⟨by decide, by decide⟩
theorem two_of (x y u : Int) : ∃ A Bv ua ub m, Two x y u A Bv ua ub m := by
  have hrb := inR_cut y u
  have h63 := and63 (cutS y u)
  obtain ⟨m, hm⟩ : ∃ m : Nat, cutS y u % 64 = (m : Int) := ⟨(cutS y u % 64).toNat, by omega⟩
  rw [hm] at h63
  exact ⟨_, _, _, _, m, rfl, rfl, h63, by omega, u64_lt (by omega) (by omega), by omega, by omega, rfl, rfl, u64_rng _, u64_rng _, by rw [IntKind.wrap_u64]; unfold InR at hrb; omega⟩
theorem arity_two {s : ByteArray} {k : Nat} (hk : opNo s = some k) (h12 : k < 12) : arityS s = 2 := by
  unfold arityS
  rw [hk]
  show ((arityK k : Nat) : Int) = 2
  unfold arityK
  rw [if_neg (by omega)]
  rfl
theorem refDo_0 {s : ByteArray} {width u x y : Int} {b o c : Nat} {W : World} (hu : (width < 1 ∧ u = 1) ∨ (1 ≤ width ∧ u = width)) (hk : opNo s = some 0) (hx : InR x) (hy : InR y)
    (hc : W.cell? ⟨b, o, none⟩ = some (.int .i64 x)) (hd : W.cell? ⟨b, o + 1, none⟩ = some (.int .i64 y)) :
    Calls Try.prog 8 #[.string s, .int .i64 width, .slice (some ⟨b, o, none⟩) 2 c] W fun e w' => e = .returned (.tuple #[.int .i64 (doS s u [x, y]).1, .bool (doS s u [x, y]).2]) ∧ W = w' := by
  have K := fun w => refArity s w
  rw [arity_two hk (by decide)] at K
  have hs := (opNo_list hk).2
  simp only [nmOf, opNames, List.getD_cons_zero] at hs
  obtain ⟨A, Bv, ua, ub, m, hT⟩ := two_of x y u
  have hA := hT.hA
  have hB := hT.hB
  have h63 := hT.h63
  have hmu := hT.hmu
  rw [doS_ref hk (by decide) u x y (fun h => by omega), hA, hB]
  have hrv : Hid (refV 0 A Bv = wrap64 (A + Bv)) := Lib.hid (rfl)
  clear hT hk
  rcases hu with ⟨h, rfl⟩ | ⟨h, rfl⟩
  all_goals
    go_enter Try.func8, Try.ntmps8
    go_wp2_with (first | (go_at_call 10; refine (K _).mono ?_; rintro e W1 ⟨rfl, rfl⟩) | (go_at_call 12; refine (refCut _ _ (by first | assumption | exact inR_wrap _ | exact inR_bits _ _ _ | (unfold InR; omega)) _).mono ?_; rintro e W1 ⟨rfl, rfl⟩))
    all_goals
      go_ret2
      exact ⟨ret_two (by first | rfl | (rw [hrv.out]; done) | (rw [hrv.out, if_pos (by omega)]; done) | (rw [hrv.out, if_neg (by omega)]; done) | (rw [hrv.out, if_pos (beq_iff_eq.1 (by assumption))]; done) | (rw [hrv.out, if_neg (beq_eq_false_iff_ne.1 (by assumption))]; done)) rfl, rfl⟩
theorem refDo_1 {s : ByteArray} {width u x y : Int} {b o c : Nat} {W : World} (hu : (width < 1 ∧ u = 1) ∨ (1 ≤ width ∧ u = width)) (hk : opNo s = some 1) (hx : InR x) (hy : InR y)
    (hc : W.cell? ⟨b, o, none⟩ = some (.int .i64 x)) (hd : W.cell? ⟨b, o + 1, none⟩ = some (.int .i64 y)) :
    Calls Try.prog 8 #[.string s, .int .i64 width, .slice (some ⟨b, o, none⟩) 2 c] W fun e w' => e = .returned (.tuple #[.int .i64 (doS s u [x, y]).1, .bool (doS s u [x, y]).2]) ∧ W = w' := by
  have K := fun w => refArity s w
  rw [arity_two hk (by decide)] at K
  have hs := (opNo_list hk).2
  simp only [nmOf, opNames, List.getD_cons_zero, List.getD_cons_succ] at hs
  obtain ⟨A, Bv, ua, ub, m, hT⟩ := two_of x y u
  have hA := hT.hA
  have hB := hT.hB
  have h63 := hT.h63
  have hmu := hT.hmu
  rw [doS_ref hk (by decide) u x y (fun h => by omega), hA, hB]
  have hrv : Hid (refV 1 A Bv = wrap64 (A - Bv)) := Lib.hid (rfl)
  clear hT hk
  rcases hu with ⟨h, rfl⟩ | ⟨h, rfl⟩
  all_goals
    go_enter Try.func8, Try.ntmps8
    go_wp2_with (first | (go_at_call 10; refine (K _).mono ?_; rintro e W1 ⟨rfl, rfl⟩) | (go_at_call 12; refine (refCut _ _ (by first | assumption | exact inR_wrap _ | exact inR_bits _ _ _ | (unfold InR; omega)) _).mono ?_; rintro e W1 ⟨rfl, rfl⟩))
    all_goals
      go_ret2
      exact ⟨ret_two (by first | rfl | (rw [hrv.out]; done) | (rw [hrv.out, if_pos (by omega)]; done) | (rw [hrv.out, if_neg (by omega)]; done) | (rw [hrv.out, if_pos (beq_iff_eq.1 (by assumption))]; done) | (rw [hrv.out, if_neg (beq_eq_false_iff_ne.1 (by assumption))]; done)) rfl, rfl⟩
theorem refDo_2 {s : ByteArray} {width u x y : Int} {b o c : Nat} {W : World} (hu : (width < 1 ∧ u = 1) ∨ (1 ≤ width ∧ u = width)) (hk : opNo s = some 2) (hx : InR x) (hy : InR y)
    (hc : W.cell? ⟨b, o, none⟩ = some (.int .i64 x)) (hd : W.cell? ⟨b, o + 1, none⟩ = some (.int .i64 y)) :
    Calls Try.prog 8 #[.string s, .int .i64 width, .slice (some ⟨b, o, none⟩) 2 c] W fun e w' => e = .returned (.tuple #[.int .i64 (doS s u [x, y]).1, .bool (doS s u [x, y]).2]) ∧ W = w' := by
  have K := fun w => refArity s w
  rw [arity_two hk (by decide)] at K
  have hs := (opNo_list hk).2
  simp only [nmOf, opNames, List.getD_cons_zero, List.getD_cons_succ] at hs
  obtain ⟨A, Bv, ua, ub, m, hT⟩ := two_of x y u
  have hA := hT.hA
  have hB := hT.hB
  have h63 := hT.h63
  have hmu := hT.hmu
  rw [doS_ref hk (by decide) u x y (fun h => by omega), hA, hB]
  have hrv : Hid (refV 2 A Bv = wrap64 (A * Bv)) := Lib.hid (rfl)
  clear hT hk
  rcases hu with ⟨h, rfl⟩ | ⟨h, rfl⟩
  all_goals
    go_enter Try.func8, Try.ntmps8
    go_wp2_with (first | (go_at_call 10; refine (K _).mono ?_; rintro e W1 ⟨rfl, rfl⟩) | (go_at_call 12; refine (refCut _ _ (by first | assumption | exact inR_wrap _ | exact inR_bits _ _ _ | (unfold InR; omega)) _).mono ?_; rintro e W1 ⟨rfl, rfl⟩))
    all_goals
      go_ret2
      exact ⟨ret_two (by first | rfl | (rw [hrv.out]; done) | (rw [hrv.out, if_pos (by omega)]; done) | (rw [hrv.out, if_neg (by omega)]; done) | (rw [hrv.out, if_pos (beq_iff_eq.1 (by assumption))]; done) | (rw [hrv.out, if_neg (beq_eq_false_iff_ne.1 (by assumption))]; done)) rfl, rfl⟩
theorem refDo_3 {s : ByteArray} {width u x y : Int} {b o c : Nat} {W : World} (hu : (width < 1 ∧ u = 1) ∨ (1 ≤ width ∧ u = width)) (hk : opNo s = some 3) (hx : InR x) (hy : InR y)
    (hc : W.cell? ⟨b, o, none⟩ = some (.int .i64 x)) (hd : W.cell? ⟨b, o + 1, none⟩ = some (.int .i64 y)) :
    Calls Try.prog 8 #[.string s, .int .i64 width, .slice (some ⟨b, o, none⟩) 2 c] W fun e w' => e = .returned (.tuple #[.int .i64 (doS s u [x, y]).1, .bool (doS s u [x, y]).2]) ∧ W = w' := by
  have K := fun w => refArity s w
  rw [arity_two hk (by decide)] at K
  have hs := (opNo_list hk).2
  simp only [nmOf, opNames, List.getD_cons_zero, List.getD_cons_succ] at hs
  obtain ⟨A, Bv, ua, ub, m, hT⟩ := two_of x y u
  have hA := hT.hA
  have hB := hT.hB
  have h63 := hT.h63
  have hmu := hT.hmu
  rw [doS_ref hk (by decide) u x y (fun h => by omega), hA, hB]
  have hrv : Hid (refV 3 A Bv = bits .and .i64 A Bv) := Lib.hid (rfl)
  clear hT hk
  rcases hu with ⟨h, rfl⟩ | ⟨h, rfl⟩
  all_goals
    go_enter Try.func8, Try.ntmps8
    go_wp2_with (first | (go_at_call 10; refine (K _).mono ?_; rintro e W1 ⟨rfl, rfl⟩) | (go_at_call 12; refine (refCut _ _ (by first | assumption | exact inR_wrap _ | exact inR_bits _ _ _ | (unfold InR; omega)) _).mono ?_; rintro e W1 ⟨rfl, rfl⟩))
    all_goals
      go_ret2
      exact ⟨ret_two (by first | rfl | (rw [hrv.out]; done) | (rw [hrv.out, if_pos (by omega)]; done) | (rw [hrv.out, if_neg (by omega)]; done) | (rw [hrv.out, if_pos (beq_iff_eq.1 (by assumption))]; done) | (rw [hrv.out, if_neg (beq_eq_false_iff_ne.1 (by assumption))]; done)) rfl, rfl⟩
theorem refDo_4 {s : ByteArray} {width u x y : Int} {b o c : Nat} {W : World} (hu : (width < 1 ∧ u = 1) ∨ (1 ≤ width ∧ u = width)) (hk : opNo s = some 4) (hx : InR x) (hy : InR y)
    (hc : W.cell? ⟨b, o, none⟩ = some (.int .i64 x)) (hd : W.cell? ⟨b, o + 1, none⟩ = some (.int .i64 y)) :
    Calls Try.prog 8 #[.string s, .int .i64 width, .slice (some ⟨b, o, none⟩) 2 c] W fun e w' => e = .returned (.tuple #[.int .i64 (doS s u [x, y]).1, .bool (doS s u [x, y]).2]) ∧ W = w' := by
  have K := fun w => refArity s w
  rw [arity_two hk (by decide)] at K
  have hs := (opNo_list hk).2
  simp only [nmOf, opNames, List.getD_cons_zero, List.getD_cons_succ] at hs
  obtain ⟨A, Bv, ua, ub, m, hT⟩ := two_of x y u
  have hA := hT.hA
  have hB := hT.hB
  have h63 := hT.h63
  have hmu := hT.hmu
  rw [doS_ref hk (by decide) u x y (fun h => by omega), hA, hB]
  have hrv : Hid (refV 4 A Bv = bits .or .i64 A Bv) := Lib.hid (rfl)
  clear hT hk
  rcases hu with ⟨h, rfl⟩ | ⟨h, rfl⟩
  all_goals
    go_enter Try.func8, Try.ntmps8
    go_wp2_with (first | (go_at_call 10; refine (K _).mono ?_; rintro e W1 ⟨rfl, rfl⟩) | (go_at_call 12; refine (refCut _ _ (by first | assumption | exact inR_wrap _ | exact inR_bits _ _ _ | (unfold InR; omega)) _).mono ?_; rintro e W1 ⟨rfl, rfl⟩))
    all_goals
      go_ret2
      exact ⟨ret_two (by first | rfl | (rw [hrv.out]; done) | (rw [hrv.out, if_pos (by omega)]; done) | (rw [hrv.out, if_neg (by omega)]; done) | (rw [hrv.out, if_pos (beq_iff_eq.1 (by assumption))]; done) | (rw [hrv.out, if_neg (beq_eq_false_iff_ne.1 (by assumption))]; done)) rfl, rfl⟩
theorem refDo_5 {s : ByteArray} {width u x y : Int} {b o c : Nat} {W : World} (hu : (width < 1 ∧ u = 1) ∨ (1 ≤ width ∧ u = width)) (hk : opNo s = some 5) (hx : InR x) (hy : InR y)
    (hc : W.cell? ⟨b, o, none⟩ = some (.int .i64 x)) (hd : W.cell? ⟨b, o + 1, none⟩ = some (.int .i64 y)) :
    Calls Try.prog 8 #[.string s, .int .i64 width, .slice (some ⟨b, o, none⟩) 2 c] W fun e w' => e = .returned (.tuple #[.int .i64 (doS s u [x, y]).1, .bool (doS s u [x, y]).2]) ∧ W = w' := by
  have K := fun w => refArity s w
  rw [arity_two hk (by decide)] at K
  have hs := (opNo_list hk).2
  simp only [nmOf, opNames, List.getD_cons_zero, List.getD_cons_succ] at hs
  obtain ⟨A, Bv, ua, ub, m, hT⟩ := two_of x y u
  have hA := hT.hA
  have hB := hT.hB
  have h63 := hT.h63
  have hmu := hT.hmu
  rw [doS_ref hk (by decide) u x y (fun h => by omega), hA, hB]
  have hrv : Hid (refV 5 A Bv = bits .xor .i64 A Bv) := Lib.hid (rfl)
  clear hT hk
  rcases hu with ⟨h, rfl⟩ | ⟨h, rfl⟩
  all_goals
    go_enter Try.func8, Try.ntmps8
    go_wp2_with (first | (go_at_call 10; refine (K _).mono ?_; rintro e W1 ⟨rfl, rfl⟩) | (go_at_call 12; refine (refCut _ _ (by first | assumption | exact inR_wrap _ | exact inR_bits _ _ _ | (unfold InR; omega)) _).mono ?_; rintro e W1 ⟨rfl, rfl⟩))
    all_goals
      go_ret2
      exact ⟨ret_two (by first | rfl | (rw [hrv.out]; done) | (rw [hrv.out, if_pos (by omega)]; done) | (rw [hrv.out, if_neg (by omega)]; done) | (rw [hrv.out, if_pos (beq_iff_eq.1 (by assumption))]; done) | (rw [hrv.out, if_neg (beq_eq_false_iff_ne.1 (by assumption))]; done)) rfl, rfl⟩
theorem refDo_6 {s : ByteArray} {width u x y : Int} {b o c : Nat} {W : World} (hu : (width < 1 ∧ u = 1) ∨ (1 ≤ width ∧ u = width)) (hk : opNo s = some 6) (hx : InR x) (hy : InR y)
    (hc : W.cell? ⟨b, o, none⟩ = some (.int .i64 x)) (hd : W.cell? ⟨b, o + 1, none⟩ = some (.int .i64 y)) :
    Calls Try.prog 8 #[.string s, .int .i64 width, .slice (some ⟨b, o, none⟩) 2 c] W fun e w' => e = .returned (.tuple #[.int .i64 (doS s u [x, y]).1, .bool (doS s u [x, y]).2]) ∧ W = w' := by
  have K := fun w => refArity s w
  rw [arity_two hk (by decide)] at K
  have hs := (opNo_list hk).2
  simp only [nmOf, opNames, List.getD_cons_zero, List.getD_cons_succ] at hs
  obtain ⟨A, Bv, ua, ub, m, hT⟩ := two_of x y u
  have hA := hT.hA
  have hB := hT.hB
  have h63 := hT.h63
  have hmu := hT.hmu
  rw [doS_ref hk (by decide) u x y (fun h => by omega), hA, hB]
  have hrv : Hid (refV 6 A Bv = wrap64 (A * 2 ^ m)) := Lib.hid (by unfold refV; simp only [hT.hmt])
  have hm64 := hT.hm64
  have hmin := hT.hmin
  clear hT hk
  rcases hu with ⟨h, rfl⟩ | ⟨h, rfl⟩
  all_goals
    go_enter Try.func8, Try.ntmps8
    go_wp2_with (first | (go_at_call 10; refine (K _).mono ?_; rintro e W1 ⟨rfl, rfl⟩) | (go_at_call 12; refine (refCut _ _ (by first | assumption | exact inR_wrap _ | exact inR_bits _ _ _ | (unfold InR; omega)) _).mono ?_; rintro e W1 ⟨rfl, rfl⟩))
    all_goals
      go_ret2
      exact ⟨ret_two (by first | rfl | (rw [hrv.out]; done) | (rw [hrv.out, if_pos (by omega)]; done) | (rw [hrv.out, if_neg (by omega)]; done) | (rw [hrv.out, if_pos (beq_iff_eq.1 (by assumption))]; done) | (rw [hrv.out, if_neg (beq_eq_false_iff_ne.1 (by assumption))]; done)) rfl, rfl⟩
theorem refDo_7 {s : ByteArray} {width u x y : Int} {b o c : Nat} {W : World} (hu : (width < 1 ∧ u = 1) ∨ (1 ≤ width ∧ u = width)) (hk : opNo s = some 7) (hx : InR x) (hy : InR y)
    (hc : W.cell? ⟨b, o, none⟩ = some (.int .i64 x)) (hd : W.cell? ⟨b, o + 1, none⟩ = some (.int .i64 y)) :
    Calls Try.prog 8 #[.string s, .int .i64 width, .slice (some ⟨b, o, none⟩) 2 c] W fun e w' => e = .returned (.tuple #[.int .i64 (doS s u [x, y]).1, .bool (doS s u [x, y]).2]) ∧ W = w' := by
  have K := fun w => refArity s w
  rw [arity_two hk (by decide)] at K
  have hs := (opNo_list hk).2
  simp only [nmOf, opNames, List.getD_cons_zero, List.getD_cons_succ] at hs
  obtain ⟨A, Bv, ua, ub, m, hT⟩ := two_of x y u
  have hA := hT.hA
  have hB := hT.hB
  have h63 := hT.h63
  have hmu := hT.hmu
  rw [doS_ref hk (by decide) u x y (fun h => by omega), hA, hB]
  have hrv : Hid (refV 7 A Bv = wrap64 (ua / 2 ^ m)) := Lib.hid (by unfold refV; simp only [hT.hua, hT.hmt])
  have hm64 := hT.hm64
  have hmin := hT.hmin
  have hua := hT.hua
  have hub := hT.hub
  clear hT hk
  rcases hu with ⟨h, rfl⟩ | ⟨h, rfl⟩
  all_goals
    go_enter Try.func8, Try.ntmps8
    go_wp2_with (first | (go_at_call 10; refine (K _).mono ?_; rintro e W1 ⟨rfl, rfl⟩) | (go_at_call 12; refine (refCut _ _ (by first | assumption | exact inR_wrap _ | exact inR_bits _ _ _ | (unfold InR; omega)) _).mono ?_; rintro e W1 ⟨rfl, rfl⟩))
    all_goals
      go_ret2
      exact ⟨ret_two (by first | rfl | (rw [hrv.out]; done) | (rw [hrv.out, if_pos (by omega)]; done) | (rw [hrv.out, if_neg (by omega)]; done) | (rw [hrv.out, if_pos (beq_iff_eq.1 (by assumption))]; done) | (rw [hrv.out, if_neg (beq_eq_false_iff_ne.1 (by assumption))]; done)) rfl, rfl⟩
theorem refDo_8 {s : ByteArray} {width u x y : Int} {b o c : Nat} {W : World} (hu : (width < 1 ∧ u = 1) ∨ (1 ≤ width ∧ u = width)) (hk : opNo s = some 8) (hx : InR x) (hy : InR y)
    (hc : W.cell? ⟨b, o, none⟩ = some (.int .i64 x)) (hd : W.cell? ⟨b, o + 1, none⟩ = some (.int .i64 y)) :
    Calls Try.prog 8 #[.string s, .int .i64 width, .slice (some ⟨b, o, none⟩) 2 c] W fun e w' => e = .returned (.tuple #[.int .i64 (doS s u [x, y]).1, .bool (doS s u [x, y]).2]) ∧ W = w' := by
  have K := fun w => refArity s w
  rw [arity_two hk (by decide)] at K
  have hs := (opNo_list hk).2
  simp only [nmOf, opNames, List.getD_cons_zero, List.getD_cons_succ] at hs
  obtain ⟨A, Bv, ua, ub, m, hT⟩ := two_of x y u
  have hA := hT.hA
  have hB := hT.hB
  have h63 := hT.h63
  have hmu := hT.hmu
  by_cases hz : Bv = 0
  · rw [doS_nul hk (by decide) u x y (hB.trans hz)]
    subst hz
    clear hT hk
    rcases hu with ⟨h, rfl⟩ | ⟨h, rfl⟩
    all_goals
      go_enter Try.func8, Try.ntmps8
      go_wp2_with (first | (go_at_call 10; refine (K _).mono ?_; rintro e W1 ⟨rfl, rfl⟩) | (go_at_call 12; refine (refCut _ _ (by first | assumption | exact inR_wrap _ | exact inR_bits _ _ _ | (unfold InR; omega)) _).mono ?_; rintro e W1 ⟨rfl, rfl⟩))
      go_ret2
      exact ⟨rfl, rfl⟩
  rw [doS_ref hk (by decide) u x y (fun _ => by rw [hB]; exact hz), hA, hB]
  have hrv : Hid (refV 8 A Bv = wrap64 (ua / ub)) := Lib.hid (by simp only [refV, hT.hua, hT.hub])
  have hub0 : ¬ ub = 0 := fun e => hz (hT.hz.1 e)
  have hbz : (Bv == 0) = false := beq_eq_false_iff_ne.2 hz
  have hua := hT.hua
  have hub := hT.hub
  have ra := hT.ra
  have hq : ua.tdiv ub = ua / ub := Int.tdiv_eq_ediv_of_nonneg ra.1
  have hqw : IntKind.u64.wrap (ua / ub) = ua / ub := u64_lt (Int.ediv_nonneg ra.1 hT.rb.1) (Int.lt_of_le_of_lt (Int.ediv_le_self ub ra.1) ra.2)
  clear hT hk ra hz
  rcases hu with ⟨h, rfl⟩ | ⟨h, rfl⟩
  all_goals
    go_enter Try.func8, Try.ntmps8
    go_wp2_with (first | (go_at_call 10; refine (K _).mono ?_; rintro e W1 ⟨rfl, rfl⟩) | (go_at_call 12; refine (refCut _ _ (by first | assumption | exact inR_wrap _ | exact inR_bits _ _ _ | (unfold InR; omega)) _).mono ?_; rintro e W1 ⟨rfl, rfl⟩))
    all_goals
      go_ret2
      exact ⟨ret_two (by first | rfl | (rw [hrv.out]; done) | (rw [hrv.out, if_pos (by omega)]; done) | (rw [hrv.out, if_neg (by omega)]; done) | (rw [hrv.out, if_pos (beq_iff_eq.1 (by assumption))]; done) | (rw [hrv.out, if_neg (beq_eq_false_iff_ne.1 (by assumption))]; done)) rfl, rfl⟩
theorem refDo_9 {s : ByteArray} {width u x y : Int} {b o c : Nat} {W : World} (hu : (width < 1 ∧ u = 1) ∨ (1 ≤ width ∧ u = width)) (hk : opNo s = some 9) (hx : InR x) (hy : InR y)
    (hc : W.cell? ⟨b, o, none⟩ = some (.int .i64 x)) (hd : W.cell? ⟨b, o + 1, none⟩ = some (.int .i64 y)) :
    Calls Try.prog 8 #[.string s, .int .i64 width, .slice (some ⟨b, o, none⟩) 2 c] W fun e w' => e = .returned (.tuple #[.int .i64 (doS s u [x, y]).1, .bool (doS s u [x, y]).2]) ∧ W = w' := by
  have K := fun w => refArity s w
  rw [arity_two hk (by decide)] at K
  have hs := (opNo_list hk).2
  simp only [nmOf, opNames, List.getD_cons_zero, List.getD_cons_succ] at hs
  obtain ⟨A, Bv, ua, ub, m, hT⟩ := two_of x y u
  have hA := hT.hA
  have hB := hT.hB
  have h63 := hT.h63
  have hmu := hT.hmu
  by_cases hz : Bv = 0
  · rw [doS_nul hk (by decide) u x y (hB.trans hz)]
    subst hz
    clear hT hk
    rcases hu with ⟨h, rfl⟩ | ⟨h, rfl⟩
    all_goals
      go_enter Try.func8, Try.ntmps8
      go_wp2_with (first | (go_at_call 10; refine (K _).mono ?_; rintro e W1 ⟨rfl, rfl⟩) | (go_at_call 12; refine (refCut _ _ (by first | assumption | exact inR_wrap _ | exact inR_bits _ _ _ | (unfold InR; omega)) _).mono ?_; rintro e W1 ⟨rfl, rfl⟩))
      go_ret2
      exact ⟨rfl, rfl⟩
  rw [doS_ref hk (by decide) u x y (fun _ => by rw [hB]; exact hz), hA, hB]
  have hrv : Hid (refV 9 A Bv = wrap64 (ua % ub)) := Lib.hid (by simp only [refV, hT.hua, hT.hub])
  have hub0 : ¬ ub = 0 := fun e => hz (hT.hz.1 e)
  have hbz : (Bv == 0) = false := beq_eq_false_iff_ne.2 hz
  have hua := hT.hua
  have hub := hT.hub
  have ra := hT.ra
  have hq : ua.tmod ub = ua % ub := Int.tmod_eq_emod_of_nonneg ra.1
  clear hT hk ra hz
  rcases hu with ⟨h, rfl⟩ | ⟨h, rfl⟩
  all_goals
    go_enter Try.func8, Try.ntmps8
    go_wp2_with (first | (go_at_call 10; refine (K _).mono ?_; rintro e W1 ⟨rfl, rfl⟩) | (go_at_call 12; refine (refCut _ _ (by first | assumption | exact inR_wrap _ | exact inR_bits _ _ _ | (unfold InR; omega)) _).mono ?_; rintro e W1 ⟨rfl, rfl⟩))
    all_goals
      go_ret2
      exact ⟨ret_two (by first | rfl | (rw [hrv.out]; done) | (rw [hrv.out, if_pos (by omega)]; done) | (rw [hrv.out, if_neg (by omega)]; done) | (rw [hrv.out, if_pos (beq_iff_eq.1 (by assumption))]; done) | (rw [hrv.out, if_neg (beq_eq_false_iff_ne.1 (by assumption))]; done)) rfl, rfl⟩
theorem refDo_10 {s : ByteArray} {width u x y : Int} {b o c : Nat} {W : World} (hu : (width < 1 ∧ u = 1) ∨ (1 ≤ width ∧ u = width)) (hk : opNo s = some 10) (hx : InR x) (hy : InR y)
    (hc : W.cell? ⟨b, o, none⟩ = some (.int .i64 x)) (hd : W.cell? ⟨b, o + 1, none⟩ = some (.int .i64 y)) :
    Calls Try.prog 8 #[.string s, .int .i64 width, .slice (some ⟨b, o, none⟩) 2 c] W fun e w' => e = .returned (.tuple #[.int .i64 (doS s u [x, y]).1, .bool (doS s u [x, y]).2]) ∧ W = w' := by
  have K := fun w => refArity s w
  rw [arity_two hk (by decide)] at K
  have hs := (opNo_list hk).2
  simp only [nmOf, opNames, List.getD_cons_zero, List.getD_cons_succ] at hs
  obtain ⟨A, Bv, ua, ub, m, hT⟩ := two_of x y u
  have hA := hT.hA
  have hB := hT.hB
  have h63 := hT.h63
  have hmu := hT.hmu
  rw [doS_ref hk (by decide) u x y (fun h => by omega), hA, hB]
  have hrv : Hid (refV 10 A Bv = if ua < ub then 1 else 0) := Lib.hid (by unfold refV; simp only [hT.hua, hT.hub])
  have hua := hT.hua
  have hub := hT.hub
  clear hT hk
  rcases hu with ⟨h, rfl⟩ | ⟨h, rfl⟩
  all_goals
    go_enter Try.func8, Try.ntmps8
    go_wp2_with (first | (go_at_call 10; refine (K _).mono ?_; rintro e W1 ⟨rfl, rfl⟩) | (go_at_call 12; refine (refCut _ _ (by first | assumption | exact inR_one | exact inR_nul) _).mono ?_; rintro e W1 ⟨rfl, rfl⟩))
    all_goals
      go_ret2
      exact ⟨ret_two (by first | rfl | (rw [hrv.out]; done) | (rw [hrv.out, if_pos (by omega)]; done) | (rw [hrv.out, if_neg (by omega)]; done) | (rw [hrv.out, if_pos (beq_iff_eq.1 (by assumption))]; done) | (rw [hrv.out, if_neg (beq_eq_false_iff_ne.1 (by assumption))]; done)) rfl, rfl⟩
theorem refDo_11 {s : ByteArray} {width u x y : Int} {b o c : Nat} {W : World} (hu : (width < 1 ∧ u = 1) ∨ (1 ≤ width ∧ u = width)) (hk : opNo s = some 11) (hx : InR x) (hy : InR y)
    (hc : W.cell? ⟨b, o, none⟩ = some (.int .i64 x)) (hd : W.cell? ⟨b, o + 1, none⟩ = some (.int .i64 y)) :
    Calls Try.prog 8 #[.string s, .int .i64 width, .slice (some ⟨b, o, none⟩) 2 c] W fun e w' => e = .returned (.tuple #[.int .i64 (doS s u [x, y]).1, .bool (doS s u [x, y]).2]) ∧ W = w' := by
  have K := fun w => refArity s w
  rw [arity_two hk (by decide)] at K
  have hs := (opNo_list hk).2
  simp only [nmOf, opNames, List.getD_cons_zero, List.getD_cons_succ] at hs
  obtain ⟨A, Bv, ua, ub, m, hT⟩ := two_of x y u
  have hA := hT.hA
  have hB := hT.hB
  have h63 := hT.h63
  have hmu := hT.hmu
  rw [doS_ref hk (by decide) u x y (fun h => by omega), hA, hB]
  have hrv : Hid (refV 11 A Bv = if A = Bv then 1 else 0) := Lib.hid (rfl)
  clear hT hk
  rcases hu with ⟨h, rfl⟩ | ⟨h, rfl⟩
  all_goals
    go_enter Try.func8, Try.ntmps8
    go_wp2_with (first | (go_at_call 10; refine (K _).mono ?_; rintro e W1 ⟨rfl, rfl⟩) | (go_at_call 12; refine (refCut _ _ (by first | assumption | exact inR_one | exact inR_nul) _).mono ?_; rintro e W1 ⟨rfl, rfl⟩))
    all_goals
      go_ret2
      exact ⟨ret_two (by first | rfl | (rw [hrv.out]; done) | (rw [hrv.out, if_pos (by omega)]; done) | (rw [hrv.out, if_neg (by omega)]; done) | (rw [hrv.out, if_pos (beq_iff_eq.1 (by assumption))]; done) | (rw [hrv.out, if_neg (beq_eq_false_iff_ne.1 (by assumption))]; done)) rfl, rfl⟩
/-- Do of any values. -/
theorem refDo {s : ByteArray} {width : Int} {a : Option Addr} {c : Nat} {l : List Int} {W : World} (hl : IntsL W a l) (hr : ∀ x, x ∈ l → InR x) :
    Calls Try.prog 8 #[.string s, .int .i64 width, .slice a l.length c] W fun e w' => e = .returned (.tuple #[.int .i64 (doS s width l).1, .bool (doS s width l).2]) ∧ W = w' := by
  by_cases hno : ∀ k, opNo s = some k → l.length ≠ arityK k
  · have e : doS s width l = (0, false) := by
      unfold doS doW
      cases hk : opNo s with
      | none => rfl
      | some k => simp only [if_neg (hno k hk)]
    rw [e]
    exact refDoNo hno
  · have hno' : ∃ k, opNo s = some k ∧ l.length = arityK k := Classical.byContradiction fun hn => hno fun k hk h => hn ⟨k, hk, h⟩
    obtain ⟨k, hk, hlen⟩ := hno'
    have h13 := (opNo_list hk).1
    obtain ⟨u, hu⟩ : ∃ u, (width < 1 ∧ u = 1) ∨ (1 ≤ width ∧ u = width) := by
      by_cases h : width < 1
      · exact ⟨1, .inl ⟨h, rfl⟩⟩
      · exact ⟨width, .inr ⟨by omega, rfl⟩⟩
    have hw : widN width = widN u := by unfold widN; omega
    have e : doS s width l = doS s u l := by unfold doS; rw [hw]
    rw [e]
    by_cases h12 : k = 12
    · subst h12
      match l, hlen, hl, hr with
      | [x], _, hl, hr =>
        obtain ⟨b, o, rfl, hc⟩ := hl 0 x rfl
        exact refDoOne hu hk (hr x (by simp)) hc
    · have h2 : arityK k = 2 := by unfold arityK; rw [if_neg h12]
      rw [h2] at hlen
      match l, hlen, hl, hr with
      | [x, y], _, hl, hr =>
        obtain ⟨b, o, rfl, hc⟩ := hl 0 x rfl
        obtain ⟨b2, o2, he, hd⟩ := hl 1 y rfl
        cases he
        have hx := hr x (by simp)
        have hy := hr y (by simp)
        have hcases : k = 0 ∨ k = 1 ∨ k = 2 ∨ k = 3 ∨ k = 4 ∨ k = 5 ∨ k = 6 ∨ k = 7 ∨ k = 8 ∨ k = 9 ∨ k = 10 ∨ k = 11 := by omega
        rcases hcases with rfl | rfl | rfl | rfl | rfl | rfl | rfl | rfl | rfl | rfl | rfl | rfl
        · exact refDo_0 hu hk hx hy hc hd
        · exact refDo_1 hu hk hx hy hc hd
        · exact refDo_2 hu hk hx hy hc hd
        · exact refDo_3 hu hk hx hy hc hd
        · exact refDo_4 hu hk hx hy hc hd
        · exact refDo_5 hu hk hx hy hc hd
        · exact refDo_6 hu hk hx hy hc hd
        · exact refDo_7 hu hk hx hy hc hd
        · exact refDo_8 hu hk hx hy hc hd
        · exact refDo_9 hu hk hx hy hc hd
        · exact refDo_10 hu hk hx hy hc hd
        · exact refDo_11 hu hk hx hy hc hd
end Go.Proofs.Ytpekbaikbgcnmaa
