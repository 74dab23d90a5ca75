/-
  VirrunDo and VirrunShifts: their walks.
-/
import Derived.Test.YtpekbaikbgcnmaaVrK
import Derived.OwnWalk
import Derived.Laws.AppendOwnNone
namespace Go.Proofs.Ytpekbaikbgcnmaa
open Go.RowKit Go.Maps
theorem size_shl : (⟨#[115, 104, 108]⟩ : ByteArray).size ≤ maxLen := sizeL (by decide)
theorem size_shr : (⟨#[115, 104, 114]⟩ : ByteArray).size ≤ maxLen := sizeL (by decide)
set_option maxHeartbeats 4000000
set_option maxRecDepth 100000
/-- What the shifts say, with names. -/
structure ShiftFacts (w a n l r : Int) (kk : Nat) : Prop where
  hk : bits .and .i64 n 63 = (kk : Int)
  hk64 : kk < 64
  f1 : (doS ⟨#[115, 104, 108]⟩ w [a, n]).1 = l
  f2 : (doS ⟨#[115, 104, 108]⟩ w [a, n]).2 = true
  f3 : (doS ⟨#[115, 104, 114]⟩ w [a, n]).1 = r
  f4 : (doS ⟨#[115, 104, 114]⟩ w [a, n]).2 = true
  f5 : (doS ⟨#[115, 104, 108]⟩ w [a, kk]).1 = l
  f6 : (doS ⟨#[115, 104, 114]⟩ w [a, kk]).1 = r
  f7 : l = dbl w a kk
  f8 : (kk : Int) < w ∨ l = 0 ∧ r = 0
theorem shiftFacts (w a n : Int) (h8 : 8 ≤ w) (hw : w ≤ 64) : ∃ l r kk, ShiftFacts w a n l r kk := by
  obtain ⟨g1, g2, g3, g4, g5, g6⟩ := shifts_all w a n h8 hw
  have e : n % 64 = ((n % 64).toNat : Int) := by omega
  rw [e] at g3 g4 g6
  exact ⟨_, _, (n % 64).toNat, by rw [and63]; exact e, by omega, rfl, g1, rfl, g2, g3.symm, g4.symm, g5, g6⟩
theorem shifts_any (width a n : Int) (w : World) : Calls Try.prog 5 #[.int .i64 width, .int .i64 a, .int .i64 n] w fun e w' => e = .returned (.bool true) ∧ Below w.heap.size w w' := by
  have hB := Lib.hid (Below.refl w.heap.size w)
  by_cases hw : width < 8 ∨ 64 < width
  · by_cases hw1 : width < 8
    all_goals
      go_enter Try.func5, Try.ntmps5
      go_wp2_with (go_at_call 6; refine (vrAlive _).mono ?_; rintro e W1 ⟨rfl, hb⟩; replace hB := Lib.hid (hB.out.trans (hb.mono hB.out.size)); clear hb)
      go_ret
      exact ⟨rfl, hB.out⟩
  · have hw1 : 8 ≤ width := by omega
    have hw2 : width ≤ 64 := by omega
    obtain ⟨l, r, kk, hF⟩ := shiftFacts width a n hw1 hw2
    have hk := hF.hk
    have hk64 := hF.hk64
    have f1 := hF.f1
    have f2 := hF.f2
    have f3 := hF.f3
    have f4 := hF.f4
    have f5 := hF.f5
    have f6 := hF.f6
    have f7 := Lib.hid hF.f7
    have f8 := Lib.hid hF.f8
    clear hF hw
    go_enter Try.func5, Try.ntmps5
    go_wp2_with (first | (go_at_call 6; refine (vrAlive _).mono ?_; rintro e W1 ⟨rfl, hb⟩; replace hB := Lib.hid (hB.out.trans (hb.mono hB.out.size)); clear hb) | (go_at_call 7; refine (vrDo2 (by first | exact size_add | exact size_shl | exact size_shr)).mono ?_; rintro e W1 ⟨rfl, hb⟩; replace hB := Lib.hid (hB.out.trans (hb.mono hB.out.size)); clear hb))
    go_loopw [17, 19] (fun x i wr => ∃ j : Nat, j ≤ kk ∧ i = .int .i64 j ∧ x = .int .i64 (dbl width a j) ∧ Below w.heap.size w wr) (fun _ i _ => kk - (intOf i).toNat)
    case atStart => exact ⟨0, Nat.zero_le _, rfl, rfl, hB.out⟩
    case round =>
      obtain ⟨j, hj, rfl, rfl, hBr⟩ := hrel
      clear hB f1 f2 f3 f4 f5 f6
      have hB := Lib.hid hBr
      clear hBr
      have j0 : (0 : Int) ≤ j := Int.natCast_nonneg _
      by_cases hlt : j < kk
      · have hi : IntKind.i64.wrap ((j : Int) + 1) = j + 1 := IntWalk.i64_in _ (by omega)
        have hjk : (j : Int) < kk := by omega
        have fd : (doS ⟨#[97, 100, 100]⟩ width [dbl width a j, dbl width a j]).1 = dbl width a (j + 1) := rfl
        go_wp2_with (go_at_call 7; refine (vrDo2 (by first | exact size_add | exact size_shl | exact size_shr)).mono ?_; rintro e W1 ⟨rfl, hb⟩; replace hB := Lib.hid (hB.out.trans (hb.mono hB.out.size)); clear hb)
        exact ⟨⟨j + 1, by omega, by go_num, rfl, hB.out⟩, by simp [intOf]; omega⟩
      · obtain rfl : j = kk := by omega
        have f9 := f7.out.symm
        go_wp2
        all_goals
          go_ret
          refine ⟨ret_bool ?_, hB.out⟩
          rcases f8.out with h | ⟨h1, h2⟩
          · simp_all
          · simp_all
end Go.Proofs.Ytpekbaikbgcnmaa
