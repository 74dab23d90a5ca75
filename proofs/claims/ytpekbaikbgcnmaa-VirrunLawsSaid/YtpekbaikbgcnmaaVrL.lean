/-
  VirrunLaws: its walk.
-/
import Derived.Test.YtpekbaikbgcnmaaVrK
namespace Go.Proofs.Ytpekbaikbgcnmaa
open Go.RowKit Go.Maps
theorem size_sub : (⟨#[115, 117, 98]⟩ : ByteArray).size ≤ maxLen := sizeL (by decide)
theorem size_mul : (⟨#[109, 117, 108]⟩ : ByteArray).size ≤ maxLen := sizeL (by decide)
theorem size_and : (⟨#[97, 110, 100]⟩ : ByteArray).size ≤ maxLen := sizeL (by decide)
theorem size_or : (⟨#[111, 114]⟩ : ByteArray).size ≤ maxLen := sizeL (by decide)
theorem size_xor : (⟨#[120, 111, 114]⟩ : ByteArray).size ≤ maxLen := sizeL (by decide)
theorem size_shl : (⟨#[115, 104, 108]⟩ : ByteArray).size ≤ maxLen := sizeL (by decide)
theorem size_shr : (⟨#[115, 104, 114]⟩ : ByteArray).size ≤ maxLen := sizeL (by decide)
theorem size_rem : (⟨#[114, 101, 109]⟩ : ByteArray).size ≤ maxLen := sizeL (by decide)
theorem size_lt : (⟨#[108, 116]⟩ : ByteArray).size ≤ maxLen := sizeL (by decide)
theorem size_eq : (⟨#[101, 113]⟩ : ByteArray).size ≤ maxLen := sizeL (by decide)
/-- What the laws say, with names for what each call answers. -/
structure LawFacts (width a b X Y p m x1 n1 n2 o1 e1 s1 nb t1 d1 m1 r1 : Int) : Prop where
  hX : cutS a width = X
  hY : cutS b width = Y
  f1 : (doS ⟨#[97, 100, 100]⟩ width [a, b]).1 = p
  f2 : (doS ⟨#[97, 100, 100]⟩ width [b, a]).1 = p
  f3 : (doS ⟨#[115, 117, 98]⟩ width [p, b]).1 = X
  f4 : (doS ⟨#[109, 117, 108]⟩ width [a, b]).1 = m
  f5 : (doS ⟨#[109, 117, 108]⟩ width [b, a]).1 = m
  f6 : (doS ⟨#[120, 111, 114]⟩ width [a, b]).1 = x1
  f7 : (doS ⟨#[120, 111, 114]⟩ width [x1, b]).1 = X
  f8 : (doS ⟨#[110, 111, 116]⟩ width [a]).1 = n1
  f9 : (doS ⟨#[110, 111, 116]⟩ width [n1]).1 = X
  f10 : (doS ⟨#[97, 110, 100]⟩ width [a, b]).1 = n2
  f11 : (doS ⟨#[111, 114]⟩ width [n2, x1]).1 = o1
  f12 : (doS ⟨#[111, 114]⟩ width [a, b]).1 = o1
  f13 : (doS ⟨#[101, 113]⟩ width [a, b]).1 = e1
  f15 : (doS ⟨#[108, 116]⟩ width [a, a]).1 = 0
  f16 : (doS ⟨#[115, 117, 98]⟩ width [a, b]).1 = s1
  f17 : (doS ⟨#[110, 111, 116]⟩ width [b]).1 = nb
  f18 : (doS ⟨#[97, 100, 100]⟩ width [a, nb]).1 = t1
  f19 : (doS ⟨#[97, 100, 100]⟩ width [t1, 1]).1 = s1
  f20 : (doS ⟨#[100, 105, 118]⟩ width [a, b]).1 = d1
  f21 : (doS ⟨#[109, 117, 108]⟩ width [d1, b]).1 = m1
  f22 : (doS ⟨#[114, 101, 109]⟩ width [a, b]).1 = r1
  g1 : (e1 == 1) = (X == Y)
  g2 : Y ≠ 0 → (doS ⟨#[97, 100, 100]⟩ width [m1, r1]).1 = X ∧ (doS ⟨#[108, 116]⟩ width [r1, b]).1 = 1
theorem lawFacts (width a b : Int) : ∃ X Y p m x1 n1 n2 o1 e1 s1 nb t1 d1 m1 r1, LawFacts width a b X Y p m x1 n1 n2 o1 e1 s1 nb t1 d1 m1 r1 := by
  obtain ⟨l1, l2, l3, l4, l5, l6, l7, l8, l9, l10⟩ := laws_all width a b
  exact ⟨_, _, _, _, _, _, _, _, _, _, _, _, _, _, _, rfl, rfl, rfl, l2.symm, l1, rfl, l3.symm, rfl, l4, rfl, l5, rfl, l6, rfl, rfl, l8, rfl, rfl, rfl, l9.symm, rfl, rfl, rfl, by
    rw [Bool.eq_iff_iff, beq_iff_eq, beq_iff_eq]
    exact l7, l10⟩
set_option maxHeartbeats 8000000
set_option maxRecDepth 100000
theorem laws_any (width a b : Int) (ha : InR a) (hb0 : InR b) (w : World) : Calls Try.prog 4 #[.int .i64 width, .int .i64 a, .int .i64 b] w fun e w' => e = .returned (.bool true) ∧ Below w.heap.size w w' := by
  have hB := Lib.hid (below_new w (.cells #[.int .i64 width] 3))
  have hc0 : (w.alloc (.cells #[.int .i64 width] 3)).cell? ⟨w.heap.size, 0, none⟩ = some (.int .i64 width) := cell_of_one (heap_new w _)
  by_cases hw : width < 1 ∨ 64 < width
  · by_cases hw1 : width < 1
    all_goals
      go_enter Try.func4, Try.ntmps4
      go_wp2_with (first | (go_at_call 6; refine (vrAlive _).mono ?_; rintro e W1 ⟨rfl, hb⟩; have hcc := cell_below hb hc0; clear hc0; replace hB := Lib.hid (hB.out.trans (hb.mono hB.out.size)); clear hb) | (go_at_call 12; refine (refCut _ _ (by assumption) _).mono ?_; rintro e W1 ⟨rfl, rfl⟩) | (go_at_call 11; with_reducible (show Calls _ _ #[_, Value.slice _ 1 1, _] _ _); refine (vrLaw1 (by exact size_not) hcc).mono ?_; rintro e W1 ⟨rfl, hb⟩; replace hcc := cell_below hb hcc; replace hB := Lib.hid (hB.out.trans (hb.mono hB.out.size)); clear hb) | (go_at_call 11; with_reducible (show Calls _ _ #[_, Value.slice _ 2 2, _] _ _); refine (vrLaw2 (by first | exact size_add | exact size_sub | exact size_mul | exact size_and | exact size_or | exact size_xor | exact size_shl | exact size_shr | exact size_div | exact size_rem | exact size_lt | exact size_eq | exact size_not) hcc).mono ?_; rintro e W1 ⟨rfl, hb⟩; replace hcc := cell_below hb hcc; replace hB := Lib.hid (hB.out.trans (hb.mono hB.out.size)); clear hb))
      go_ret
      exact ⟨rfl, hB.out⟩
  · have hw1 : 1 ≤ width := by omega
    have hw2 : width ≤ 64 := by omega
    obtain ⟨X, Y, p, m, x1, n1, n2, o1, e1, s1, nb, t1, d1, m1, r1, hF⟩ := lawFacts width a b
    have hX := hF.hX
    have hY := hF.hY
    have f1 := hF.f1
    have f2 := hF.f2
    have f3 := hF.f3
    have f4 := hF.f4
    have f5 := hF.f5
    have f6 := hF.f6
    have f7 := hF.f7
    have f8 := hF.f8
    have f9 := hF.f9
    have f10 := hF.f10
    have f11 := hF.f11
    have f12 := hF.f12
    have f13 := hF.f13
    have f15 := hF.f15
    have f16 := hF.f16
    have f17 := hF.f17
    have f18 := hF.f18
    have f19 := hF.f19
    have f20 := hF.f20
    have f21 := hF.f21
    have f22 := hF.f22
    have g1 := hF.g1
    have hg2 := Lib.hid hF.g2
    clear hF hw
    go_enter Try.func4, Try.ntmps4
    go_wp2_with (first | (go_at_call 6; refine (vrAlive _).mono ?_; rintro e W1 ⟨rfl, hb⟩; have hcc := cell_below hb hc0; clear hc0; replace hB := Lib.hid (hB.out.trans (hb.mono hB.out.size)); clear hb) | (go_at_call 12; refine (refCut _ _ (by assumption) _).mono ?_; rintro e W1 ⟨rfl, rfl⟩) | (go_at_call 11; with_reducible (show Calls _ _ #[_, Value.slice _ 1 1, _] _ _); refine (vrLaw1 (by exact size_not) hcc).mono ?_; rintro e W1 ⟨rfl, hb⟩; replace hcc := cell_below hb hcc; replace hB := Lib.hid (hB.out.trans (hb.mono hB.out.size)); clear hb) | (go_at_call 11; with_reducible (show Calls _ _ #[_, Value.slice _ 2 2, _] _ _); refine (vrLaw2 (by first | exact size_add | exact size_sub | exact size_mul | exact size_and | exact size_or | exact size_xor | exact size_shl | exact size_shr | exact size_div | exact size_rem | exact size_lt | exact size_eq | exact size_not) hcc).mono ?_; rintro e W1 ⟨rfl, hb⟩; replace hcc := cell_below hb hcc; replace hB := Lib.hid (hB.out.trans (hb.mono hB.out.size)); clear hb))
    all_goals
      go_ret
      first
        | exact ⟨rfl, hB.out⟩
        | exact ⟨ret_bool (by rw [(hg2.out (by assumption)).2]; simp), hB.out⟩
        | exact absurd (hg2.out (by assumption)).1 (by assumption)
end Go.Proofs.Ytpekbaikbgcnmaa
