/-
  vir's same.
-/
import Derived.Test.YtfnfijgknjnccaaGreatDoorVwK
namespace Go.Proofs.YtfnfijgknjnccaaGreatDoor
open Go.RowKit Go.Sort
/-- Are two instructions one? -/
def sameB (x : InsV) (L : List Int) (y : InsV) (M : List Int) : Bool :=
  decide (x.k = y.k) && decide (x.d = y.d) && decide (x.a = y.a) && decide (x.b = y.b) && decide (x.n = y.n) && decide (x.t = y.t) && decide (x.f = y.f) && (x.nm.toList == y.nm.toList) && (L == M)
set_option maxHeartbeats 4000000
set_option maxRecDepth 100000
theorem equal_any {a b : Option Addr} {c d : Nat} {L M : List Int} {w : World} (hL : IntsL w a L) (hM : IntsL w b M) (h1 : L.length ≤ 100000) (h2 : M.length ≤ 100000) :
    Calls Tryz.prog 70 #[.slice a L.length c, .slice b M.length d] w fun e w' => e = .returned (.bool (L == M)) ∧ Below w.heap.size w w' := by
  by_cases hn : L.length = M.length
  · cases L with
    | nil =>
      refine (Tryz.slices_Equal_int_empty a b c M.length d w (by omega)).mono fun e w' ⟨g1, g2⟩ => ⟨?_, by rw [g2]; exact Below.refl _ _⟩
      rw [g1]
      obtain rfl : M = [] := List.length_eq_zero_iff.1 hn.symm
      rfl
    | cons y L =>
      obtain ⟨b1, o1, rfl, _⟩ := hL 0 y rfl
      obtain ⟨z, hz⟩ : ∃ z, M[0]? = some z := ⟨M[0]'(by rw [← hn]; simp), by rw [List.getElem?_eq_getElem]⟩
      obtain ⟨b2, o2, rfl, _⟩ := hM 0 z hz
      refine (Tryz.slices_Equal_int b1 o1 _ c b2 o2 _ d (y :: L) M w (Nat.le_refl _) (Nat.le_refl _) (by omega) (by omega) (fun j hj => ?_) (fun j hj => ?_)).mono fun e w' ⟨g1, q, g2⟩ => ⟨?_, ?_⟩
      · obtain ⟨b3, o3, h3, h4⟩ := hL j _ (List.getElem?_eq_getElem hj)
        cases h3
        rw [h4, List.getD_eq_getElem?_getD, List.getElem?_eq_getElem hj]
        rfl
      · obtain ⟨b3, o3, h3, h4⟩ := hM j _ (List.getElem?_eq_getElem hj)
        cases h3
        rw [h4, List.getD_eq_getElem?_getD, List.getElem?_eq_getElem hj]
        rfl
      · rw [g1, List.take_length, List.take_length]
      · rw [g2]
        exact ⟨rfl, rfl, rfl, Nat.le_refl _, fun i _ => rfl⟩
  · refine (Tryz.slices_Equal_int_lens a b _ c _ d w hn).mono fun e w' ⟨g1, g2⟩ => ⟨?_, by rw [g2]; exact Below.refl _ _⟩
    rw [g1]
    have : (L == M) = false := beq_eq_false_iff_ne.2 fun h => hn (by rw [h])
    rw [this]
theorem same_any (x y : InsV) {L M : List Int} {w : World} (hL : IntsL w x.sa L) (hM : IntsL w y.sa M) (hn : x.sn = L.length) (hm : y.sn = M.length) (h1 : L.length ≤ 100000) (h2 : M.length ≤ 100000) :
    Calls Tryz.prog 42 #[.agg x.cells, .agg y.cells] w fun e w' => e = .returned (.bool (sameB x L y M)) ∧ Below w.heap.size w w' := by
  have K := fun W (hb : Below w.heap.size w W) => equal_any (c := x.sc) (d := y.sc) (hL.below hb) (hM.below hb) h1 h2
  simp only [← hn, ← hm] at K
  clear hL hM h1 h2 hn hm
  unfold sameB
  obtain ⟨xk, xd, xa, xb, xn, xnm, xsa, xsn, xsc, xt, xf⟩ := x
  obtain ⟨yk, yd, ya, yb, yn, ynm, ysa, ysn, ysc, yt, yf⟩ := y
  unfold InsV.cells at *
  dsimp only at *
  generalize (L == M) = q at *
  generalize hnm : (xnm.toList == ynm.toList) = qn
  replace K := Lib.hid K
  go_enter Tryz.func42, Tryz.ntmps42
  go_wp2_with (go_at_call 70; refine (K.out _ (below_two _ _ _ _ _)).mono ?_; rintro e W2 ⟨rfl, hb2⟩)
  all_goals
    go_ret
    first
      | exact ⟨ret_bool (by simp [*]), (below_two _ _ _ _ _).trans (hb2.mono (below_two _ _ _ _ _).size)⟩
      | exact ⟨ret_bool (by simp [*]), below_two _ _ _ _ _⟩
end Go.Proofs.YtfnfijgknjnccaaGreatDoor
