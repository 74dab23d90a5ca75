/-
  MdcheckFirst: what Check answers of the machine.
-/
import Derived.Test.YtanbjaohmhoohaaGreatDoorFiA
import Derived.Test.YtanbjaohmhoohaaGreatDoorPan
namespace Go.Proofs.YtanbjaohmhoohaaGreatDoor
open Go.RowKit

theorem FMem.classesAt {w W : World} {B N : Nat} {v k : SlV} {nm : ByteArray} {sl tie wd : Int} {x h : Bool} (H : FMem w B N v k nm sl tie wd x h W) : ClassesAt W k (fiCls x h) := by
  obtain ⟨u, s, h1, h2, h3⟩ := H.cls
  obtain ⟨ka, kn, kc⟩ := k
  rcases h1.2 with ⟨_, hz⟩ | ⟨g, cap, cur, hv, _, _, hnc, _⟩
  · cases h <;> cases hz
  · dsimp only at h1 hv
    injection hv with e1 e2 e3
    subst e1 e2 e3
    refine ⟨?_, hnc, fun j y hj => ⟨g, 0, rfl, ?_⟩⟩
    · cases h <;> rfl
    · match j, hj with
      | 0, hj =>
        obtain rfl : (⟨nmG, fiNames x⟩ : ClassD) = y := by simpa [fiCls] using hj
        exact ⟨u, ownsRow_cell h1 (j := 0) rfl, ownsRow_cell h1 (j := 1) rfl, StrsAt.of_row h2 (by cases x <;> rfl)⟩
      | 1, hj =>
        cases h with
        | false => simp [fiCls] at hj
        | true =>
          obtain rfl : (⟨nmH, [nmR1]⟩ : ClassD) = y := by simpa [fiCls] using hj
          exact ⟨s, ownsRow_cell h1 (j := 2) rfl, ownsRow_cell h1 (j := 3) rfl, StrsAt.of_row h3 rfl⟩
      | j + 2, hj => cases h <;> simp [fiCls] at hj

theorem FMem.opsAt {w W : World} {B N : Nat} {v k : SlV} {nm : ByteArray} {sl tie wd : Int} {x h : Bool} (H : FMem w B N v k nm sl tie wd x h W) : OpsAt W ⟨some ⟨N + 1 + 1 + 1 + 1 + 1, 0, none⟩, 3, 3⟩ [fiOp tie, opNot, opDiv] :=
  ⟨rfl, Nat.le_refl _, fun j x hj => ⟨N + 1 + 1 + 1 + 1 + 1, 0, rfl, by
    match j, hj with
    | 0, hj => cases hj; exact ⟨⟨some ⟨N + 1 + 1, 0, none⟩, 2, 2⟩, ⟨none, 0, 0⟩, H.o.cell (j := 0) rfl, H.o.cell (j := 1) rfl, H.o.cell (j := 2) rfl, H.o.cell (j := 3) rfl, H.o.cell (j := 4) rfl, H.o.cell (j := 5) rfl, opersTwo H.u0, strsNil W⟩
    | 1, hj => cases hj; exact ⟨⟨some ⟨N + 1 + 1 + 1, 0, none⟩, 1, 1⟩, ⟨none, 0, 0⟩, H.o.cell (j := 6) rfl, H.o.cell (j := 7) rfl, H.o.cell (j := 8) rfl, H.o.cell (j := 9) rfl, H.o.cell (j := 10) rfl, H.o.cell (j := 11) rfl, opersOne H.u1, strsNil W⟩
    | 2, hj => cases hj; exact ⟨⟨some ⟨N + 1 + 1 + 1 + 1, 0, none⟩, 2, 2⟩, ⟨none, 0, 0⟩, H.o.cell (j := 12) rfl, H.o.cell (j := 13) rfl, H.o.cell (j := 14) rfl, H.o.cell (j := 15) rfl, H.o.cell (j := 16) rfl, H.o.cell (j := 17) rfl, opersTwo H.u2, strsNil W⟩
    | j + 3, hj => simp at hj⟩⟩

theorem FMem.argsAt {w W : World} {B N : Nat} {v k : SlV} {nm : ByteArray} {sl tie wd : Int} {x h : Bool} (H : FMem w B N v k nm sl tie wd x h W) : StrsAt W ⟨some ⟨N + 1 + 1 + 1 + 1 + 1 + 1, 0, none⟩, 1, 1⟩ [nmR] :=
  ⟨rfl, Nat.le_refl _, fun j x hj => ⟨N + 1 + 1 + 1 + 1 + 1 + 1, 0, rfl, by
    match j, hj with
    | 0, hj => cases hj; exact H.a.cell (j := 0) rfl
    | j + 1, hj => simp at hj⟩⟩

theorem idx_not (tie : Int) : idxP (fun x : OpD => eqB x.name opNot.name) [fiOp tie] = -1 := by
  have : eqB (fiOp tie).name opNot.name = false := decide_eq_false (by decide +kernel : (⟨#[97, 100, 100]⟩ : ByteArray) ≠ ⟨#[110, 111, 116]⟩)
  unfold idxP; simp [List.findIdx?_cons, this]
theorem idx_div (tie : Int) : idxP (fun x : OpD => eqB x.name opDiv.name) [fiOp tie, opNot] = -1 := by
  have h1 : eqB (fiOp tie).name opDiv.name = false := decide_eq_false (by decide +kernel : (⟨#[97, 100, 100]⟩ : ByteArray) ≠ ⟨#[100, 105, 118]⟩)
  have h2 : eqB opNot.name opDiv.name = false := decide_eq_false (by decide +kernel : (⟨#[110, 111, 116]⟩ : ByteArray) ≠ ⟨#[100, 105, 118]⟩)
  unfold idxP; simp [List.findIdx?_cons, h1, h2]
theorem idx_h (x : Bool) : idxP (fun y : ClassD => eqB y.name nmH) [⟨nmG, fiNames x⟩] = -1 := by
  have : eqB nmG nmH = false := by decide +kernel
  unfold idxP; simp [List.findIdx?_cons, this]

theorem fi_checked {w W : World} {B N : Nat} {v k : SlV} {b3 b4 x h : Bool} (H : FMem w B N v k ⟨#[109]⟩ (fiSl b4) (fiTie b3) 8 x h W) (hE : Env W) :
    Calls Tryz.prog 11 #[(fiMV N v k ⟨#[109]⟩ (fiSl b4)).val] W fun e w' => e = .returned (.int .i64 (cond x 8 (cond b3 9 (cond b4 10 (cond h 11 0))))) ∧ Below W.heap.size W w' := by
  refine check_mk (n := 4) (d := fiD x h (fiTie b3) (fiSl b4)) (readable_mk hE (by decide) (by decide) (H.regs) rfl rfl nmM_ok H.classesAt ?_ ?_ ?_ H.opsAt ?_ ?_ ?_ H.argsAt (strsNil W)) (fi_check x b3 b4 h)
  · intro k hk
    have : k.name = nmG ∨ k.name = nmH := by
      cases h
      · have : k = ⟨nmG, fiNames x⟩ := by simpa [fiD, fiCls] using hk
        exact .inl (by rw [this])
      · have : k = ⟨nmG, fiNames x⟩ ∨ k = ⟨nmH, [nmR1]⟩ := by simpa [fiD, fiCls] using hk
        rcases this with h | h
        · exact .inl (by rw [h])
        · exact .inr (by rw [h])
    rcases this with h | h <;> rw [h]
    · exact nmG_ok
    · exact nmH_ok
  · intro i k hi
    match i, hi with
    | 0, hi => rfl
    | 1, hi =>
      cases h with
      | false => simp [fiD, fiCls] at hi
      | true =>
        obtain rfl : (⟨nmH, [nmR1]⟩ : ClassD) = k := by simpa [fiD, fiCls] using hi
        exact idx_h x
    | i + 2, hi => cases h <;> simp [fiD, fiCls] at hi
  · intro k hk
    have : k.name = nmG ∨ k.name = nmH := by
      cases h
      · have : k = ⟨nmG, fiNames x⟩ := by simpa [fiD, fiCls] using hk
        exact .inl (by rw [this])
      · have : k = ⟨nmG, fiNames x⟩ ∨ k = ⟨nmH, [nmR1]⟩ := by simpa [fiD, fiCls] using hk
        rcases this with h | h
        · exact .inl (by rw [h])
        · exact .inr (by rw [h])
    rcases this with h | h <;> rw [h] <;> decide +kernel
  · intro o ho
    have : o = fiOp (fiTie b3) ∨ o = opNot ∨ o = opDiv := by simpa [fiD] using ho
    rcases this with rfl | rfl | rfl
    · exact fi_nice x h b3
    · exact .inl (fi_nice1 x h)
    · exact .inl (fi_nice2 x h)
  · intro o ho
    have : o = fiOp (fiTie b3) ∨ o = opNot ∨ o = opDiv := by simpa [fiD] using ho
    rcases this with rfl | rfl | rfl
    · show 2 ≤ 100000; omega
    · show 1 ≤ 100000; omega
    · show 2 ≤ 100000; omega
  · intro i o hi
    match i, hi with
    | 0, hi => rfl
    | 1, hi => cases hi; exact idx_not _
    | 2, hi => cases hi; exact idx_div _
    | i + 3, hi => simp [fiD] at hi

theorem fi_fell {w W : World} {B N : Nat} {v k : SlV} {sl tie : Int} {x h : Bool} (H : FMem w B N v k ⟨#[109]⟩ sl tie 0 x h W) (hE : Env W) (hA : EnvA W) :
    Calls Tryz.prog 11 #[(fiMV N v k ⟨#[109]⟩ sl).val] W fun e w' => e = .returned (.int .i64 6) ∧ Below W.heap.size W w' := by
  refine check_early true 6 (by decide) (fun V hb => mdIsName_yes _ V (hE.below hb) nmM_ok.1 nmM_ok.2) (fun h => absurd h (by decide)) fun _ V hb => ?_
  have hr := ownsRow_below H.regs hb
  obtain ⟨g, cap, hv⟩ := ownsRow_succ hr
  have hgl : g < V.heap.size := by
    rw [hv] at hr
    obtain ⟨_, cur, hcur⟩ := ownsRow_block hr rfl
    exact hcur.lt
  rw [hv] at hr
  show Calls _ _ #[.slice v.a v.n v.c] _ _
  rw [hv]
  refine places_pL [(sname 0, 8), (sname 1, 8), (sname 2, 8)] [] (sname 3, 0) 6 g cap 4 V (hE.below hb) (hA.below hb) hgl rfl (by decide) (fun j y hj => ownsRow_cell hr ?_) ?_ (by decide +kernel) (sname_ok 3 (by decide)) (.inr ⟨rfl, ?_, by decide⟩)
  · exact hj
  rotate_left
  · intro hm
    have h2 : sname 3 = sname 0 ∨ sname 3 = sname 1 ∨ sname 3 = sname 2 := by simpa using hm
    exact absurd h2 (by decide +kernel)
  · intro q hq
    have : q = (sname 0, 8) ∨ q = (sname 1, 8) ∨ q = (sname 2, 8) := by simpa using hq
    rcases this with rfl | rfl | rfl
    · exact ⟨sname_ok 0 (by decide), by decide, by decide⟩
    · exact ⟨sname_ok 1 (by decide), by decide, by decide⟩
    · exact ⟨sname_ok 2 (by decide), by decide, by decide⟩
end Go.Proofs.YtanbjaohmhoohaaGreatDoor
