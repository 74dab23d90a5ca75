/-
  Check, Fits and Pair of any machine that lies in memory, whatever is wrong with it.
-/
import Derived.Test.YtfhllbnpkcgfdaaGreatDoorMdZ
import Derived.Deep.RegionLaw
import Derived.Deep.RegionHeld3
/-! Check, Fits and Pair of any machine that lies in memory, whatever is wrong with it. -/
namespace Go.Proofs.YtfhllbnpkcgfdaaGreatDoor
open Go.RowKit
theorem HoldsAt.below {W W' : World} (hb : Below W.heap.size W W') : ∀ {L : RegL} {b o : Nat}, HoldsAt W.heap.size W b o L → HoldsAt W'.heap.size W' b o L
  | .nil, _, _, _ => trivial
  | .cons _ _ _ _ _ _, _, _, ⟨h1, h2, h3, h4⟩ => ⟨Nat.lt_of_lt_of_le h1 hb.size, regAt_of h2 (fun _ _ hv => cell_below hb hv), HoldsAt.below hb h3,
      h4.imp id fun ⟨b', o', c', e1, e2, e3, e4⟩ => ⟨b', o', c', e1, e2, e3, HoldsAt.below hb e4⟩⟩
/-- Registers within registers, as a slice that may be nil. -/
def RegsIn (w : World) (s : SlV) (L : RegL) : Prop :=
  (s = ⟨none, 0, 0⟩ ∧ L = .nil) ∨ ∃ b o c, s = ⟨some ⟨b, o, none⟩, L.length, c⟩ ∧ HoldsAt w.heap.size w b o L ∧ L.length ≤ 4611686018427387904
/-- A machine that lies in memory: m is how it lies, d what it says, L its registers. -/
structure MachAt (w : World) (m : MV) (d : MachD) (L : RegL) : Prop where
  env : Env w
  envA : EnvA w
  same : m.name = d.name
  result : m.result = d.result
  slots : m.slots = d.slots
  regs : RegsIn w m.regs L
  classes : ClassesAt w m.classes d.classes
  ops : OpsAt w m.ops d.ops
  oub : ∀ o : OpD, o ∈ d.ops → o.uses.length ≤ 100000
  args : StrsAt w m.args d.args
  saved : StrsAt w m.saved d.saved
/-- The first error of its registers. -/
def regsE (L : RegL) : Int := placesErr nameB [] (spotsOutA 0 L)
theorem MachAt.places {w : World} {m : MV} {d : MachD} {L : RegL} (h : MachAt w m d L) (W : World) (hb : Below w.heap.size w W) :
    Calls Tryz.prog 42 #[.slice m.regs.a m.regs.n m.regs.c] W fun e w' => (regsE L = 0 → PlacesPost W (spotsOut 0 L) e w') ∧ (regsE L ≠ 0 → PlacesFell W (regsE L) e w') := by
  rcases h.regs with ⟨hs, rfl⟩ | ⟨b, o, c, hs, hL, hl⟩
  · rw [hs]
    exact (places_none W (h.env.below hb)).mono fun e w' hp => ⟨fun _ => hp, fun hn => absurd rfl hn⟩
  · rw [hs]
    exact places_any b o c L W (h.env.below hb) (h.envA.below hb) (fun s V hs hV => by
      have := geomIsName_any s V ((h.env.below hb).below hV)
      rw [hs] at this; exact this) (hL.below hb) hl
/-- What is right of registers that Places takes. -/
theorem regsE_right {w : World} {b o : Nat} {L : RegL} (hL : HoldsAt w.heap.size w b o L) (h0 : regsE L = 0) : (spotsOut 0 L).length ≤ 200 ∧ ∀ p, p ∈ (spotsOut 0 L).map Spot.place → PlcOk p := by
  rcases placesErr_cases nameB (spotsOutA 0 L) [] with ⟨_, hgood⟩ | ⟨pre, p, post, hcut, hgood, hbad, he⟩
  · have hRall : ∀ q, q ∈ spotsOutA 0 L → Right q := all_by fun pre p post h hq => Right.of (ctx_out L b o 0 hL pre p post h hq) (hgood pre p post h)
    have hfew := few_right (nm := nameB) (l := spotsOutA 0 L) (fun pre q post h => by simpa using hgood pre q post h)
    refine ⟨by rw [← spotsOutA_fst]; simpa using hfew, fun x hx => ?_⟩
    obtain ⟨s, hs, rfl⟩ := List.mem_map.1 hx
    rw [← spotsOutA_fst] at hs
    obtain ⟨q, hq, rfl⟩ := List.mem_map.1 hs
    obtain ⟨pre, post, h⟩ := List.append_of_mem hq
    have hc := ctx_out L b o 0 hL pre q post h (fun r hr => hRall r (by rw [h]; exact List.mem_append_left _ hr))
    obtain ⟨q1, q2, q3, q4, q5⟩ := hRall q hq
    have := hc.a1; have := hc.a2; have := hc.d1
    exact ⟨show 0 ≤ q.1.aAt + q.1.at_ by omega, show q.1.aAt + q.1.at_ ≤ 1000 by omega, show 1 ≤ q.1.wd by omega, show q.1.wd ≤ 1000 by omega⟩
  · exfalso
    exact hbad (by rw [← he]; exact h0)
theorem MachAt.read {w : World} {m : MV} {d : MachD} {L : RegL} (h : MachAt w m d L) (hn : nameB d.name = true) (he : regsE L = 0) (hne : spotsOut 0 L ≠ []) : ReadB w m d (spotsOut 0 L) := by
  have hr : (spotsOut 0 L).length ≤ 200 ∧ ∀ p, p ∈ (spotsOut 0 L).map Spot.place → PlcOk p := by
    rcases h.regs with ⟨_, rfl⟩ | ⟨b, o, c, _, hL, _⟩
    · exact absurd rfl hne
    · exact regsE_right hL he
  exact {
    env := h.env
    result := h.result
    slots := h.slots
    name := hn
    same := h.same
    ne := hne
    few := hr.1
    ok := hr.2
    places := fun W hb => (h.places W hb).mono fun e w' hp => hp.1 he
    classes := h.classes
    ops := h.ops
    oub := h.oub
    args := h.args
    saved := h.saved }
/-- A machine falls at its name, or at its registers. -/
def fallX (d : MachD) (L : RegL) : Int := if nameB d.name = false then 5 else if regsE L ≠ 0 then regsE L else if spotsOut 0 L = [] then 1 else 0
theorem MachAt.falls {w : World} {m : MV} {d : MachD} {L : RegL} (h : MachAt w m d L) (hx : fallX d L ≠ 0) (hn : nameB d.name = true) (W : World) (hb : Below w.heap.size w W) (hC : ChkAt W (w.heap.size + 1) m.fresh) :
    Calls Tryz.prog 20 #[.pointer (some ⟨w.heap.size + 1, 0, none⟩)] W fun e w' => e = .returned (.int .i64 (fallX d L)) ∧ Below w.heap.size w w' := by
  unfold fallX at hx ⊢
  rw [if_neg (by simp [hn])] at hx ⊢
  by_cases h1 : regsE L ≠ 0
  · rw [if_pos h1] at hx ⊢
    exact readRegs_fell (w.heap.size + 1) _ _ w W hb (by omega) hC h1 ((h.places W hb).mono fun e w' hp => hp.2 h1)
  · have h1 := Classical.not_not.1 h1
    rw [if_neg (by simp [h1])] at hx ⊢
    by_cases h2 : spotsOut 0 L = []
    · rw [if_pos h2]
      exact readRegs_none (w.heap.size + 1) m w W hb (by omega) hC ((h.places W hb).mono fun e w' hp => by have := hp.1 h1; rw [h2] at this; exact this)
    · rw [if_neg h2] at hx; exact absurd rfl hx
/-- What Check answers of any machine. -/
theorem check_all {w : World} {m : MV} {d : MachD} {L : RegL} (h : MachAt w m d L) :
    Calls Tryz.prog 7 #[m.val] w fun e w' => e = .returned (.int .i64 (checkS nameB d (regsE L) ((spotsOut 0 L).map (·.name)) ((spotsOut 0 L).map Spot.place))) ∧ Below w.heap.size w w' := by
  by_cases hx : fallX d L = 0
  · have hx' := hx
    unfold fallX at hx'
    have hn : nameB d.name = true := by
      cases hn : nameB d.name
      · rw [if_pos hn] at hx'; cases hx'
      · rfl
    rw [if_neg (by simp [hn])] at hx'
    have he : regsE L = 0 := by
      by_cases he : regsE L = 0
      · exact he
      · rw [if_pos he] at hx'; exact hx'
    rw [if_neg (by simp [he])] at hx'
    have hne : spotsOut 0 L ≠ [] := fun h2 => by rw [if_pos h2] at hx'; cases hx'
    have := check_read (h.read hn he hne)
    rw [he]; exact this
  · have hX : checkS nameB d (regsE L) ((spotsOut 0 L).map (·.name)) ((spotsOut 0 L).map Spot.place) = fallX d L := by
      have hx' := hx
      unfold fallX at hx' ⊢
      unfold checkS
      by_cases hn : nameB d.name = false
      · rw [if_pos hn, if_pos hn]
      · rw [if_neg hn] at hx' ⊢
        rw [if_neg hn]
        by_cases he : regsE L ≠ 0
        · rw [if_pos he, if_pos he]
        · rw [if_neg he] at hx' ⊢
          rw [if_neg he]
          by_cases h2 : spotsOut 0 L = []
          · rw [if_pos h2, if_pos (by rw [h2]; rfl)]
          · rw [if_neg h2] at hx'; exact absurd rfl hx'
    rw [hX]
    refine check_one (nameB d.name) (fallX d L) hx (fun W hb => by have := mdIsName_any d.name W (h.env.below hb); rw [h.same]; exact this) (fun hn => ?_) (fun hn W hb hC => h.falls hx hn W hb hC)
    unfold fallX
    rw [if_pos hn]
end Go.Proofs.YtfhllbnpkcgfdaaGreatDoor
/-! Fits and Pair of any machine that lies in memory, for any numbers. -/
namespace Go.Proofs.YtfhllbnpkcgfdaaGreatDoor
open Go.RowKit
set_option maxHeartbeats 1000000 in
/-- The first point that finds an error, of a machine that falls at its name or at its registers. -/
theorem first_early {w : World} {m : MV} {d : MachD} {L : RegL} (h : MachAt w m d L) (hx : fallX d L ≠ 0) (N : Nat) (hN2 : 2 ≤ N) (hN : N ≤ 7) :
    Calls Tryz.prog 18 #[.slice (some ⟨w.heap.size + 1 + 1, 0, none⟩) N N] (worldF w m N) fun e w' => e = .returned (.int .i64 (fallX d L)) ∧ Below w.heap.size w w' := by
  obtain ⟨hBF, hCh, hF⟩ := worldF_start (w := w) (m := m) N
  have hl : (ptFns.take N).length = N := by rw [List.length_take]; exact Nat.min_eq_left hN
  have h5 : nameB d.name = false → fallX d L = 5 := fun hn => by unfold fallX; rw [if_pos hn]
  have F := first_any (w.heap.size + 1) (w.heap.size + 1 + 1) (ptFns.take N)
    (fun k W => (k = 0 ∨ k = 1 ∧ nameB d.name = true) ∧ Below w.heap.size w W ∧ ChkAt W (w.heap.size + 1) m.fresh ∧ Cells W (w.heap.size + 1 + 1) 59 (ptCells (w.heap.size + 1) (ptFns.take N)))
    (fun y W => y = fallX d L ∧ Below w.heap.size w W) (worldF w m N) (by omega) (fun k W h => h.2.2.2) (fun f hf => ptEnters f (List.mem_of_mem_take hf))
    (fun k f hf W ⟨hk, hb, hC, hFn⟩ => by
      have hkN : k < N := by have := (List.getElem?_eq_some_iff.1 hf).1; omega
      have hf' : ptFns[k]? = some f := by rw [List.getElem?_take] at hf; simpa [hkN] using hf
      rcases hk with rfl | ⟨rfl, hok⟩
      · cases hf'
        have hn := mdIsName_any d.name W (h.env.below hb)
        refine (checkName_any (w.heap.size + 1) _ (nameB d.name) W hC (by have he : m.fresh.m.name = d.name := h.same
                                                                          rw [he]; exact hn)).mono fun e W' ⟨he, hb'⟩ => ⟨_, he, fun h0 => ⟨.inr ⟨rfl, ?_⟩, hb.trans (hb'.mono hb.size), hC.below hb' hC.lt, hFn.below hb' hFn.lt⟩, fun h0 => ⟨?_, hb.trans (hb'.mono hb.size)⟩⟩
        · cases hnm : nameB d.name with
          | true => rfl
          | false => rw [hnm] at h0; exact absurd h0 (by decide)
        · cases hnm : nameB d.name with
          | true => rw [hnm] at h0; exact absurd rfl h0
          | false => exact (h5 hnm).symm
      · cases hf'
        refine (h.falls hx hok W hb hC).mono fun e W' ⟨he, hb'⟩ => ⟨_, he, fun h0 => absurd h0 hx, fun _ => ⟨rfl, hb'⟩⟩)
    ⟨.inl rfl, hBF, hCh, hF⟩
  rw [hl] at F
  refine F.mono fun e W' ⟨y, he, h1, h2⟩ => ?_
  by_cases hy : y = 0
  · rcases (h1 hy).1 with h | ⟨h, _⟩ <;> omega
  · obtain ⟨rfl, hb⟩ := h2 hy
    exact ⟨he, hb⟩
/-- What first answers if there is an error. -/
def FirstBad (w : World) (m : MV) (N : Nat) : Prop :=
  Calls Tryz.prog 18 #[.slice (some ⟨w.heap.size + 1 + 1, 0, none⟩) N N] (worldF w m N) fun e w' => ∃ x, x ≠ 0 ∧ e = .returned (.int .i64 x) ∧ Below w.heap.size w w'
theorem MachAt.bad {w : World} {m : MV} {d : MachD} {L : RegL} (h : MachAt w m d L) (hx : fallX d L ≠ 0) (N : Nat) (hN2 : 2 ≤ N) (hN : N ≤ 7) : FirstBad w m N :=
  (first_early h hx N hN2 hN).mono fun _ _ ⟨he, hb⟩ => ⟨_, hx, he, hb⟩
theorem ReadB.bad {w : World} {m : MV} {d : MachD} {E : List Spot} (hR : ReadB w m d E) (N : Nat) (hN : N ≤ 7) {j : Nat} (hj : j < N) (hx : ptB d (E.map (·.name)) (E.map Spot.place) j ≠ 0) : FirstBad w m N := by
  letI : Inhabited Ghost := ⟨⟨w.heap.size + 1 + 1, ptCells (w.heap.size + 1) (ptFns.take N)⟩⟩
  obtain ⟨hBF, hCh, hF⟩ := worldF_start (w := w) (m := m) N
  refine (firstPointsB hR (C := w.heap.size + 1) (by omega) N hN rfl (worldF w m N) ⟨hBF, hCh, hF⟩).mono fun e W ⟨x, he, g1, g2⟩ => ?_
  by_cases h0 : x = 0
  · exact absurd ((g1 h0).2 j hj) hx
  · exact ⟨x, h0, he, (g2 h0).1⟩
set_option maxRecDepth 100000 in
set_option maxHeartbeats 4000000 in
theorem fits_err {w : World} {m : MV} (K : FirstBad w m 4) (k : Int) :
    Calls Tryz.prog 13 #[m.val, .int .i64 k] w fun e w' => e = .returned (.bool false) ∧ Below w.heap.size w w' := by
  unfold FirstBad worldF MV.fresh CV.cells ptCells ptFns at K
  unfold MV.val
  simp only [List.take_succ_cons, List.take_zero, List.map_cons, List.map_nil] at K
  go_enter Tryz.func13, Tryz.ntmps13
  go_wp2_with (go_at_call 18; refine K.mono ?_; clear K; rintro e W1 ⟨x, hx, rfl, hb⟩)
  go_ret
  exact ⟨rfl, hb⟩
set_option maxRecDepth 100000 in
set_option maxHeartbeats 4000000 in
/-- Fits of a number that is none of an operation. -/
theorem fits_out {w : World} {m : MV} {d : MachD} {E : List Spot} (hR : ReadB w m d E) (h0 : classesS nameB (E.map (·.name)) (E.map Spot.place) d.classes = 0) (h1 : opsS (E.map (·.name)) (E.map Spot.place) d.classes d.ops = 0) (k : Int) (hk : k < 0 ∨ (d.ops.length : Int) ≤ k) :
    Calls Tryz.prog 13 #[m.val, .int .i64 k] w fun e w' => e = .returned (.bool false) ∧ Below w.heap.size w w' := by
  have K : Calls Tryz.prog 18 #[.slice (some ⟨w.heap.size + 1 + 1, 0, none⟩) 4 4] (worldF w m 4) fun e W => e = .returned (.int .i64 0) ∧ Below w.heap.size w W ∧
      ∃ (a : Option Addr) (oc : Nat), W.cell? ⟨w.heap.size + 1, 11, none⟩ = some (.slice a d.ops.length oc) := by
    letI : Inhabited Ghost := ⟨⟨w.heap.size + 1 + 1, ptCells (w.heap.size + 1) (ptFns.take 4)⟩⟩
    obtain ⟨hBF, hCh, hF⟩ := worldF_start (w := w) (m := m) 4
    refine (firstPointsB hR (C := w.heap.size + 1) (by omega) 4 (by omega) rfl (worldF w m 4) ⟨hBF, hCh, hF⟩).mono fun e W ⟨x, he, g1, g2⟩ => ?_
    by_cases hx : x = 0
    · obtain ⟨⟨_, nV, pV, cV, oV, hRd⟩, _⟩ := g1 hx
      have c11 := hRd.st.chk.cell (j := 11) (v := .slice oV.a oV.n oV.c) rfl
      have hln := hRd.ops.len
      dsimp only at hln
      rw [List.length_map] at hln
      rw [hln] at c11
      exact ⟨by rw [he, hx], hRd.st.below, _, _, c11⟩
    · obtain ⟨_, j, hj, hxj, _⟩ := g2 hx
      exfalso
      apply hx
      rw [hxj]
      match j, hj with
      | 0, _ => rfl
      | 1, _ => rfl
      | 2, _ => exact h0
      | 3, _ => exact h1
  unfold worldF MV.fresh CV.cells ptCells ptFns at K
  unfold MV.val
  simp only [List.take_succ_cons, List.take_zero, List.map_cons, List.map_nil] at K
  clear hR h0 h1
  by_cases hneg : k < 0
  · have hneg2 : ¬ (0 : Int) ≤ k := by omega
    clear hk
    go_enter Tryz.func13, Tryz.ntmps13
    go_wp2_with (go_at_call 18; refine K.mono ?_; clear K; rintro e W1 ⟨rfl, hb, a, oc, c11⟩)
    go_ret
    exact ⟨rfl, hb⟩
  · have hpos : (0 : Int) ≤ k := by omega
    have hge : ¬ k < (d.ops.length : Int) := by omega
    clear hk hneg
    go_enter Tryz.func13, Tryz.ntmps13
    go_wp2_with (go_at_call 18; refine K.mono ?_; clear K; rintro e W1 ⟨rfl, hb, a, oc, c11⟩)
    go_ret
    exact ⟨rfl, hb⟩
end Go.Proofs.YtfhllbnpkcgfdaaGreatDoor
/-! Pair of any machine that lies in memory, for any numbers. -/
namespace Go.Proofs.YtfhllbnpkcgfdaaGreatDoor
open Go.RowKit
set_option maxRecDepth 100000 in
set_option maxHeartbeats 4000000 in
theorem pair_err {w : World} {m : MV} (K : FirstBad w m 3) (i j : Int) :
    Calls Tryz.prog 14 #[m.val, .int .i64 i, .int .i64 j] w fun e w' => e = .returned (.bool false) ∧ Below w.heap.size w w' := by
  unfold FirstBad worldF MV.fresh CV.cells ptCells ptFns at K
  unfold MV.val
  simp only [List.take_succ_cons, List.take_zero, List.map_cons, List.map_nil] at K
  go_enter Tryz.func14, Tryz.ntmps14
  go_wp2_with (go_at_call 18; refine K.mono ?_; clear K; rintro e W1 ⟨x, hx, rfl, hb⟩)
  have hx2 : (x == (0 : Int)) = false := by simpa using hx
  refine wp_region_held_drew (S := fun _ => True) (by kernel_rfl) ?_ (fun hH => ?_)
  · trivial
  refine wpAnyH_takeD 0 (some 16) (.int .i64 x) rfl (by kernel_rfl) (by kernel_rfl) (by kernel_rfl) (by kernel_rfl) (fun _ _ _ h => h) (Or.inl ⟨by kernel_rfl, fun w _ => by go_simp⟩) hH ?_
  try simp only [Act.put, List.setIfInBounds_toArray, List.set_cons_zero, List.set_cons_succ]
  refine wpAnyH_takeD 1 (some 17) (.bool false) rfl (by kernel_rfl) (by kernel_rfl) (by kernel_rfl) (by kernel_rfl) (fun _ _ _ h => h) (Or.inl ⟨by kernel_rfl, fun w _ => by go_simp⟩) hH ?_
  try simp only [Act.put, List.setIfInBounds_toArray, List.set_cons_zero, List.set_cons_succ]
  refine wpAnyH_takeD 2 (some 18) (.bool false) rfl (by kernel_rfl) (by kernel_rfl) (by kernel_rfl) (by kernel_rfl) (fun _ _ _ h => h) (Or.inl ⟨by kernel_rfl, fun w _ => by go_simp⟩) hH ?_
  try simp only [Act.put, List.setIfInBounds_toArray, List.set_cons_zero, List.set_cons_succ]
  refine wpAnyH_skips 25 (by kernel_rfl) (fun d _ _ _ h => by cases d <;> exact h) hH [(3, some 19), (4, some 20), (5, some 21), (6, some 22)] (by kernel_rfl) ?_
  simp only [skipA, Act.put, List.setIfInBounds_toArray, List.set_cons_succ, List.set_cons_zero]
  refine wpAnyH_takeD 7 (some 23) (.bool false) rfl (by kernel_rfl) (by kernel_rfl) (by kernel_rfl) (by kernel_rfl) (fun _ _ _ h => h) (Or.inl ⟨by kernel_rfl, fun w _ => by go_simp⟩) hH ?_
  try simp only [Act.put, List.setIfInBounds_toArray, List.set_cons_zero, List.set_cons_succ]
  refine wpAnyH_takeD 8 (some 24) (.bool false) rfl (by kernel_rfl) (by kernel_rfl) (by kernel_rfl) (by kernel_rfl) (fun _ _ _ h => h) (Or.inl ⟨by kernel_rfl, fun w _ => by go_simp⟩) hH ?_
  try simp only [Act.put, List.setIfInBounds_toArray, List.set_cons_zero, List.set_cons_succ]
  refine wpAnyH_skips 16 (by kernel_rfl) (fun d _ _ _ h => by cases d <;> exact h) hH [(9, some 25), (10, some 26), (11, some 27), (12, some 28), (13, some 29), (14, some 30), (15, some 31)] (by kernel_rfl) ?_
  simp only [skipA, Act.put, List.setIfInBounds_toArray, List.set_cons_succ, List.set_cons_zero]
  refine wpAnyH_takeD 16 (some 32) (.bool false) rfl (by kernel_rfl) (by kernel_rfl) (by kernel_rfl) (by kernel_rfl) (fun _ _ _ h => h) (Or.inl ⟨by kernel_rfl, fun w _ => by go_simp⟩) hH ?_
  try simp only [Act.put, List.setIfInBounds_toArray, List.set_cons_zero, List.set_cons_succ]
  refine wpAnyH_takeD 17 (some 33) (.bool false) rfl (by kernel_rfl) (by kernel_rfl) (by kernel_rfl) (by kernel_rfl) (fun _ _ _ h => h) (Or.inl ⟨by kernel_rfl, fun w _ => by go_simp⟩) hH ?_
  try simp only [Act.put, List.setIfInBounds_toArray, List.set_cons_zero, List.set_cons_succ]
  refine wpAnyH_skips 2 (by kernel_rfl) (fun d _ _ _ h => by cases d <;> exact h) hH [(18, some 34), (19, some 35), (20, some 36), (21, some 37), (22, some 38), (23, some 39), (24, some 40), (25, some 41), (26, some 42), (27, some 43), (28, some 44), (29, some 45)] (by kernel_rfl) ?_
  simp only [skipA, Act.put, List.setIfInBounds_toArray, List.set_cons_succ, List.set_cons_zero]
  refine wpAnyH_takeD 30 (some 46) (.bool false) rfl (by kernel_rfl) (by kernel_rfl) (by kernel_rfl) (by kernel_rfl) (fun _ _ _ h => h) (Or.inl ⟨by kernel_rfl, fun w _ => by go_simp⟩) hH ?_
  try simp only [Act.put, List.setIfInBounds_toArray, List.set_cons_zero, List.set_cons_succ]
  refine wpAnyH_takeD 31 (some 6) (.bool false) rfl (by kernel_rfl) (by kernel_rfl) (by kernel_rfl) (by kernel_rfl) (fun _ _ _ h => h) (Or.inl ⟨by kernel_rfl, fun w _ => by go_simp⟩) hH ?_
  try simp only [Act.put, List.setIfInBounds_toArray, List.set_cons_zero, List.set_cons_succ]
  refine wpAnyH_done (by kernel_rfl) ?_ _
  try simp only [Act.put, List.setIfInBounds_toArray, List.set_cons_zero, List.set_cons_succ]
  go_wp2_with fail
  go_ret
  first | exact ⟨rfl, hb⟩ | exact ⟨rfl, hb.drew⟩
set_option maxRecDepth 100000 in
set_option maxHeartbeats 4000000 in
/-- Pair of numbers of which one is none of a class. -/
theorem pair_out {w : World} {m : MV} {d : MachD} {E : List Spot} (hR : ReadB w m d E) (h0 : classesS nameB (E.map (·.name)) (E.map Spot.place) d.classes = 0) (i j : Int) (hk : min i j < 0 ∨ (d.classes.length : Int) ≤ max i j) :
    Calls Tryz.prog 14 #[m.val, .int .i64 i, .int .i64 j] w fun e w' => e = .returned (.bool false) ∧ Below w.heap.size w w' := by
  have K : Calls Tryz.prog 18 #[.slice (some ⟨w.heap.size + 1 + 1, 0, none⟩) 3 3] (worldF w m 3) fun e W => e = .returned (.int .i64 0) ∧ Below w.heap.size w W ∧
      ∃ (a : Option Addr) (cc : Nat), W.cell? ⟨w.heap.size + 1, 10, none⟩ = some (.slice a d.classes.length cc) := by
    letI : Inhabited Ghost := ⟨⟨w.heap.size + 1 + 1, ptCells (w.heap.size + 1) (ptFns.take 3)⟩⟩
    obtain ⟨hBF, hCh, hF⟩ := worldF_start (w := w) (m := m) 3
    refine (firstPointsB hR (C := w.heap.size + 1) (by omega) 3 (by omega) rfl (worldF w m 3) ⟨hBF, hCh, hF⟩).mono fun e W ⟨x, he, g1, g2⟩ => ?_
    by_cases hx : x = 0
    · obtain ⟨⟨_, nV, pV, cV, hS, hL⟩, _⟩ := g1 hx
      have hlen := hL.lists.len
      have c10 := hS.chk.cell (j := 10) (v := .slice cV.a cV.n cV.c) rfl
      have hll : (clsOf (E.map (·.name)) d.classes).length = d.classes.length := by simp [clsOf]
      rw [hlen, hll] at c10
      exact ⟨by rw [he, hx], hS.below, _, _, c10⟩
    · obtain ⟨_, q, hq, hxq, _⟩ := g2 hx
      exfalso
      apply hx
      rw [hxq]
      match q, hq with
      | 0, _ => rfl
      | 1, _ => rfl
      | 2, _ => exact h0
  unfold worldF MV.fresh CV.cells ptCells ptFns at K
  unfold MV.val
  simp only [List.take_succ_cons, List.take_zero, List.map_cons, List.map_nil] at K
  clear hR h0
  by_cases hneg : min i j < 0
  · have hneg2 : ¬ (0 : Int) ≤ min i j := by omega
    clear hk
    go_enter Tryz.func14, Tryz.ntmps14
    go_wp2_with (go_at_call 18; refine K.mono ?_; clear K; rintro e W1 ⟨rfl, hb, a, cc, c10⟩)
    have hneg3 : decide ((0 : Int) ≤ min i j) = false := by simpa using hneg
    refine wp_region_held_drew (S := fun _ => True) (by kernel_rfl) ?_ (fun hH => ?_)
    · trivial
    refine wpAnyH_takeD 0 (some 16) (.int .i64 0) rfl (by kernel_rfl) (by kernel_rfl) (by kernel_rfl) (by kernel_rfl) (fun _ _ _ h => h) (Or.inl ⟨by kernel_rfl, fun w _ => by go_simp⟩) hH ?_
    try simp only [Act.put, List.setIfInBounds_toArray, List.set_cons_zero, List.set_cons_succ]
    refine wpAnyH_takeD 1 (some 17) (.bool true) rfl (by kernel_rfl) (by kernel_rfl) (by kernel_rfl) (by kernel_rfl) (fun _ _ _ h => h) (Or.inl ⟨by kernel_rfl, fun w _ => by go_simp⟩) hH ?_
    try simp only [Act.put, List.setIfInBounds_toArray, List.set_cons_zero, List.set_cons_succ]
    refine wpAnyH_takeD 2 (some 18) (.bool true) rfl (by kernel_rfl) (by kernel_rfl) (by kernel_rfl) (by kernel_rfl) (fun _ _ _ h => h) (Or.inl ⟨by kernel_rfl, fun w _ => by go_simp⟩) hH ?_
    try simp only [Act.put, List.setIfInBounds_toArray, List.set_cons_zero, List.set_cons_succ]
    refine wpAnyH_takeD 3 (some 19) (.int .i64 i) rfl (by kernel_rfl) (by kernel_rfl) (by kernel_rfl) (by kernel_rfl) (fun _ _ _ h => h) (Or.inl ⟨by kernel_rfl, fun w _ => by go_simp⟩) hH ?_
    try simp only [Act.put, List.setIfInBounds_toArray, List.set_cons_zero, List.set_cons_succ]
    refine wpAnyH_takeD 4 (some 20) (.int .i64 j) rfl (by kernel_rfl) (by kernel_rfl) (by kernel_rfl) (by kernel_rfl) (fun _ _ _ h => h) (Or.inl ⟨by kernel_rfl, fun w _ => by go_simp⟩) hH ?_
    try simp only [Act.put, List.setIfInBounds_toArray, List.set_cons_zero, List.set_cons_succ]
    refine wpAnyH_takeD 5 (some 21) (.int .i64 (min i j)) rfl (by kernel_rfl) (by kernel_rfl) (by kernel_rfl) (by kernel_rfl) (fun _ _ _ h => h) (Or.inl ⟨by kernel_rfl, fun w _ => by go_simp⟩) hH ?_
    try simp only [Act.put, List.setIfInBounds_toArray, List.set_cons_zero, List.set_cons_succ]
    refine wpAnyH_takeD 6 (some 22) (.bool false) rfl (by kernel_rfl) (by kernel_rfl) (by kernel_rfl) (by kernel_rfl) (fun _ _ _ h => h) (Or.inl ⟨by kernel_rfl, fun w _ => by go_simp⟩) hH ?_
    try simp only [Act.put, List.setIfInBounds_toArray, List.set_cons_zero, List.set_cons_succ]
    refine wpAnyH_takeD 7 (some 23) (.bool false) rfl (by kernel_rfl) (by kernel_rfl) (by kernel_rfl) (by kernel_rfl) (fun _ _ _ h => h) (Or.inl ⟨by kernel_rfl, fun w _ => by go_simp⟩) hH ?_
    try simp only [Act.put, List.setIfInBounds_toArray, List.set_cons_zero, List.set_cons_succ]
    refine wpAnyH_takeD 8 (some 24) (.bool false) rfl (by kernel_rfl) (by kernel_rfl) (by kernel_rfl) (by kernel_rfl) (fun _ _ _ h => h) (Or.inl ⟨by kernel_rfl, fun w _ => by go_simp⟩) hH ?_
    try simp only [Act.put, List.setIfInBounds_toArray, List.set_cons_zero, List.set_cons_succ]
    refine wpAnyH_skips 16 (by kernel_rfl) (fun d _ _ _ h => by cases d <;> exact h) hH [(9, some 25), (10, some 26), (11, some 27), (12, some 28), (13, some 29), (14, some 30), (15, some 31)] (by kernel_rfl) ?_
    simp only [skipA, Act.put, List.setIfInBounds_toArray, List.set_cons_succ, List.set_cons_zero]
    refine wpAnyH_takeD 16 (some 32) (.bool false) rfl (by kernel_rfl) (by kernel_rfl) (by kernel_rfl) (by kernel_rfl) (fun _ _ _ h => h) (Or.inl ⟨by kernel_rfl, fun w _ => by go_simp⟩) hH ?_
    try simp only [Act.put, List.setIfInBounds_toArray, List.set_cons_zero, List.set_cons_succ]
    refine wpAnyH_takeD 17 (some 33) (.bool false) rfl (by kernel_rfl) (by kernel_rfl) (by kernel_rfl) (by kernel_rfl) (fun _ _ _ h => h) (Or.inl ⟨by kernel_rfl, fun w _ => by go_simp⟩) hH ?_
    try simp only [Act.put, List.setIfInBounds_toArray, List.set_cons_zero, List.set_cons_succ]
    refine wpAnyH_skips 2 (by kernel_rfl) (fun d _ _ _ h => by cases d <;> exact h) hH [(18, some 34), (19, some 35), (20, some 36), (21, some 37), (22, some 38), (23, some 39), (24, some 40), (25, some 41), (26, some 42), (27, some 43), (28, some 44), (29, some 45)] (by kernel_rfl) ?_
    simp only [skipA, Act.put, List.setIfInBounds_toArray, List.set_cons_succ, List.set_cons_zero]
    refine wpAnyH_takeD 30 (some 46) (.bool false) rfl (by kernel_rfl) (by kernel_rfl) (by kernel_rfl) (by kernel_rfl) (fun _ _ _ h => h) (Or.inl ⟨by kernel_rfl, fun w _ => by go_simp⟩) hH ?_
    try simp only [Act.put, List.setIfInBounds_toArray, List.set_cons_zero, List.set_cons_succ]
    refine wpAnyH_takeD 31 (some 6) (.bool false) rfl (by kernel_rfl) (by kernel_rfl) (by kernel_rfl) (by kernel_rfl) (fun _ _ _ h => h) (Or.inl ⟨by kernel_rfl, fun w _ => by go_simp⟩) hH ?_
    try simp only [Act.put, List.setIfInBounds_toArray, List.set_cons_zero, List.set_cons_succ]
    refine wpAnyH_done (by kernel_rfl) ?_ _
    try simp only [Act.put, List.setIfInBounds_toArray, List.set_cons_zero, List.set_cons_succ]
    go_wp2_with fail
    go_ret
    first | exact ⟨rfl, hb⟩ | exact ⟨rfl, hb.drew⟩
  · have hpos : (0 : Int) ≤ min i j := by omega
    have hge : ¬ max i j < (d.classes.length : Int) := by omega
    clear hk hneg
    go_enter Tryz.func14, Tryz.ntmps14
    go_wp2_with (go_at_call 18; refine K.mono ?_; clear K; rintro e W1 ⟨rfl, hb, a, cc, c10⟩)
    have hpos2 : decide ((0 : Int) ≤ min i j) = true := by simpa using hpos
    have hge2 : decide (max i j < (d.classes.length : Int)) = false := by simpa using hge
    refine wp_region_held_drew (S := fun w' => w'.cell? ⟨w.heap.size + 1, 10, none⟩ = some (.slice a d.classes.length cc)) (by kernel_rfl) ?_ (fun hH => ?_)
    · exact c10
    refine wpAnyH_takeD 0 (some 16) (.int .i64 0) rfl (by kernel_rfl) (by kernel_rfl) (by kernel_rfl) (by kernel_rfl) (fun _ _ _ h => h) (Or.inl ⟨by kernel_rfl, fun w _ => by go_simp⟩) hH ?_
    try simp only [Act.put, List.setIfInBounds_toArray, List.set_cons_zero, List.set_cons_succ]
    refine wpAnyH_takeD 1 (some 17) (.bool true) rfl (by kernel_rfl) (by kernel_rfl) (by kernel_rfl) (by kernel_rfl) (fun _ _ _ h => h) (Or.inl ⟨by kernel_rfl, fun w _ => by go_simp⟩) hH ?_
    try simp only [Act.put, List.setIfInBounds_toArray, List.set_cons_zero, List.set_cons_succ]
    refine wpAnyH_takeD 2 (some 18) (.bool true) rfl (by kernel_rfl) (by kernel_rfl) (by kernel_rfl) (by kernel_rfl) (fun _ _ _ h => h) (Or.inl ⟨by kernel_rfl, fun w _ => by go_simp⟩) hH ?_
    try simp only [Act.put, List.setIfInBounds_toArray, List.set_cons_zero, List.set_cons_succ]
    refine wpAnyH_takeD 3 (some 19) (.int .i64 i) rfl (by kernel_rfl) (by kernel_rfl) (by kernel_rfl) (by kernel_rfl) (fun _ _ _ h => h) (Or.inl ⟨by kernel_rfl, fun w _ => by go_simp⟩) hH ?_
    try simp only [Act.put, List.setIfInBounds_toArray, List.set_cons_zero, List.set_cons_succ]
    refine wpAnyH_takeD 4 (some 20) (.int .i64 j) rfl (by kernel_rfl) (by kernel_rfl) (by kernel_rfl) (by kernel_rfl) (fun _ _ _ h => h) (Or.inl ⟨by kernel_rfl, fun w _ => by go_simp⟩) hH ?_
    try simp only [Act.put, List.setIfInBounds_toArray, List.set_cons_zero, List.set_cons_succ]
    refine wpAnyH_takeD 5 (some 21) (.int .i64 (min i j)) rfl (by kernel_rfl) (by kernel_rfl) (by kernel_rfl) (by kernel_rfl) (fun _ _ _ h => h) (Or.inl ⟨by kernel_rfl, fun w _ => by go_simp⟩) hH ?_
    try simp only [Act.put, List.setIfInBounds_toArray, List.set_cons_zero, List.set_cons_succ]
    refine wpAnyH_takeD 6 (some 22) (.bool true) rfl (by kernel_rfl) (by kernel_rfl) (by kernel_rfl) (by kernel_rfl) (fun _ _ _ h => h) (Or.inl ⟨by kernel_rfl, fun w _ => by go_simp⟩) hH ?_
    try simp only [Act.put, List.setIfInBounds_toArray, List.set_cons_zero, List.set_cons_succ]
    refine wpAnyH_takeD 7 (some 23) (.bool true) rfl (by kernel_rfl) (by kernel_rfl) (by kernel_rfl) (by kernel_rfl) (fun _ _ _ h => h) (Or.inl ⟨by kernel_rfl, fun w _ => by go_simp⟩) hH ?_
    try simp only [Act.put, List.setIfInBounds_toArray, List.set_cons_zero, List.set_cons_succ]
    refine wpAnyH_takeD 8 (some 24) (.bool true) rfl (by kernel_rfl) (by kernel_rfl) (by kernel_rfl) (by kernel_rfl) (fun _ _ _ h => h) (Or.inl ⟨by kernel_rfl, fun w _ => by go_simp⟩) hH ?_
    try simp only [Act.put, List.setIfInBounds_toArray, List.set_cons_zero, List.set_cons_succ]
    refine wpAnyH_takeD 9 (some 25) (.int .i64 i) rfl (by kernel_rfl) (by kernel_rfl) (by kernel_rfl) (by kernel_rfl) (fun _ _ _ h => h) (Or.inl ⟨by kernel_rfl, fun w _ => by go_simp⟩) hH ?_
    try simp only [Act.put, List.setIfInBounds_toArray, List.set_cons_zero, List.set_cons_succ]
    refine wpAnyH_takeD 10 (some 26) (.int .i64 j) rfl (by kernel_rfl) (by kernel_rfl) (by kernel_rfl) (by kernel_rfl) (fun _ _ _ h => h) (Or.inl ⟨by kernel_rfl, fun w _ => by go_simp⟩) hH ?_
    try simp only [Act.put, List.setIfInBounds_toArray, List.set_cons_zero, List.set_cons_succ]
    refine wpAnyH_takeD 11 (some 27) (.int .i64 (max i j)) rfl (by kernel_rfl) (by kernel_rfl) (by kernel_rfl) (by kernel_rfl) (fun _ _ _ h => h) (Or.inl ⟨by kernel_rfl, fun w _ => by go_simp⟩) hH ?_
    try simp only [Act.put, List.setIfInBounds_toArray, List.set_cons_zero, List.set_cons_succ]
    refine wpAnyH_takeD 12 (some 28) (.pointer (some ⟨w.heap.size + 1, 10, none⟩)) rfl (by kernel_rfl) (by kernel_rfl) (by kernel_rfl) (by kernel_rfl) (fun _ _ _ h => h) (Or.inl ⟨by kernel_rfl, fun w _ => by go_simp⟩) hH ?_
    try simp only [Act.put, List.setIfInBounds_toArray, List.set_cons_zero, List.set_cons_succ]
    refine wpAnyH_takeD 13 (some 29) (.slice a d.classes.length cc) rfl (by kernel_rfl) (by kernel_rfl) (by kernel_rfl) (by kernel_rfl) (fun _ _ _ h => h) (Or.inl ⟨by kernel_rfl, fun w hSw => by (dsimp only at hSw; go_simp)⟩) hH ?_
    try simp only [Act.put, List.setIfInBounds_toArray, List.set_cons_zero, List.set_cons_succ]
    refine wpAnyH_takeD 14 (some 30) (.int .i64 d.classes.length) rfl (by kernel_rfl) (by kernel_rfl) (by kernel_rfl) (by kernel_rfl) (fun _ _ _ h => h) (Or.inl ⟨by kernel_rfl, fun w _ => by go_simp⟩) hH ?_
    try simp only [Act.put, List.setIfInBounds_toArray, List.set_cons_zero, List.set_cons_succ]
    refine wpAnyH_takeD 15 (some 31) (.bool false) rfl (by kernel_rfl) (by kernel_rfl) (by kernel_rfl) (by kernel_rfl) (fun _ _ _ h => h) (Or.inl ⟨by kernel_rfl, fun w _ => by go_simp⟩) hH ?_
    try simp only [Act.put, List.setIfInBounds_toArray, List.set_cons_zero, List.set_cons_succ]
    refine wpAnyH_takeD 16 (some 32) (.bool false) rfl (by kernel_rfl) (by kernel_rfl) (by kernel_rfl) (by kernel_rfl) (fun _ _ _ h => h) (Or.inl ⟨by kernel_rfl, fun w _ => by go_simp⟩) hH ?_
    try simp only [Act.put, List.setIfInBounds_toArray, List.set_cons_zero, List.set_cons_succ]
    refine wpAnyH_takeD 17 (some 33) (.bool false) rfl (by kernel_rfl) (by kernel_rfl) (by kernel_rfl) (by kernel_rfl) (fun _ _ _ h => h) (Or.inl ⟨by kernel_rfl, fun w _ => by go_simp⟩) hH ?_
    try simp only [Act.put, List.setIfInBounds_toArray, List.set_cons_zero, List.set_cons_succ]
    refine wpAnyH_skips 2 (by kernel_rfl) (fun d _ _ _ h => by cases d <;> exact h) hH [(18, some 34), (19, some 35), (20, some 36), (21, some 37), (22, some 38), (23, some 39), (24, some 40), (25, some 41), (26, some 42), (27, some 43), (28, some 44), (29, some 45)] (by kernel_rfl) ?_
    simp only [skipA, Act.put, List.setIfInBounds_toArray, List.set_cons_succ, List.set_cons_zero]
    refine wpAnyH_takeD 30 (some 46) (.bool false) rfl (by kernel_rfl) (by kernel_rfl) (by kernel_rfl) (by kernel_rfl) (fun _ _ _ h => h) (Or.inl ⟨by kernel_rfl, fun w _ => by go_simp⟩) hH ?_
    try simp only [Act.put, List.setIfInBounds_toArray, List.set_cons_zero, List.set_cons_succ]
    refine wpAnyH_takeD 31 (some 6) (.bool false) rfl (by kernel_rfl) (by kernel_rfl) (by kernel_rfl) (by kernel_rfl) (fun _ _ _ h => h) (Or.inl ⟨by kernel_rfl, fun w _ => by go_simp⟩) hH ?_
    try simp only [Act.put, List.setIfInBounds_toArray, List.set_cons_zero, List.set_cons_succ]
    refine wpAnyH_done (by kernel_rfl) ?_ _
    try simp only [Act.put, List.setIfInBounds_toArray, List.set_cons_zero, List.set_cons_succ]
    go_wp2_with fail
    go_ret
    first | exact ⟨rfl, hb⟩ | exact ⟨rfl, hb.drew⟩
end Go.Proofs.YtfhllbnpkcgfdaaGreatDoor
/-! Fits and Pair, all of it: any machine that lies in memory, any numbers. -/
namespace Go.Proofs.YtfhllbnpkcgfdaaGreatDoor
open Go.RowKit
/-- The registers' names and places. -/
def nmsL (L : RegL) : List ByteArray := (spotsOut 0 L).map fun x : Spot => x.name
def plsL (L : RegL) : List Plc := (spotsOut 0 L).map Spot.place
/-- What Fits answers. -/
def fitsA (d : MachD) (L : RegL) (k : Int) : Bool :=
  decide (fallX d L = 0) && decide (classesS nameB (nmsL L) (plsL L) d.classes = 0) && decide (opsS (nmsL L) (plsL L) d.classes d.ops = 0) && decide (0 ≤ k) &&
    match d.ops[k.toNat]? with
    | some o => fitsB (plsL L) (opR (nmsL L) d.classes o)
    | none => false
/-- What Pair answers. -/
def pairA (d : MachD) (L : RegL) (i j : Int) : Bool :=
  decide (fallX d L = 0) && decide (classesS nameB (nmsL L) (plsL L) d.classes = 0) && decide (0 ≤ i) && decide (0 ≤ j) &&
    match (clsOf (nmsL L) d.classes)[i.toNat]?, (clsOf (nmsL L) d.classes)[j.toNat]? with
    | some la, some lb => togetherB (plsL L) [la, lb]
    | _, _ => false
theorem MachAt.stands {w : World} {m : MV} {d : MachD} {L : RegL} (h : MachAt w m d L) (hx : fallX d L = 0) : ReadB w m d (spotsOut 0 L) := by
  unfold fallX at hx
  have hn : nameB d.name = true := by
    cases hn : nameB d.name
    · rw [if_pos hn] at hx; cases hx
    · rfl
  rw [if_neg (by simp [hn])] at hx
  have he : regsE L = 0 := by
    by_cases he : regsE L = 0
    · exact he
    · rw [if_pos he] at hx; exact hx
  rw [if_neg (by simp [he])] at hx
  exact h.read hn he fun h2 => by rw [if_pos h2] at hx; cases hx
theorem fits_all {w : World} {m : MV} {d : MachD} {L : RegL} (h : MachAt w m d L) (k : Int) :
    Calls Tryz.prog 13 #[m.val, .int .i64 k] w fun e w' => e = .returned (.bool (fitsA d L k)) ∧ Below w.heap.size w w' := by
  by_cases hx : fallX d L = 0
  · have hR := h.stands hx
    by_cases h0 : classesS nameB (nmsL L) (plsL L) d.classes = 0
    · by_cases h1 : opsS (nmsL L) (plsL L) d.classes d.ops = 0
      · have hd : fitsA d L k = (decide (0 ≤ k) && match d.ops[k.toNat]? with
            | some o => fitsB (plsL L) (opR (nmsL L) d.classes o)
            | none => false) := by unfold fitsA; rw [decide_eq_true hx, decide_eq_true h0, decide_eq_true h1]; rfl
        rw [hd]
        by_cases hk : 0 ≤ k
        · rw [decide_eq_true hk, Bool.true_and]
          cases ho : d.ops[k.toNat]? with
          | some o =>
            have := fitsOp_read hR h0 h1 k.toNat o ho
            rw [Int.toNat_of_nonneg hk] at this
            exact this
          | none =>
            have := List.getElem?_eq_none_iff.1 ho
            exact fits_out hR h0 h1 k (.inr (by omega))
        · rw [decide_eq_false hk, Bool.false_and]
          exact fits_out hR h0 h1 k (.inl (by omega))
      · have hd : fitsA d L k = false := by unfold fitsA; rw [decide_eq_false h1]; simp
        rw [hd]
        exact fits_err (hR.bad 4 (by omega) (j := 3) (by omega) h1) k
    · have hd : fitsA d L k = false := by unfold fitsA; rw [decide_eq_false h0]; simp
      rw [hd]
      exact fits_err (hR.bad 4 (by omega) (j := 2) (by omega) h0) k
  · have hd : fitsA d L k = false := by unfold fitsA; rw [decide_eq_false hx]; simp
    rw [hd]
    exact fits_err (h.bad hx 4 (by omega) (by omega)) k
theorem pair_all {w : World} {m : MV} {d : MachD} {L : RegL} (h : MachAt w m d L) (i j : Int) :
    Calls Tryz.prog 14 #[m.val, .int .i64 i, .int .i64 j] w fun e w' => e = .returned (.bool (pairA d L i j)) ∧ Below w.heap.size w w' := by
  by_cases hx : fallX d L = 0
  · have hR := h.stands hx
    by_cases h0 : classesS nameB (nmsL L) (plsL L) d.classes = 0
    · have hd : pairA d L i j = (decide (0 ≤ i) && decide (0 ≤ j) && match (clsOf (nmsL L) d.classes)[i.toNat]?, (clsOf (nmsL L) d.classes)[j.toNat]? with
          | some la, some lb => togetherB (plsL L) [la, lb]
          | _, _ => false) := by unfold pairA; rw [decide_eq_true hx, decide_eq_true h0]; rfl
      have hll : (clsOf (nmsL L) d.classes).length = d.classes.length := by simp [clsOf]
      rw [hd]
      by_cases hi : 0 ≤ i
      · by_cases hj : 0 ≤ j
        · rw [decide_eq_true hi, decide_eq_true hj]
          cases hla : (clsOf (nmsL L) d.classes)[i.toNat]? with
          | none =>
            have := List.getElem?_eq_none_iff.1 hla
            exact pair_out hR h0 i j (.inr (by omega))
          | some la =>
            cases hlb : (clsOf (nmsL L) d.classes)[j.toNat]? with
            | none =>
              have := List.getElem?_eq_none_iff.1 hlb
              exact pair_out hR h0 i j (.inr (by omega))
            | some lb =>
              have := pair_read hR h0 i.toNat j.toNat la lb hla hlb
              rw [Int.toNat_of_nonneg hi, Int.toNat_of_nonneg hj] at this
              exact this
        · rw [decide_eq_false hj, Bool.and_false, Bool.false_and]
          exact pair_out hR h0 i j (.inl (by omega))
      · rw [decide_eq_false hi, Bool.false_and, Bool.false_and]
        exact pair_out hR h0 i j (.inl (by omega))
    · have hd : pairA d L i j = false := by unfold pairA; rw [decide_eq_false h0]; simp
      rw [hd]
      exact pair_err (hR.bad 3 (by omega) (j := 2) (by omega) h0) i j
  · have hd : pairA d L i j = false := by unfold pairA; rw [decide_eq_false hx]; simp
    rw [hd]
    exact pair_err (h.bad hx 3 (by omega) (by omega)) i j
end Go.Proofs.YtfhllbnpkcgfdaaGreatDoor
