/-
  MdcheckFits answers true, of any description that is read in memory and any numbers: the walk.
-/
import Derived.Test.YtfhllbnpkcgfdaaGreatDoorBiD
namespace Go.Proofs.YtfhllbnpkcgfdaaGreatDoor
open Go.RowKit
/-- What the document's own Fits answers behind a Begin of four points. -/
theorem fits_ref_all {w : World} {T : Nat} {t : TV} {d : MachD} {L : RegL} (h : TabOk w T t d (nmsL L) (plsL L) (clsOf (nmsL L) d.classes)) (hs : (plsL L).length = (nmsL L).length) (hb : beginE d L 4 = 0) (k : Int) :
    Calls Tryz.prog 11 #[.pointer (some ⟨T, 0, none⟩), .int .i64 k] w fun e w' => e = .returned (.bool (fitsA d L k)) ∧ Below w.heap.size w w' := by
  obtain ⟨h1, h2, h3⟩ := begin_ok hb
  have h3 := h3 (by decide)
  have hd : fitsA d L k = (decide (0 ≤ k) && match d.ops[k.toNat]? with
      | some o => fitsB (plsL L) (opR (nmsL L) d.classes o)
      | none => false) := by unfold fitsA; rw [decide_eq_true h1, decide_eq_true h2, decide_eq_true h3]; rfl
  rw [hd]
  by_cases hk : 0 ≤ k
  · rw [decide_eq_true hk, Bool.true_and]
    cases ho : d.ops[k.toNat]? with
    | some o =>
      have hok := opOk_of hs h2 h3 (List.mem_of_getElem? ho)
      have := refFits T t d (nmsL L) (plsL L) k.toNat o w h ho hok
      rw [Int.toNat_of_nonneg hk, fits_eq hok] at this
      exact this
    | none =>
      have := List.getElem?_eq_none_iff.1 ho
      exact (refFits_out T t d (nmsL L) (plsL L) _ k w h (.inr (by omega))).mono fun e w' ⟨he, hw⟩ => ⟨he, hw ▸ Below.refl _ _⟩
  · rw [decide_eq_false hk, Bool.false_and]
    exact (refFits_out T t d (nmsL L) (plsL L) _ k w h (.inl (by omega))).mono fun e w' ⟨he, hw⟩ => ⟨he, hw ▸ Below.refl _ _⟩
set_option maxRecDepth 100000 in
set_option maxHeartbeats 6400000 in
theorem fitsLaw_any {w : World} {m : MV} {d : MachD} {L : RegL} (hE : Env w) (hA : EnvA w) (h : MachW w m d L) (k a b : Int) :
    Calls Tryz.prog 4 #[m.val, .int .i64 k, .int .i64 a, .int .i64 b] w fun e w' => e = .returned (.bool true) ∧ Below w.heap.size w w' := by
  obtain ⟨mn, rg, kl, op, ar, rs, sv, sl⟩ := m
  show Calls Tryz.prog 4 #[.agg #[.string mn, .slice rg.a rg.n rg.c, .slice kl.a kl.n kl.c, .slice op.a op.n op.c, .slice ar.a ar.n ar.c, .string rs, .slice sv.a sv.n sv.c, .int .i64 sl], .int .i64 k, .int .i64 a, .int .i64 b] w _
  obtain ⟨mv, hmv⟩ : ∃ mv : Value, mv = .agg #[.string mn, .slice rg.a rg.n rg.c, .slice kl.a kl.n kl.c, .slice op.a op.n op.c, .slice ar.a ar.n ar.c, .string rs, .slice sv.a sv.n sv.c, .int .i64 sl] := ⟨_, rfl⟩
  obtain ⟨W0, hW0⟩ : ∃ W0, W0 = w.alloc (.cells #[.string mn, .slice rg.a rg.n rg.c, .slice kl.a kl.n kl.c, .slice op.a op.n op.c, .slice ar.a ar.n ar.c, .string rs, .slice sv.a sv.n sv.c, .int .i64 sl] 27) := ⟨_, rfl⟩
  have hb0 : Below w.heap.size w W0 := by rw [hW0]; exact (Below.refl _ _).alloc (Nat.le_refl _) _
  have hbx : Cells W0 w.heap.size 27 #[.string mn, .slice rg.a rg.n rg.c, .slice kl.a kl.n kl.c, .slice op.a op.n op.c, .slice ar.a ar.n ar.c, .string rs, .slice sv.a sv.n sv.c, .int .i64 sl] := by rw [hW0]; exact Cells.new _ _ _
  have A := mdAlive W0 (hE.below hb0)
  have x0 := hbx.cell (j := 0) (v := .string mn) rfl
  have x1 := hbx.cell (j := 1) (v := .slice rg.a rg.n rg.c) rfl
  have x2 := hbx.cell (j := 2) (v := .slice kl.a kl.n kl.c) rfl
  have x3 := hbx.cell (j := 3) (v := .slice op.a op.n op.c) rfl
  have x4 := hbx.cell (j := 4) (v := .slice ar.a ar.n ar.c) rfl
  have x5 := hbx.cell (j := 5) (v := .string rs) rfl
  have x6 := hbx.cell (j := 6) (v := .slice sv.a sv.n sv.c) rfl
  have x7 := hbx.cell (j := 7) (v := .int .i64 sl) rfl
  replace hmv := Lib.hid hmv
  replace hW0 := Lib.hid hW0
  replace h := Lib.hid h
  go_enter Tryz.func4, Tryz.ntmps4
  go_upto_region 1 with fail
  rw [← hW0.out]
  go_upto_region 2 with (go_at_call 5; refine A.mono ?_; clear A; rintro e W1 ⟨rfl, hb1⟩)
  have hB1 : Below w.heap.size w W1 := hb0.trans (hb1.mono hb0.size)
  have y0 := cell_below hb1 x0
  have y1 := cell_below hb1 x1
  have y2 := cell_below hb1 x2
  have y3 := cell_below hb1 x3
  have y4 := cell_below hb1 x4
  have y5 := cell_below hb1 x5
  have y6 := cell_below hb1 x6
  have y7 := cell_below hb1 x7
  have h1 := Lib.hid (h.out.below hB1)
  have KB := lawBig h1.out
  change Calls _ _ #[.agg #[.string mn, .slice rg.a rg.n rg.c, .slice kl.a kl.n kl.c, .slice op.a op.n op.c, .slice ar.a ar.n ar.c, .string rs, .slice sv.a sv.n sv.c, .int .i64 sl]] W1 _ at KB
  clear x0 x1 x2 x3 x4 x5 x6 x7 hbx
  go_upto_region 3 with (go_at_call 6; refine KB.mono ?_; clear KB; rintro e W2 ⟨g, rfl, hg, hb2⟩)
  have hB2 : Below w.heap.size w W2 := hB1.trans (hb2.mono hB1.size)
  cases g with
  | true =>
    clear hg
    go_wp2_with fail
    go_ret
    exact ⟨rfl, hB2⟩
  | false =>
    have hN := hg rfl
    have hM := Lib.hid ((machAt_of (hE.below hB1) (hA.below hB1) h1.out hN).below hb2)
    have hI := Lib.hid ((machIn_of h1.out hN).below hb2)
    have hcap : rg.n ≤ rg.c := h.out.regs.2.1
    have hnm : mn = d.name := h.out.same
    have z0 := cell_below hb2 y0
    have z1 := cell_below hb2 y1
    have z2 := cell_below hb2 y2
    have z3 := cell_below hb2 y3
    have z4 := cell_below hb2 y4
    have z5 := cell_below hb2 y5
    have z6 := cell_below hb2 y6
    have z7 := cell_below hb2 y7
    have KG : ∀ (pts : Int) W, Below W2.heap.size W2 W → Calls Tryz.prog 10 #[.agg #[.string mn, .slice rg.a rg.n rg.c, .slice kl.a kl.n kl.c, .slice op.a op.n op.c, .slice ar.a ar.n ar.c, .string rs, .slice sv.a sv.n sv.c, .int .i64 sl], .int .i64 pts] W (BeginR W ⟨mn, rg, kl, op, ar, rs, sv, sl⟩ d L pts) := fun pts W hb =>
      refBegin (m := ⟨mn, rg, kl, op, ar, rs, sv, sl⟩) hnm (hI.out.below hb) ((hM.out.below hb).regs) hcap pts
    have KF : ∀ W, Below W2.heap.size W2 W → Calls Tryz.prog 13 #[.agg #[.string mn, .slice rg.a rg.n rg.c, .slice kl.a kl.n kl.c, .slice op.a op.n op.c, .slice ar.a ar.n ar.c, .string rs, .slice sv.a sv.n sv.c, .int .i64 sl], .int .i64 k] W fun e w' => e = .returned (.bool (fitsA d L k)) ∧ Below W.heap.size W w' := fun W hb => fits_all (hM.out.below hb) k
    have KP : ∀ W, Below W2.heap.size W2 W → Calls Tryz.prog 14 #[.agg #[.string mn, .slice rg.a rg.n rg.c, .slice kl.a kl.n kl.c, .slice op.a op.n op.c, .slice ar.a ar.n ar.c, .string rs, .slice sv.a sv.n sv.c, .int .i64 sl], .int .i64 a, .int .i64 b] W fun e w' => e = .returned (.bool (pairA d L a b)) ∧ Below W.heap.size W w' := fun W hb => pair_all (hM.out.below hb) a b
    have KQ : ∀ W, Below W2.heap.size W2 W → Calls Tryz.prog 14 #[.agg #[.string mn, .slice rg.a rg.n rg.c, .slice kl.a kl.n kl.c, .slice op.a op.n op.c, .slice ar.a ar.n ar.c, .string rs, .slice sv.a sv.n sv.c, .int .i64 sl], .int .i64 b, .int .i64 a] W fun e w' => e = .returned (.bool (pairA d L a b)) ∧ Below W.heap.size W w' := fun W hb => by rw [pairA_swap]; exact pair_all (hM.out.below hb) b a
    replace KG := Lib.hid KG
    replace KF := Lib.hid KF
    replace KP := Lib.hid KP
    replace KQ := Lib.hid KQ
    have hfF := fun h => fits_none (d := d) (L := L) h k
    have hfP := fun h => pair_none (d := d) (L := L) h a b
    have hG4 : ∀ W w', BeginR W ⟨mn, rg, kl, op, ar, rs, sv, sl⟩ d L 4 = BeginR W ⟨mn, rg, kl, op, ar, rs, sv, sl⟩ d L 4 ∨ w' = W := fun _ _ => .inl rfl
    have hR4 : ∀ W, Below W2.heap.size W2 W → Calls Tryz.prog 10 #[.agg #[.string mn, .slice rg.a rg.n rg.c, .slice kl.a kl.n kl.c, .slice op.a op.n op.c, .slice ar.a ar.n ar.c, .string rs, .slice sv.a sv.n sv.c, .int .i64 sl], .int .i64 4] W fun e w' => Below W.heap.size W w' ∧ ∃ (p : Option Addr) (x : Int), e = .returned (.tuple #[.pointer p, .int .i64 x]) ∧ ((x = 0 ∧ Hid (∀ W', Below w'.heap.size w' W' → Calls Tryz.prog 11 #[.pointer p, .int .i64 k] W' fun e w'' => e = .returned (.bool (fitsA d L k)) ∧ Below W'.heap.size W' w'')) ∨ (x ≠ 0 ∧ Hid (fitsA d L k = false))) := fun W hb =>
      (KG.out 4 W hb).mono fun e w' ⟨g1, g2, g3⟩ => ⟨g1, by
        by_cases h0 : beginE d L 4 = 0
        · obtain ⟨T, nV, pV, cV, he, hS, hL⟩ := g2 h0
          exact ⟨_, 0, he, .inl ⟨rfl, Lib.hid fun W' hb' => fits_ref_all ((hS.step hb').tabOk (hL.below hb').lists) hS.same h0 k⟩⟩
        · exact ⟨_, _, g3 h0, .inr ⟨h0, Lib.hid (hfF h0)⟩⟩⟩
    have hR3 : ∀ W, Below W2.heap.size W2 W → Calls Tryz.prog 10 #[.agg #[.string mn, .slice rg.a rg.n rg.c, .slice kl.a kl.n kl.c, .slice op.a op.n op.c, .slice ar.a ar.n ar.c, .string rs, .slice sv.a sv.n sv.c, .int .i64 sl], .int .i64 3] W fun e w' => Below W.heap.size W w' ∧ ∃ (p : Option Addr) (x : Int), e = .returned (.tuple #[.pointer p, .int .i64 x]) ∧ ((x = 0 ∧ Hid (∀ W', Below w'.heap.size w' W' → Calls Tryz.prog 12 #[.pointer p, .int .i64 a, .int .i64 b] W' fun e w'' => e = .returned (.bool (pairA d L a b)) ∧ Below W'.heap.size W' w'')) ∨ (x ≠ 0 ∧ Hid (pairA d L a b = false))) := fun W hb =>
      (KG.out 3 W hb).mono fun e w' ⟨g1, g2, g3⟩ => ⟨g1, by
        by_cases h0 : beginE d L 3 = 0
        · obtain ⟨T, nV, pV, cV, he, hS, hL⟩ := g2 h0
          refine ⟨_, 0, he, .inl ⟨rfl, Lib.hid fun W' hb' => ?_⟩⟩
          rw [← pair_is h0]
          exact refPair T _ d (nmsL L) (plsL L) _ a b W' ((hS.step hb').tabOk (hL.below hb').lists) (cls_nums hS.same (begin_ok h0).2.1)
        · exact ⟨_, _, g3 h0, .inr ⟨h0, Lib.hid (hfP h0)⟩⟩⟩
    replace hR3 := Lib.hid hR3
    have K4 := hR4 W2 (Below.refl _ _)
    clear y0 y1 y2 y3 y4 y5 y6 y7 hg hN hnm hcap hG4 hfF hfP hR4
    obtain ⟨F, hF⟩ : ∃ F, F = fitsA d L k := ⟨_, rfl⟩
    obtain ⟨P, hP⟩ : ∃ P, P = pairA d L a b := ⟨_, rfl⟩
    rw [← hF] at K4 KF
    rw [← hP] at hR3 KP KQ
    replace hF := Lib.hid hF
    replace hP := Lib.hid hP
    go_upto_region 6 with (go_at_call 10; refine K4.mono ?_; clear K4; rintro e W3 ⟨hb3, p4, e4, rfl, hcase4⟩)
    have y0 := cell_below hb3 z0
    have y1 := cell_below hb3 z1
    have y2 := cell_below hb3 z2
    have y3 := cell_below hb3 z3
    have y4 := cell_below hb3 z4
    have y5 := cell_below hb3 z5
    have y6 := cell_below hb3 z6
    have y7 := cell_below hb3 z7
    have K3 := hR3.out W3 hb3
    clear z0 z1 z2 z3 z4 z5 z6 z7
    go_upto_region 7 with (go_at_call 10; refine K3.mono ?_; clear K3; rintro e W4 ⟨hb4, p3, e3, rfl, hcase3⟩)
    have hB4 : Below W2.heap.size W2 W4 := hb3.trans (hb4.mono hb3.size)
    have z0 := cell_below hb4 y0
    have z1 := cell_below hb4 y1
    have z2 := cell_below hb4 y2
    have z3 := cell_below hb4 y3
    have z4 := cell_below hb4 y4
    have z5 := cell_below hb4 y5
    have z6 := cell_below hb4 y6
    have z7 := cell_below hb4 y7
    clear y0 y1 y2 y3 y4 y5 y6 y7
    have hb44 : Below W4.heap.size W4 W4 := Below.refl _ _
    rcases hcase4 with ⟨rfl, h4⟩ | ⟨h4, hF4⟩
    · have K5 := h4.out W4 hb4
      clear h4
      go_upto_region 11 with (go_at_call 11; refine K5.mono ?_; clear K5; rintro e W5 ⟨rfl, hb5⟩)
      rcases hcase3 with ⟨rfl, h3⟩ | ⟨h3, hP3⟩
      · have K6 := h3.out W5 hb5
        clear h3
        cases P with
        | false =>
          go_upto_region 13 with (go_at_call 12; refine K6.mono ?_; clear K6; rintro e wc ⟨rfl, hb6⟩)
          have hbc := hb5.trans (hb6.mono hb5.size)
          have y0 := cell_below hbc z0
          have y1 := cell_below hbc z1
          have y2 := cell_below hbc z2
          have y3 := cell_below hbc z3
          have y4 := cell_below hbc z4
          have y5 := cell_below hbc z5
          have y6 := cell_below hbc z6
          have y7 := cell_below hbc z7
          have hBc : Below W2.heap.size W2 wc := hB4.trans (hbc.mono hB4.size)
          have K7 := KF.out wc hBc
          clear z0 z1 z2 z3 z4 z5 z6 z7
          go_wp2_with (first
            | (go_at_call 13; refine K7.mono ?_; clear K7; rintro e W8 ⟨rfl, hb8⟩; have hB8 := hBc.trans (hb8.mono hBc.size); have K8 := KP.out W8 hB8; have q0 := cell_below hb8 y0; have q1 := cell_below hb8 y1; have q2 := cell_below hb8 y2; have q3 := cell_below hb8 y3; have q4 := cell_below hb8 y4; have q5 := cell_below hb8 y5; have q6 := cell_below hb8 y6; have q7 := cell_below hb8 y7)
            | (go_at_call 14; refine K8.mono ?_; clear K8; rintro e W9 ⟨rfl, hb9⟩))
          go_ret
          exact ⟨ret_bool (by simp), hB2.trans ((hB8.trans (hb9.mono hB8.size)).mono hB2.size)⟩
        | true =>
          go_upto_region 13 with (go_at_call 12; refine K6.mono ?_; clear K6; rintro e wc ⟨rfl, hb6⟩)
          have hbc := hb5.trans (hb6.mono hb5.size)
          have y0 := cell_below hbc z0
          have y1 := cell_below hbc z1
          have y2 := cell_below hbc z2
          have y3 := cell_below hbc z3
          have y4 := cell_below hbc z4
          have y5 := cell_below hbc z5
          have y6 := cell_below hbc z6
          have y7 := cell_below hbc z7
          have hBc : Below W2.heap.size W2 wc := hB4.trans (hbc.mono hB4.size)
          have K7 := KF.out wc hBc
          clear z0 z1 z2 z3 z4 z5 z6 z7
          go_wp2_with (first
            | (go_at_call 13; refine K7.mono ?_; clear K7; rintro e W8 ⟨rfl, hb8⟩; have hB8 := hBc.trans (hb8.mono hBc.size); have K8 := KP.out W8 hB8; have q0 := cell_below hb8 y0; have q1 := cell_below hb8 y1; have q2 := cell_below hb8 y2; have q3 := cell_below hb8 y3; have q4 := cell_below hb8 y4; have q5 := cell_below hb8 y5; have q6 := cell_below hb8 y6; have q7 := cell_below hb8 y7)
            | (go_at_call 14; with_reducible refine Calls.mono K8 ?_; clear K8; rintro e W9 ⟨rfl, hb9⟩; have hB9 := hB8.trans (hb9.mono hB8.size); have K9 := KQ.out W9 hB9; have r0 := cell_below hb9 q0; have r1 := cell_below hb9 q1; have r2 := cell_below hb9 q2; have r3 := cell_below hb9 q3; have r4 := cell_below hb9 q4; have r5 := cell_below hb9 q5; have r6 := cell_below hb9 q6; have r7 := cell_below hb9 q7)
            | (go_at_call 14; with_reducible refine Calls.mono K9 ?_; clear K9; rintro e W10 ⟨rfl, hb10⟩))
          go_ret
          exact ⟨ret_bool (by simp), hB2.trans ((hB9.trans (hb10.mono hB9.size)).mono hB2.size)⟩
      · have h31 : (e3 == 0) = false := by simpa using h3
        have hPf := hP3.out
        subst hPf
        go_upto_region 13 with fail
        have hbc := hb5
        obtain ⟨wc, rfl⟩ : ∃ wc : World, wc = W5 := ⟨_, rfl⟩
        have y0 := cell_below hbc z0
        have y1 := cell_below hbc z1
        have y2 := cell_below hbc z2
        have y3 := cell_below hbc z3
        have y4 := cell_below hbc z4
        have y5 := cell_below hbc z5
        have y6 := cell_below hbc z6
        have y7 := cell_below hbc z7
        have hBc : Below W2.heap.size W2 wc := hB4.trans (hbc.mono hB4.size)
        have K7 := KF.out wc hBc
        clear z0 z1 z2 z3 z4 z5 z6 z7
        go_wp2_with (first
          | (go_at_call 13; refine K7.mono ?_; clear K7; rintro e W8 ⟨rfl, hb8⟩; have hB8 := hBc.trans (hb8.mono hBc.size); have K8 := KP.out W8 hB8; have q0 := cell_below hb8 y0; have q1 := cell_below hb8 y1; have q2 := cell_below hb8 y2; have q3 := cell_below hb8 y3; have q4 := cell_below hb8 y4; have q5 := cell_below hb8 y5; have q6 := cell_below hb8 y6; have q7 := cell_below hb8 y7)
          | (go_at_call 14; refine K8.mono ?_; clear K8; rintro e W9 ⟨rfl, hb9⟩))
        go_ret
        exact ⟨ret_bool (by simp), hB2.trans ((hB8.trans (hb9.mono hB8.size)).mono hB2.size)⟩
    · have h41 : (e4 == 0) = false := by simpa using h4
      have hFf := hF4.out
      subst hFf
      go_upto_region 11 with fail
      obtain ⟨W5, hW5⟩ : ∃ W5 : World, W5 = W4 := ⟨_, rfl⟩
      have hb5 : Below W4.heap.size W4 W5 := by rw [hW5]; exact hb44
      rw [← hW5]
      replace hW5 := Lib.hid hW5
      rcases hcase3 with ⟨rfl, h3⟩ | ⟨h3, hP3⟩
      · have K6 := h3.out W5 hb5
        clear h3
        cases P with
        | false =>
          go_upto_region 13 with (go_at_call 12; refine K6.mono ?_; clear K6; rintro e wc ⟨rfl, hb6⟩)
          have hbc := hb5.trans (hb6.mono hb5.size)
          have y0 := cell_below hbc z0
          have y1 := cell_below hbc z1
          have y2 := cell_below hbc z2
          have y3 := cell_below hbc z3
          have y4 := cell_below hbc z4
          have y5 := cell_below hbc z5
          have y6 := cell_below hbc z6
          have y7 := cell_below hbc z7
          have hBc : Below W2.heap.size W2 wc := hB4.trans (hbc.mono hB4.size)
          have K7 := KF.out wc hBc
          clear z0 z1 z2 z3 z4 z5 z6 z7
          go_wp2_with (first
            | (go_at_call 13; refine K7.mono ?_; clear K7; rintro e W8 ⟨rfl, hb8⟩; have hB8 := hBc.trans (hb8.mono hBc.size); have K8 := KP.out W8 hB8; have q0 := cell_below hb8 y0; have q1 := cell_below hb8 y1; have q2 := cell_below hb8 y2; have q3 := cell_below hb8 y3; have q4 := cell_below hb8 y4; have q5 := cell_below hb8 y5; have q6 := cell_below hb8 y6; have q7 := cell_below hb8 y7)
            | (go_at_call 14; refine K8.mono ?_; clear K8; rintro e W9 ⟨rfl, hb9⟩))
          go_ret
          exact ⟨ret_bool (by simp), hB2.trans ((hB8.trans (hb9.mono hB8.size)).mono hB2.size)⟩
        | true =>
          go_upto_region 13 with (go_at_call 12; refine K6.mono ?_; clear K6; rintro e wc ⟨rfl, hb6⟩)
          have hbc := hb5.trans (hb6.mono hb5.size)
          have y0 := cell_below hbc z0
          have y1 := cell_below hbc z1
          have y2 := cell_below hbc z2
          have y3 := cell_below hbc z3
          have y4 := cell_below hbc z4
          have y5 := cell_below hbc z5
          have y6 := cell_below hbc z6
          have y7 := cell_below hbc z7
          have hBc : Below W2.heap.size W2 wc := hB4.trans (hbc.mono hB4.size)
          have K7 := KF.out wc hBc
          clear z0 z1 z2 z3 z4 z5 z6 z7
          go_wp2_with (first
            | (go_at_call 13; refine K7.mono ?_; clear K7; rintro e W8 ⟨rfl, hb8⟩; have hB8 := hBc.trans (hb8.mono hBc.size); have K8 := KP.out W8 hB8; have q0 := cell_below hb8 y0; have q1 := cell_below hb8 y1; have q2 := cell_below hb8 y2; have q3 := cell_below hb8 y3; have q4 := cell_below hb8 y4; have q5 := cell_below hb8 y5; have q6 := cell_below hb8 y6; have q7 := cell_below hb8 y7)
            | (go_at_call 14; with_reducible refine Calls.mono K8 ?_; clear K8; rintro e W9 ⟨rfl, hb9⟩; have hB9 := hB8.trans (hb9.mono hB8.size); have K9 := KQ.out W9 hB9; have r0 := cell_below hb9 q0; have r1 := cell_below hb9 q1; have r2 := cell_below hb9 q2; have r3 := cell_below hb9 q3; have r4 := cell_below hb9 q4; have r5 := cell_below hb9 q5; have r6 := cell_below hb9 q6; have r7 := cell_below hb9 q7)
            | (go_at_call 14; with_reducible refine Calls.mono K9 ?_; clear K9; rintro e W10 ⟨rfl, hb10⟩))
          go_ret
          exact ⟨ret_bool (by simp), hB2.trans ((hB9.trans (hb10.mono hB9.size)).mono hB2.size)⟩
      · have h31 : (e3 == 0) = false := by simpa using h3
        have hPf := hP3.out
        subst hPf
        go_upto_region 13 with fail
        have hbc := hb5
        obtain ⟨wc, rfl⟩ : ∃ wc : World, wc = W5 := ⟨_, rfl⟩
        have y0 := cell_below hbc z0
        have y1 := cell_below hbc z1
        have y2 := cell_below hbc z2
        have y3 := cell_below hbc z3
        have y4 := cell_below hbc z4
        have y5 := cell_below hbc z5
        have y6 := cell_below hbc z6
        have y7 := cell_below hbc z7
        have hBc : Below W2.heap.size W2 wc := hB4.trans (hbc.mono hB4.size)
        have K7 := KF.out wc hBc
        clear z0 z1 z2 z3 z4 z5 z6 z7
        go_wp2_with (first
          | (go_at_call 13; refine K7.mono ?_; clear K7; rintro e W8 ⟨rfl, hb8⟩; have hB8 := hBc.trans (hb8.mono hBc.size); have K8 := KP.out W8 hB8; have q0 := cell_below hb8 y0; have q1 := cell_below hb8 y1; have q2 := cell_below hb8 y2; have q3 := cell_below hb8 y3; have q4 := cell_below hb8 y4; have q5 := cell_below hb8 y5; have q6 := cell_below hb8 y6; have q7 := cell_below hb8 y7)
          | (go_at_call 14; refine K8.mono ?_; clear K8; rintro e W9 ⟨rfl, hb9⟩))
        go_ret
        exact ⟨ret_bool (by simp), hB2.trans ((hB8.trans (hb9.mono hB8.size)).mono hB2.size)⟩
end Go.Proofs.YtfhllbnpkcgfdaaGreatDoor
