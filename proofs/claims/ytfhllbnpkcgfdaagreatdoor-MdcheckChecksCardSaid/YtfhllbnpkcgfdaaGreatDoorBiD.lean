/-
  MdcheckChecks and MdcheckFits answer true, of any description that is read in memory: the walks.
-/
import Derived.Test.YtfhllbnpkcgfdaaGreatDoorBiC
import Derived.Test.YtfhllbnpkcgfdaaGreatDoorRefThree
namespace Go.Proofs.YtfhllbnpkcgfdaaGreatDoor
open Go.RowKit
theorem HoldsW.below {W W' : World} (hb : Below W.heap.size W W') : ∀ {L : RegL} {b o : Nat}, HoldsW W.heap.size W b o L → HoldsW W'.heap.size W' b o L
  | .nil, _, _, _ => trivial
  | .cons _ _ _ _ _ _, _, _, ⟨h1, h2, h3, h4, h5⟩ => ⟨Nat.lt_of_lt_of_le h1 hb.size, regAt_of h2 (fun _ _ hv => cell_below hb hv), h3, HoldsW.below hb h4,
      h5.imp id fun ⟨b', o', c', e1, e2, e3, e4⟩ => ⟨b', o', c', e1, e2, e3, HoldsW.below hb e4⟩⟩
theorem MachW.below {w w' : World} {m : MV} {d : MachD} {L : RegL} (h : MachW w m d L) (hb : Below w.heap.size w w') : MachW w' m d L :=
  { h with regs := ⟨h.regs.1, h.regs.2.1, h.regs.2.2.1, h.regs.2.2.2.1, fun b o ha => (h.regs.2.2.2.2 b o ha).below hb⟩, classes := h.classes.below hb, ops := h.ops.below hb, args := h.args.below hb, saved := h.saved.below hb }
theorem MachAt.below {w w' : World} {m : MV} {d : MachD} {L : RegL} (h : MachAt w m d L) (hb : Below w.heap.size w w') : MachAt w' m d L :=
  { h with env := h.env.below hb, envA := h.envA.below hb, regs := h.regs.below hb, classes := h.classes.below hb, ops := h.ops.below hb, args := h.args.below hb, saved := h.saved.below hb }
theorem machAt_of {w : World} {m : MV} {d : MachD} {L : RegL} (hE : Env w) (hA : EnvA w) (h : MachW w m d L) (hN : Nb2 w m.regs.a d L) : MachAt w m d L where
  env := hE
  envA := hA
  same := h.same
  result := h.result
  slots := h.slots
  regs := by
    obtain ⟨h1, h2, h3, h4, h5⟩ := h.regs
    rcases h.spot with hs | ⟨b, o, hs⟩
    · rcases h4 with ⟨h6, h7⟩ | ⟨b, o, h6⟩
      · refine .inl ⟨?_, ?_⟩
        · have : m.regs = ⟨m.regs.a, m.regs.n, m.regs.c⟩ := rfl
          rw [this, hs, h6, h7]
        · cases L with
          | nil => rfl
          | cons => simp [RegL.length] at h1; omega
      · rw [hs] at h6; cases h6
    · refine .inr ⟨b, o, m.regs.c, ?_, hN.1.1.1 b o hs, by omega⟩
      have : m.regs = ⟨m.regs.a, m.regs.n, m.regs.c⟩ := rfl
      rw [this, hs, h1]
  classes := h.classes
  ops := h.ops
  oub := fun o ho => by have := (hN.2.2 o ho).2; omega
  args := h.args
  saved := h.saved
theorem machIn_of {w : World} {m : MV} {d : MachD} {L : RegL} (h : MachW w m d L) (hN : Nb2 w m.regs.a d L) : MachIn w m d where
  kls := h.classes
  ops := h.ops
  args := h.args
  saved := h.saved
  res := h.result
  sl := h.slots
  kb := by have := hN.1.2.1; omega
  ob := by have := hN.2.1; omega
  ab := by have := hN.1.1.2.1; omega
  sb := by have := hN.1.1.2.2; omega
  rb := fun k hk => by have := hN.1.2.2 k hk; omega
  cb := fun o ho => by have := (hN.2.2 o ho).1; omega
  ub := fun o ho => by have := (hN.2.2 o ho).2; omega
theorem make_second {w w' : World} {m : MV} {d : MachD} {L : RegL} {e : Ending} (h : MakeR w m d L e w') : ∃ p, e = .returned (.tuple #[.pointer p, .int .i64 (makeE d L)]) ∧ Below w.heap.size w w' := by
  obtain ⟨h1, h2, h3⟩ := h
  by_cases h0 : makeE d L = 0
  · obtain ⟨T, nV, pV, cV, he, _⟩ := h2 h0
    exact ⟨_, by rw [he, h0], h1⟩
  · exact ⟨_, h3 h0, h1⟩
set_option maxRecDepth 100000 in
set_option maxHeartbeats 4000000 in
theorem checks_any {w : World} {m : MV} {d : MachD} {L : RegL} (hE : Env w) (hA : EnvA w) (h : MachW w m d L) :
    Calls Tryz.prog 3 #[m.val] w fun e w' => e = .returned (.bool true) ∧ Below w.heap.size w w' := by
  obtain ⟨mn, rg, kl, op, ar, rs, sv, sl⟩ := m
  show Calls Tryz.prog 3 #[.agg #[.string mn, .slice rg.a rg.n rg.c, .slice kl.a kl.n kl.c, .slice op.a op.n op.c, .slice ar.a ar.n ar.c, .string rs, .slice sv.a sv.n sv.c, .int .i64 sl]] w _
  obtain ⟨W0, hW0⟩ : ∃ W0, W0 = w.alloc (.cells #[.string mn, .slice rg.a rg.n rg.c, .slice kl.a kl.n kl.c, .slice op.a op.n op.c, .slice ar.a ar.n ar.c, .string rs, .slice sv.a sv.n sv.c, .int .i64 sl] 27) := ⟨_, rfl⟩
  have hb0 : Below w.heap.size w W0 := by rw [hW0]; exact (Below.refl _ _).alloc (Nat.le_refl _) _
  have hbx : Cells W0 w.heap.size 27 #[.string mn, .slice rg.a rg.n rg.c, .slice kl.a kl.n kl.c, .slice op.a op.n op.c, .slice ar.a ar.n ar.c, .string rs, .slice sv.a sv.n sv.c, .int .i64 sl] := by rw [hW0]; exact Cells.new _ _ _
  have A := mdAlive W0 (hE.below hb0)
  have x0 := hbx.cell (j := 0) (v := .string mn) rfl
  have x1 := hbx.cell (j := 1) (v := .slice rg.a rg.n rg.c) rfl
  have x2 := hbx.cell (j := 2) (v := .slice kl.a kl.n kl.c) rfl
  have x3 := hbx.cell (j := 3) (v := .slice op.a op.n op.c) rfl
  have x4 := hbx.cell (j := 4) (v := .slice ar.a ar.n ar.c) rfl
  have x5 := hbx.cell (j := 5) (v := .string rs) rfl
  have x6 := hbx.cell (j := 6) (v := .slice sv.a sv.n sv.c) rfl
  have x7 := hbx.cell (j := 7) (v := .int .i64 sl) rfl
  replace hW0 := Lib.hid hW0
  replace h := Lib.hid h
  go_enter Tryz.func3, Tryz.ntmps3
  go_upto_region 1 with fail
  rw [← hW0.out]
  go_upto_region 2 with (go_at_call 5; refine A.mono ?_; clear A; rintro e W1 ⟨rfl, hb1⟩)
  have hB1 : Below w.heap.size w W1 := hb0.trans (hb1.mono hb0.size)
  have y0 := cell_below hb1 x0
  have y1 := cell_below hb1 x1
  have y2 := cell_below hb1 x2
  have y3 := cell_below hb1 x3
  have y4 := cell_below hb1 x4
  have y5 := cell_below hb1 x5
  have y6 := cell_below hb1 x6
  have y7 := cell_below hb1 x7
  have h1 := Lib.hid (h.out.below hB1)
  have KB := lawBig h1.out
  change Calls _ _ #[.agg #[.string mn, .slice rg.a rg.n rg.c, .slice kl.a kl.n kl.c, .slice op.a op.n op.c, .slice ar.a ar.n ar.c, .string rs, .slice sv.a sv.n sv.c, .int .i64 sl]] W1 _ at KB
  clear x0 x1 x2 x3 x4 x5 x6 x7 hbx
  go_upto_region 3 with (go_at_call 6; refine KB.mono ?_; clear KB; rintro e W2 ⟨g, rfl, hg, hb2⟩)
  have hB2 : Below w.heap.size w W2 := hB1.trans (hb2.mono hB1.size)
  cases g with
  | true =>
    clear hg
    go_wp2_with fail
    go_ret
    exact ⟨rfl, hB2⟩
  | false =>
    have hN := hg rfl
    have hM := Lib.hid ((machAt_of (hE.below hB1) (hA.below hB1) h1.out hN).below hb2)
    have hI := Lib.hid ((machIn_of h1.out hN).below hb2)
    have hcap : rg.n ≤ rg.c := h.out.regs.2.1
    have hnm : mn = d.name := h.out.same
    have z0 := cell_below hb2 y0
    have z1 := cell_below hb2 y1
    have z2 := cell_below hb2 y2
    have z3 := cell_below hb2 y3
    have z4 := cell_below hb2 y4
    have z5 := cell_below hb2 y5
    have z6 := cell_below hb2 y6
    have z7 := cell_below hb2 y7
    have KC := check_all hM.out
    change Calls _ _ #[.agg #[.string mn, .slice rg.a rg.n rg.c, .slice kl.a kl.n kl.c, .slice op.a op.n op.c, .slice ar.a ar.n ar.c, .string rs, .slice sv.a sv.n sv.c, .int .i64 sl]] W2 (fun e w' => e = .returned (.int .i64 (makeE d L)) ∧ Below W2.heap.size W2 w') at KC
    have KM : ∀ W3, Below W2.heap.size W2 W3 → Calls Tryz.prog 8 #[.agg #[.string mn, .slice rg.a rg.n rg.c, .slice kl.a kl.n kl.c, .slice op.a op.n op.c, .slice ar.a ar.n ar.c, .string rs, .slice sv.a sv.n sv.c, .int .i64 sl]] W3 fun e w' => ∃ p, e = .returned (.tuple #[.pointer p, .int .i64 (makeE d L)]) ∧ Below W3.heap.size W3 w' := fun W3 hb3 =>
      (refMake (m := ⟨mn, rg, kl, op, ar, rs, sv, sl⟩) hnm (hI.out.below hb3) ((hM.out.below hb3).regs) hcap).mono fun e w' => make_second
    clear y0 y1 y2 y3 y4 y5 y6 y7 hg hN hnm hcap
    generalize makeE d L = mx at KC KM
    replace KM := Lib.hid KM
    go_upto_region 6 with (go_at_call 7; refine KC.mono ?_; clear KC; rintro e W3 ⟨rfl, hb3⟩)
    have y0 := cell_below hb3 z0
    have y1 := cell_below hb3 z1
    have y2 := cell_below hb3 z2
    have y3 := cell_below hb3 z3
    have y4 := cell_below hb3 z4
    have y5 := cell_below hb3 z5
    have y6 := cell_below hb3 z6
    have y7 := cell_below hb3 z7
    have K3 := KM.out W3 hb3
    clear z0 z1 z2 z3 z4 z5 z6 z7
    go_wp2_with (first
      | (go_at_call 8; refine K3.mono ?_; clear K3; rintro e W4 ⟨p, rfl, hb4⟩)
      | (go_at_call 9; refine (num_any _ _).mono ?_; rintro e W5 ⟨rfl, rfl⟩))
    go_ret
    exact ⟨ret_bool (by simp), hB2.trans ((hb3.trans (hb4.mono hb3.size)).mono hB2.size)⟩
set_option maxRecDepth 100000 in
set_option maxHeartbeats 1600000 in
theorem refFits_out (T : Nat) (t : TV) (d : MachD) (ns : List ByteArray) (ps : List Plc) (cls : List (List Int)) (k : Int) (w : World) (h : TabOk w T t d ns ps cls) (ho : k < 0 ∨ (d.ops.length : Int) ≤ k) :
    Calls Tryz.prog 11 #[.pointer (some ⟨T, 0, none⟩), .int .i64 k] w fun e w' => e = .returned (.bool false) ∧ w = w' := by
  have c3 := Cells.cell h.tab (j := 3) (v := .slice t.m.ops.a t.m.ops.n t.m.ops.c) rfl
  have hn := h.ops.1
  have hcap := h.ops.2.1
  by_cases h1 : k < 0
  · clear h ho hn
    go_enter Tryz.func11, Tryz.ntmps11
    go_wp2_with fail
    go_ret
    exact ⟨rfl, rfl⟩
  · have h2 : (t.m.ops.n : Int) ≤ k := by omega
    generalize t.m.ops.n = pn at *
    generalize t.m.ops.c = pc at *
    generalize t.m.ops.a = pa at *
    clear h ho hn
    go_enter Tryz.func11, Tryz.ntmps11
    go_wp2_with fail
    go_ret
    exact ⟨rfl, rfl⟩
theorem together_swap (ps : List Plc) (x y : List Int) : togetherB ps [x, y] = togetherB ps [y, x] := by
  rw [together_two, together_two, Bool.eq_iff_iff]
  simp only [List.any_eq_true]
  exact ⟨fun ⟨a, ha, b, hb, h⟩ => ⟨b, hb, a, ha, by rwa [lapP_comm]⟩, fun ⟨a, ha, b, hb, h⟩ => ⟨b, hb, a, ha, by rwa [lapP_comm]⟩⟩
theorem pairA_swap (d : MachD) (L : RegL) (i j : Int) : pairA d L i j = pairA d L j i := by
  unfold pairA
  rw [Bool.and_assoc _ (decide (0 ≤ i)) (decide (0 ≤ j)), Bool.and_comm (decide (0 ≤ i)) (decide (0 ≤ j)), ← Bool.and_assoc]
  congr 1
  cases (clsOf (nmsL L) d.classes)[i.toNat]? with
  | none => cases (clsOf (nmsL L) d.classes)[j.toNat]? <;> rfl
  | some x =>
    cases (clsOf (nmsL L) d.classes)[j.toNat]? with
    | none => rfl
    | some y => exact together_swap _ x y
theorem pair_is {d : MachD} {L : RegL} (h : beginE d L 3 = 0) (i j : Int) : pairR (plsL L) (clsOf (nmsL L) d.classes) i j = pairA d L i j := by
  obtain ⟨h1, h2, _⟩ := begin_ok h
  unfold pairR pairA
  rw [decide_eq_true h1, decide_eq_true h2, Bool.true_and, Bool.true_and]
  by_cases hi : 0 ≤ i
  · by_cases hj : 0 ≤ j
    · rw [decide_eq_true hi, decide_eq_true hj]
      cases hx : (clsOf (nmsL L) d.classes)[i.toNat]? with
      | none =>
        have := List.getElem?_eq_none_iff.1 hx
        rw [decide_eq_false (p := i < _) (by omega)]
        cases (clsOf (nmsL L) d.classes)[j.toNat]? <;> simp
      | some x =>
        have h3 := (List.getElem?_eq_some_iff.1 hx).1
        rw [decide_eq_true (p := i < _) (by omega)]
        cases hy : (clsOf (nmsL L) d.classes)[j.toNat]? with
        | none =>
          have := List.getElem?_eq_none_iff.1 hy
          rw [decide_eq_false (p := j < _) (by omega)]; simp
        | some y =>
          have h4 := (List.getElem?_eq_some_iff.1 hy).1
          rw [decide_eq_true (p := j < _) (by omega)]
          simp only [List.getD_eq_getElem?_getD, hx, hy]
          rfl
    · rw [decide_eq_false hj]; simp
  · rw [decide_eq_false hi]; simp
theorem fits_none {d : MachD} {L : RegL} (h : beginE d L 4 ≠ 0) (k : Int) : fitsA d L k = false := by
  unfold fitsA
  by_cases h1 : fallX d L = 0
  · by_cases h2 : classesS nameB (nmsL L) (plsL L) d.classes = 0
    · by_cases h3 : opsS (nmsL L) (plsL L) d.classes d.ops = 0
      · exact absurd (by unfold beginE; rw [if_neg (by simp [h1]), if_neg (by simp [h2]), if_pos (by decide)]; exact h3) h
      · rw [decide_eq_false h3]; simp
    · rw [decide_eq_false h2]; simp
  · rw [decide_eq_false h1]; simp
theorem pair_none {d : MachD} {L : RegL} (h : beginE d L 3 ≠ 0) (i j : Int) : pairA d L i j = false := by
  unfold pairA
  by_cases h1 : fallX d L = 0
  · by_cases h2 : classesS nameB (nmsL L) (plsL L) d.classes = 0
    · exact absurd (by unfold beginE; rw [if_neg (by simp [h1]), if_neg (by simp [h2]), if_neg (by decide)]) h
    · rw [decide_eq_false h2]; simp
  · rw [decide_eq_false h1]; simp
end Go.Proofs.YtfhllbnpkcgfdaaGreatDoor
