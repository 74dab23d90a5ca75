/-
  MdcheckSmall answers true: the walk.
-/
import Derived.Test.YtanbjaohmhoohaaGreatDoorSwE
import Derived.Deep.Cut
import Derived.Deep.AppendLies
namespace Go.Proofs.YtanbjaohmhoohaaGreatDoor
open Go.RowKit

theorem MV.cellsOf {W : World} {B : Nat} {m : MV} (h : Cells W B 27 m.cells8) :
    W.cell? ⟨B, 0, none⟩ = some (.string m.name) ∧ W.cell? ⟨B, 1, none⟩ = some (.slice m.regs.a m.regs.n m.regs.c) ∧ W.cell? ⟨B, 2, none⟩ = some (.slice m.classes.a m.classes.n m.classes.c) ∧ W.cell? ⟨B, 3, none⟩ = some (.slice m.ops.a m.ops.n m.ops.c) ∧ W.cell? ⟨B, 4, none⟩ = some (.slice m.args.a m.args.n m.args.c) ∧ W.cell? ⟨B, 5, none⟩ = some (.string m.result) ∧ W.cell? ⟨B, 6, none⟩ = some (.slice m.saved.a m.saved.n m.saved.c) ∧ W.cell? ⟨B, 7, none⟩ = some (.int .i64 m.slots) :=
  ⟨h.cell rfl, h.cell rfl, h.cell rfl, h.cell rfl, h.cell rfl, h.cell rfl, h.cell rfl, h.cell rfl⟩

set_option maxRecDepth 100000 in
set_option maxHeartbeats 8000000 in
theorem small_law (n wh k : Int) (w : World) (hE : Env w) (hA : EnvA w) : Calls Tryz.prog 5 #[.int .i64 n, .int .i64 wh, .int .i64 k] w fun e w' => e = .returned (.bool true) ∧ Below w.heap.size w w' := by
  have A := mdAlive w hE
  by_cases hg : n < 3 ∨ 60 < n ∨ k < 0 ∨ n ≤ k
  · by_cases h1 : n < 3
    · go_enter Tryz.func5, Tryz.ntmps5
      go_wp2_with (go_at_call 9; refine A.mono ?_; clear A; rintro e W1 ⟨rfl, hb1⟩)
      go_ret
      exact ⟨rfl, hb1⟩
    by_cases h2 : 60 < n
    · go_enter Tryz.func5, Tryz.ntmps5
      go_wp2_with (go_at_call 9; refine A.mono ?_; clear A; rintro e W1 ⟨rfl, hb1⟩)
      go_ret
      exact ⟨rfl, hb1⟩
    by_cases h3 : k < 0
    · go_enter Tryz.func5, Tryz.ntmps5
      go_wp2_with (go_at_call 9; refine A.mono ?_; clear A; rintro e W1 ⟨rfl, hb1⟩)
      go_ret
      exact ⟨rfl, hb1⟩
    have h4 : n ≤ k := by omega
    clear hg
    go_enter Tryz.func5, Tryz.ntmps5
    go_wp2_with (go_at_call 9; refine A.mono ?_; clear A; rintro e W1 ⟨rfl, hb1⟩)
    go_ret
    exact ⟨rfl, hb1⟩
  have g1 : ¬ n < 3 := by omega
  have g2 : ¬ 60 < n := by omega
  have g3 : ¬ k < 0 := by omega
  have g4 : ¬ n ≤ k := by omega
  clear hg
  obtain ⟨nn, rfl⟩ : ∃ j : Nat, n = j := ⟨n.toNat, by omega⟩
  obtain ⟨kk, rfl⟩ : ∃ j : Nat, k = j := ⟨k.toNat, by omega⟩
  have S : ∀ W, Calls Tryz.prog 19 #[.int .i64 nn] W (SmallPost W nn) := fun W => small_any nn W (by omega)
  obtain ⟨jS, hjS, hjS0, hjS1, hjS2⟩ := info_parts Tryz.infoStrS
  obtain ⟨jK, hjK, hjK0, hjK1, hjK2⟩ := info_parts Tryz.infoClsS
  go_enter Tryz.func5, Tryz.ntmps5
  go_upto_region 5 with (first
    | (go_at_call 9; refine A.mono ?_; clear A; rintro e W1 ⟨rfl, hb1⟩)
    | (go_at_call 19; refine (S W1).mono ?_; clear S; rintro e W2 ⟨N, v, u, rfl, hS⟩; unfold smMV MV.val))
  have hF := SBase.first hb1 hS (W2.alloc (.cells (smMV v N).cells8 27)) ((Below.refl _ _).alloc (Nat.le_refl _) _) (Cells.new _ _ _)
  change Code.wp _ _ _ _ (W2.alloc (.cells (smMV v N).cells8 27))
  clear hb1 hS
  generalize W2.alloc (.cells (smMV v N).cells8 27) = W3 at hF ⊢
  generalize W2.heap.size = B at hF ⊢
  have k0 : (0 : Int) ≤ kk := Int.natCast_nonneg _
  have klt : (kk : Int) < nn := by omega
  have kltN : kk < nn := by omega
  have n3 : 3 ≤ nn := by omega
  have n60 : nn ≤ 60 := by omega
  obtain ⟨m0, m1, m2, m3, m4, m5, m6, m7⟩ := MV.cellsOf hF.m
  unfold smMV at m0 m1 m2 m3 m4 m5 m6 m7
  dsimp only at m0 m1 m2 m3 m4 m5 m6 m7
  go_upto_block 0 with fail
  go_cut [9] from 10 (fun want Wx => ∃ X : Int, want = .int .i64 X ∧ ChkRel w B X Wx)
  case rest =>
    obtain ⟨X, rfl, hBf, mv, hmf, C⟩ := hcut
    clear hF m0 m1 m2 m3 m4 m5 m6 m7
    rename World => wcf
    obtain ⟨c0, c1, c2, c3, c4, c5, c6, c7⟩ := MV.cellsOf hmf
    obtain ⟨nm, rg, kl, ol, ar, rs, sv, sl⟩ := mv
    unfold MV.val at C
    dsimp only at C c0 c1 c2 c3 c4 c5 c6 c7
    clear hmf
    go_wp2_with (first
      | (go_at_call 11; refine C.mono ?_; clear C; rintro e W5 ⟨rfl, hb5⟩)
      | (go_at_call 13; refine (num_any _ _).mono ?_; rintro e W6 ⟨rfl, rfl⟩))
    go_ret
    exact ⟨ret_bool (by simp), hBf.trans (hb5.mono hBf.size)⟩
  case first =>
    by_cases e0 : wh = 0
    · subst e0
      have f0 := hF.m.frozen 0
      go_wp2_with fail
      go_meet
      case rel => exact ⟨5, rfl, sw_0 hF⟩
    by_cases e8 : wh = 8
    · subst e8
      have f5 := hF.m.frozen 5
      go_wp2_with fail
      go_meet
      case rel => exact ⟨10, rfl, sw_8 hF hE n3 n60⟩
    by_cases e11 : wh = 11
    · subst e11
      have f7 := hF.m.frozen 7
      go_wp2_with fail
      go_meet
      case rel => exact ⟨10, rfl, sw_11 hF hE n3 n60⟩
    by_cases e7 : wh = 7
    · subst e7
      have o10 := hF.o.cell (j := 10) (v := .int .i64 (-1)) rfl
      have f10 := hF.o.frozen 10
      go_wp2_with fail
      go_meet
      case rel => exact ⟨9, rfl, sw_7 hF hE n3 n60⟩
    by_cases e1 : wh = 1
    · subst e1
      obtain ⟨va, vn, vc⟩ := v
      have hr := hF.regs
      dsimp only at hr m1
      obtain ⟨gv, vcap, hvv, _, hvl⟩ := hr.form (by omega)
      injection hvv with hv1 hv2 hv3
      subst hv1 hv2 hv3
      have r1 : W3.cell? ⟨gv, kk * 4 + 1, none⟩ = some (.int .i64 8) := ownsRow_cell hr (by rw [sCells_get _ _ 1 kltN (by decide)]; rfl)
      have q1 := hr.frozenAt (kk * 4 + 1)
      go_wp2_with fail
      go_meet
      case rel => exact ⟨6, rfl, sw_1 hF hE hA n60 kltN⟩
    by_cases e3 : wh = 3
    · subst e3
      obtain ⟨ua, un, uc⟩ := u
      have hr := hF.names
      dsimp only at hr
      obtain ⟨gu, ucap, huv, _, hul⟩ := hr.form (by omega)
      injection huv with hu1 hu2 hu3
      subst hu1 hu2 hu3
      have k1 := hF.k.cell (j := 1) (v := .slice (some ⟨gu, 0, none⟩) un uc) rfl
      have r1 : W3.cell? ⟨gu, kk, none⟩ = some (.string (sname kk)) := ownsRow_cell hr (by rw [List.getElem?_map, sNames_get kltN]; rfl)
      have q1 := hr.frozenAt kk
      go_wp2_with fail
      go_meet
      case rel => exact ⟨8, rfl, sw_3 hF hE n3 n60 kltN⟩
    by_cases e10 : wh = 10
    · subst e10
      have f6 := hF.m.frozen 6
      have m6a := fun o => cell_alloc o m6
      have f6a := fun o => (hF.m.alloc o).frozen 6
      go_wp2_with fail
      go_meet
      case rel => exact ⟨10, rfl, sw_10 hF hE n3 n60⟩
    by_cases e12 : wh = 12
    · subst e12
      have o3 := hF.o.cell (j := 3) (v := .slice (some ⟨N + 1 + 1, 0, none⟩) 2 2) rfl
      have p1 := hF.u0.cell (j := 1) (v := .string ⟨#[]⟩) rfl
      have p3 := hF.u0.cell (j := 3) (v := .string ⟨#[]⟩) rfl
      have q1 := hF.u0.frozen 1
      have q3 := hF.u0.frozen 3
      go_wp2_with fail
      go_meet
      case rel => exact ⟨11, rfl, sw_12 hF hE n3 n60⟩
    by_cases e4 : wh = 4
    · subst e4
      have hbs := hF.below.size
      have g1 : W3.ownsRow w.heap.size 46 2 (.slice (some ⟨N, 0, none⟩) 1 1) 1 [.string nmG, .slice u.a u.n u.c] := ownsRow_of_cells (n := 1) hF.k hF.hN rfl (by decide)
      have hb5 : ∀ o1 o2, Below W3.heap.size W3 ((W3.alloc o1).alloc o2) := fun o1 o2 => ((Below.refl _ W3).alloc (Nat.le_refl _) _).alloc (by simp) _
      have hnew : ∀ (o1 : Obj) (cs : Array Value), Cells ((W3.alloc o1).alloc (.cells cs 46)) (W3.heap.size + 1) 46 cs := fun o1 cs => by
        have := Cells.new (W3.alloc o1) 46 cs
        rw [World.size_alloc] at this; exact this
      have hr1 : ∀ (o2 : Obj), ((W3.alloc (.cells #[.string nmR, .string nmR] 9)).alloc o2).ownsRow w.heap.size 9 1 (.slice (some ⟨W3.heap.size, 0, none⟩) 2 2) 2 ([nmR, nmR].map Value.string) := fun o2 =>
        ownsRow_of_cells (n := 2) ((Cells.new W3 9 #[.string nmR, .string nmR]).alloc o2) hbs rfl (by decide)
      go_wp2_with (at_builtin; go_loud (refine wpList_append_lies _ rfl (.tmp 76) (.tmp 79) 23 rfl w.heap.size 46 jK _ 2 40 Tryz.underlying23 hjK hjK0 hjK1 hjK2 rfl (by decide) (.slice (some ⟨N, 0, none⟩) 1 1) 1 [.string nmG, .slice u.a u.n u.c] rfl ((g1.alloc _).alloc _) ⟨W3.heap.size + 1, 0, none⟩ 1 1 [.string nmH, .slice (some ⟨W3.heap.size, 0, none⟩) 2 2] rfl rfl (World.news_of_block (hnew _ #[.string nmH, .slice (some ⟨W3.heap.size, 0, none⟩) 2 2])) (by simp [Value.oneCell']) (by decide) (by decide) (by decide) (by simp; omega) _ rfl ?_; intro g cap W6 hown hgrow hat hlt; have hm6 := (KeepsT.of_grown ((g1.alloc _).alloc _) hgrow).block _ _ _ (by decide) ((hF.m.alloc _).alloc _); have d2 := hm6.cell (j := 2) (v := .slice (some ⟨N, 0, none⟩) 1 1) rfl; have df2 := hm6.frozen 2))
      go_meet
      case rel => exact ⟨8, rfl, sw_app (s := ⟨some ⟨W3.heap.size, 0, none⟩, 2, 2⟩) (l2 := [nmR, nmR]) hF hE n3 n60 (hb5 _ _) (hr1 _) hgrow hown (by
        have e := sw4 (n := nn) (by omega) (by omega)
        rw [checkS_cls (sNames_ne (by omega)) (by dsimp only; rw [e]; decide)]
        exact e)⟩
    by_cases e14 : wh = 14
    · subst e14
      have hbs := hF.below.size
      have g1 : W3.ownsRow w.heap.size 46 2 (.slice (some ⟨N, 0, none⟩) 1 1) 1 [.string nmG, .slice u.a u.n u.c] := ownsRow_of_cells (n := 1) hF.k hF.hN rfl (by decide)
      have hb5 : ∀ o1 o2, Below W3.heap.size W3 ((W3.alloc o1).alloc o2) := fun o1 o2 => ((Below.refl _ W3).alloc (Nat.le_refl _) _).alloc (by simp) _
      have hnew : ∀ (o1 : Obj) (cs : Array Value), Cells ((W3.alloc o1).alloc (.cells cs 46)) (W3.heap.size + 1) 46 cs := fun o1 cs => by
        have := Cells.new (W3.alloc o1) 46 cs
        rw [World.size_alloc] at this; exact this
      have hr1 : ∀ (o2 : Obj), ((W3.alloc (.cells #[.string nmR1] 9)).alloc o2).ownsRow w.heap.size 9 1 (.slice (some ⟨W3.heap.size, 0, none⟩) 1 1) 1 ([nmR1].map Value.string) := fun o2 =>
        ownsRow_of_cells (n := 1) ((Cells.new W3 9 #[.string nmR1]).alloc o2) hbs rfl (by decide)
      go_wp2_with (at_builtin; go_loud (refine wpList_append_lies _ rfl (.tmp 156) (.tmp 159) 23 rfl w.heap.size 46 jK _ 2 40 Tryz.underlying23 hjK hjK0 hjK1 hjK2 rfl (by decide) (.slice (some ⟨N, 0, none⟩) 1 1) 1 [.string nmG, .slice u.a u.n u.c] rfl ((g1.alloc _).alloc _) ⟨W3.heap.size + 1, 0, none⟩ 1 1 [.string nmH, .slice (some ⟨W3.heap.size, 0, none⟩) 1 1] rfl rfl (World.news_of_block (hnew _ #[.string nmH, .slice (some ⟨W3.heap.size, 0, none⟩) 1 1])) (by simp [Value.oneCell']) (by decide) (by decide) (by decide) (by simp; omega) _ rfl ?_; intro g cap W6 hown hgrow hat hlt; have hm6 := (KeepsT.of_grown ((g1.alloc _).alloc _) hgrow).block _ _ _ (by decide) ((hF.m.alloc _).alloc _); have d2 := hm6.cell (j := 2) (v := .slice (some ⟨N, 0, none⟩) 1 1) rfl; have df2 := hm6.frozen 2))
      go_meet
      case rel => exact ⟨11, rfl, sw_app (s := ⟨some ⟨W3.heap.size, 0, none⟩, 1, 1⟩) (l2 := [nmR1]) hF hE n3 n60 (hb5 _ _) (hr1 _) hgrow hown (checkS_room (sNames_ne (by omega)) (cls_h (by omega) (by omega)) (std_ops (l := sNames nn) (by omega) (sNames_ne (by omega))) (conv_g (by omega) (by omega)) (homes14 (by omega) (by omega)) (room14 (by omega) (by omega) _))⟩
    by_cases e9 : wh = 9
    · subst e9
      have hbs := hF.below.size
      have hN6 : w.heap.size ≤ N + 1 + 1 + 1 + 1 + 1 + 1 := by have := hF.hN; omega
      have g1 : W3.ownsRow w.heap.size 9 1 (.slice (some ⟨N + 1 + 1 + 1 + 1 + 1 + 1, 0, none⟩) 1 1) 1 [.string nmR] := ownsRow_of_cells (n := 1) hF.a hN6 rfl (by decide)
      have hb5 : ∀ o1, Below W3.heap.size W3 (W3.alloc o1) := fun o1 => (Below.refl _ W3).alloc (Nat.le_refl _) _
      go_wp2_with (at_builtin; go_loud (refine wpList_append_lies _ rfl (.tmp 114) (.tmp 115) 25 rfl w.heap.size 9 jS _ 1 16 Tryz.underlying25 hjS hjS0 hjS1 hjS2 rfl (by decide) (.slice (some ⟨N + 1 + 1 + 1 + 1 + 1 + 1, 0, none⟩) 1 1) 1 [.string nmR] rfl (g1.alloc _) ⟨W3.heap.size, 0, none⟩ 2 2 [.string nmR1, .string nmR] rfl rfl (World.news_of_block (Cells.new W3 9 #[.string nmR1, .string nmR])) (by simp [Value.oneCell']) (by decide) (by decide) (by decide) (by simp; omega) _ rfl ?_; intro g cap W6 hown hgrow hat hlt; have hm6 := (KeepsT.of_grown (g1.alloc _) hgrow).block _ _ _ (by decide) (hF.m.alloc _); have d4 := hm6.cell (j := 4) (v := .slice (some ⟨N + 1 + 1 + 1 + 1 + 1 + 1, 0, none⟩) 1 1) rfl; have df4 := hm6.frozen 4))
      go_meet
      case rel => exact ⟨10, rfl, sw_9 hF hE n3 n60 (hb5 _) hgrow hown⟩
    by_cases e15 : wh = 15
    · subst e15
      have hbs := hF.below.size
      have o17 := hF.o.cell (j := 17) (v := .slice none 0 0) rfl
      have f17 := hF.o.frozen 17
      obtain ⟨ua, un, uc⟩ := u
      have hr := hF.names
      dsimp only at hr
      obtain ⟨gu, ucap, huv, _, hul⟩ := hr.form (by omega)
      injection huv with hu1 hu2 hu3
      subst hu1 hu2 hu3
      have k1 := hF.k.cell (j := 1) (v := .slice (some ⟨gu, 0, none⟩) un uc) rfl
      have hn2 : ∀ j x, ((sNames un).map Value.string)[j]? = some x → W3.cell? ((⟨gu, 0, none⟩ : Addr).add j) = some x := fun j x hj => by
        have : ((⟨gu, 0, none⟩ : Addr).add j) = ⟨gu, j, none⟩ := by simp [Addr.add]; exact fun e => e.symm
        rw [this]; exact ownsRow_cell hr hj
      have hco : ∀ y ∈ (sNames un).map Value.string, y.oneCell' = true := fun y hy => by obtain ⟨z, _, rfl⟩ := List.mem_map.1 hy; rfl
      have hcn : ((sNames un).map Value.string).length = un * 1 := by simp [sNames]
      replace hn2 := Lib.hid hn2
      go_upto_region 55 with fail
      go_region_law (refine step_append_any (by rfl) _ _ _ (by rfl) w.heap.size 9 jS _ 1 16 Tryz.underlying25 hjS hjS0 hjS1 hjS2 rfl (by decide) 0 [] (.slice none 0 0) (by rfl) (World.ownsRow_nil _ _ _ _) ⟨gu, 0, none⟩ un uc ((sNames un).map Value.string) (by rfl) hcn (fun j x hx => hn2.out j x hx) hco (by unfold maxLen; omega) (by omega) (by simp; exact hbs) un (by omega) ?_; intro g gcap W6 hown hgrow; have hb6 : Below W3.heap.size W3 W6 := ((Below.refl _ W3).drew).grown hgrow (by simp) (fun i e => by cases e); have o6 := cell_below hb6 o17; have d3 := cell_below hb6 m3; have f6 := (hF.o.below hb6 hF.o.lt).frozen 17)
      all_goals
        go_wp2_with fail
        go_meet
        case rel => exact ⟨11, rfl, sw_15 (cl := ⟨g, un, gcap⟩) hF hE n3 n60 hb6 hown⟩
    by_cases e13 : wh = 13
    · subst e13
      obtain ⟨ua, un, uc⟩ := u
      have hr := hF.names
      dsimp only at hr
      obtain ⟨gu, ucap, huv, _, hul⟩ := hr.form (by omega)
      injection huv with hu1 hu2 hu3
      subst hu1 hu2 hu3
      have k1 := hF.k.cell (j := 1) (v := .slice (some ⟨gu, 0, none⟩) un uc) rfl
      have q1 := hF.k.frozen 1
      have huc : un ≤ uc := (strsRow (s := ⟨some ⟨gu, 0, none⟩, un, uc⟩) hr (by rw [sNames_length])).2.1
      have hi1 : (1 : Int) ≤ un := by omega
      have hi2 : 1 ≤ un := by omega
      go_upto_region 49 with fail
      go_region
      all_goals
        go_wp2_with fail
        go_meet
        case rel => exact ⟨10, rfl, sw_13 (hF.step ((Below.refl _ _).drew)) hE n3 n60 huc⟩
    by_cases e6 : wh = 6
    · subst e6
      have o3 := hF.o.cell (j := 3) (v := .slice (some ⟨N + 1 + 1, 0, none⟩) 2 2) rfl
      have f3 := hF.o.frozen 3
      go_upto_region 27 with fail
      go_region
      all_goals
        go_wp2_with fail
        go_meet
        case rel => exact ⟨9, rfl, sw_6 (hF.step ((Below.refl _ _).drew)) hE n3 n60⟩
    by_cases e2 : wh = 2
    · subst e2
      obtain ⟨jj, hj⟩ : ∃ jj : Nat, (kk + 1 < nn ∧ jj = kk + 1) ∨ (kk + 1 = nn ∧ jj = 0) := by
        by_cases h : kk + 1 < nn
        · exact ⟨kk + 1, .inl ⟨h, rfl⟩⟩
        · exact ⟨0, .inr ⟨by omega, rfl⟩⟩
      have hjn : jj < nn := by omega
      have j0 : (0 : Int) ≤ jj := Int.natCast_nonneg _
      have hji : (jj : Int) < nn := by omega
      have hnz : (nn : Int) ≠ 0 := by omega
      have hnzN : nn ≠ 0 := by omega
      have hw1 : IntKind.i64.wrap ((kk : Int) + 1) = kk + 1 := IntWalk.i64_in _ (by omega)
      have hw2 : IntKind.i64.wrap (jj : Int) = jj := IntWalk.i64_in _ (by omega)
      have ht : Int.tmod ((kk : Int) + 1) nn = jj := by
        rcases hj with ⟨h, rfl⟩ | ⟨h, rfl⟩
        · rw [Int.tmod_eq_of_lt (by omega) (by omega)]; push_cast; rfl
        · rw [show ((kk : Int) + 1) = nn by omega, Int.tmod_self]; rfl
      obtain ⟨va, vn, vc⟩ := v
      have hr := hF.regs
      dsimp only at hr m1
      obtain ⟨gv, vcap, hvv, _, hvl⟩ := hr.form (by omega)
      injection hvv with hv1 hv2 hv3
      subst hv1 hv2 hv3
      have r0 : W3.cell? ⟨gv, kk * 4, none⟩ = some (.string (sname kk)) := ownsRow_cell hr (sCells_get _ _ 0 kltN (by decide))
      have r1 : W3.cell? ⟨gv, jj * 4, none⟩ = some (.string (sname jj)) := ownsRow_cell hr (sCells_get _ _ 0 hjn (by decide))
      have q0 := hr.frozenAt (kk * 4)
      have hj' := Lib.hid hj
      clear hj
      go_upto_region 15 with fail
      go_region
      all_goals
        go_wp2_with fail
        go_meet
        case rel => exact ⟨5, rfl, sw_2 (hF.step ((Below.refl _ _).drew)) hE hA n3 n60 kltN hj'.out⟩
    by_cases e5 : wh = 5
    · subst e5
      obtain ⟨i, hi, ht⟩ : ∃ i : Nat, i < 3 ∧ Int.tmod (kk : Int) 3 = i := ⟨kk % 3, Nat.mod_lt _ (by decide), by rw [Int.tmod_eq_emod_of_nonneg k0]; rfl⟩
      have hw2 : IntKind.i64.wrap (i : Int) = i := IntWalk.i64_in _ (by omega)
      have i0 : (0 : Int) ≤ i := Int.natCast_nonneg _
      have hi3 : (i : Int) < 3 := by omega
      obtain ⟨s6, o6⟩ : ∃ s6, W3.cell? ⟨N + 1 + 1 + 1 + 1 + 1, i * 6, none⟩ = some (.string s6) := by
        match i, hi with
        | 0, _ => exact ⟨_, hF.o.cell (j := 0) rfl⟩
        | 1, _ => exact ⟨_, hF.o.cell (j := 6) rfl⟩
        | 2, _ => exact ⟨_, hF.o.cell (j := 12) rfl⟩
      have f6 := hF.o.frozen (i * 6)
      go_wp2_with fail
      go_meet
      case rel => exact ⟨5, rfl, sw_5 hF hE n3 n60 i hi⟩
    obtain ⟨hBf, mv, hmf, C⟩ := sw_def hF hE n3 n60
    clear hF m0 m1 m2 m3 m4 m5 m6 m7
    obtain ⟨c0, c1, c2, c3, c4, c5, c6, c7⟩ := MV.cellsOf hmf
    obtain ⟨nm, rg, kl, ol, ar, rs, sv, sl⟩ := mv
    unfold MV.val at C
    dsimp only at C c0 c1 c2 c3 c4 c5 c6 c7
    clear hmf
    go_wp2_with (first
      | (go_at_call 11; refine C.mono ?_; clear C; rintro e W5 ⟨rfl, hb5⟩)
      | (go_at_call 13; refine (num_any _ _).mono ?_; rintro e W6 ⟨rfl, rfl⟩))
    go_ret
    exact ⟨ret_bool (by simp), hBf.trans (hb5.mono hBf.size)⟩
end Go.Proofs.YtanbjaohmhoohaaGreatDoor
