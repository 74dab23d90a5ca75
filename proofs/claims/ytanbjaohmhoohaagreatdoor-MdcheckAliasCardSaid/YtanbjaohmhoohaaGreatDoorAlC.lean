/-
  MdcheckAlias answers true: the walk.
-/
import Derived.Test.YtanbjaohmhoohaaGreatDoorAlB
import Derived.Test.YtanbjaohmhoohaaGreatDoorSwF
namespace Go.Proofs.YtanbjaohmhoohaaGreatDoor
open Go.RowKit

set_option maxRecDepth 100000 in
set_option maxHeartbeats 8000000 in
theorem alias_main (width a wa b wb : Int) (h : AlNum width a wa b wb) (w : World) (hE : Env w) (hA : EnvA w) : Calls Tryz.prog 6 #[.int .i64 width, .int .i64 a, .int .i64 wa, .int .i64 b, .int .i64 wb] w fun e w' => e = .returned (.bool true) ∧ Below w.heap.size w w' := by
  have A := mdAlive w hE
  obtain ⟨w1, w2, a0, a1, wa1, wa2, b0, b1, wb1, wb2⟩ := h
  have h := Lib.hid (AlNum.mk w1 w2 a0 a1 wa1 wa2 b0 b1 wb1 wb2)
  have g1 : ¬ width < 1 := by omega
  have g2 : ¬ 64 < width := by omega
  have g3 : ¬ a < 0 := by omega
  have g4 : ¬ wa < 1 := by omega
  have g5 : ¬ b < 0 := by omega
  have g6 : ¬ wb < 1 := by omega
  have g7 : ¬ 64 < a := by omega
  have g8 : ¬ 64 < wa := by omega
  have g9 : ¬ 64 < b := by omega
  have g10 : ¬ 64 < wb := by omega
  have v1 : IntKind.i64.wrap (a + wa) = a + wa := IntWalk.i64_in _ (by omega)
  have v2 : IntKind.i64.wrap (b + wb) = b + wb := IntWalk.i64_in _ (by omega)
  have S : ∀ W, Calls Tryz.prog 19 #[.int .i64 3] W (SmallPost W 3) := fun W => small_any 3 W (by omega)
  obtain ⟨jR, hjR, hjR0, hjR1, hjR2⟩ := info_parts Tryz.infoRegS
  go_enter Tryz.func6, Tryz.ntmps6
  go_upto_region 5 with (first
    | (go_at_call 9; refine A.mono ?_; clear A; rintro e W1 ⟨rfl, hb1⟩)
    | (go_at_call 19; refine (S W1).mono ?_; clear S; rintro e W2 ⟨N, v, u, rfl, hS⟩; unfold smMV MV.val))
  have hF := SBase.first hb1 hS (W2.alloc (.cells (smMV v N).cells8 27)) ((Below.refl _ _).alloc (Nat.le_refl _) _) (Cells.new _ _ _)
  change Code.wp _ _ _ _ (W2.alloc (.cells (smMV v N).cells8 27))
  clear hb1 hS
  generalize W2.alloc (.cells (smMV v N).cells8 27) = W3 at hF ⊢
  generalize W2.heap.size = B at hF ⊢
  have hbs := hF.below.size
  obtain ⟨m0, m1, m2, m3, m4, m5, m6, m7⟩ := MV.cellsOf hF.m
  unfold smMV at m1
  dsimp only at m1
  clear m0 m2 m3 m4 m5 m6 m7
  have hb5 : ∀ o1 o2, Below W3.heap.size W3 ((W3.alloc o1).alloc o2) := fun o1 o2 => ((Below.refl _ W3).alloc (Nat.le_refl _) _).alloc (by simp) _
  have hnew : ∀ (o1 : Obj) (cs : Array Value), Cells ((W3.alloc o1).alloc (.cells cs 44)) (W3.heap.size + 1) 44 cs := fun o1 cs => by
    have := Cells.new (W3.alloc o1) 44 cs
    rw [World.size_alloc] at this; exact this
  have hsub : ∀ (o2 : Obj), Cells ((W3.alloc (.cells (alSubCells a wa b wb) 44)).alloc o2) W3.heap.size 44 (alSubCells a wa b wb) := fun o2 => (Cells.new W3 44 (alSubCells a wa b wb)).alloc o2
  obtain ⟨va, vn, vc⟩ := v
  have hr := hF.regs
  dsimp only at hr m1
  obtain rfl : vn = 3 := by
    obtain ⟨_, _, e⟩ := ownsRow_form hr
    injection e
  go_upto_region 6 with (at_builtin; go_loud (refine wpList_append_lies _ rfl (.tmp 60) (.tmp 70) 22 rfl w.heap.size 44 jR _ 4 56 Tryz.underlying22 hjR hjR0 hjR1 hjR2 rfl (by decide) (.slice va 3 vc) 3 (sCells 3) rfl ((hr.alloc _).alloc _) ⟨W3.heap.size + 1, 0, none⟩ 1 1 [.string nmWd, .int .i64 width, .int .i64 0, alTwo W3.heap.size] rfl rfl (World.news_of_block (hnew _ #[.string nmWd, .int .i64 width, .int .i64 0, alTwo W3.heap.size])) (by simp [Value.oneCell', alTwo]) (by decide) (by decide) (by decide) (by simp; omega) _ rfl ?_; intro g cap W6 hown hgrow hat hlt; have hm6 := (KeepsT.of_grown ((hr.alloc _).alloc _) hgrow).block _ _ _ (by decide) ((hF.m.alloc _).alloc _); have d1 := hm6.cell (j := 1) (v := .slice va 3 vc) rfl; have df1 := hm6.frozen 1))
  have hM := AMem.of (v := ⟨va, 3, vc⟩) hF (hb5 _ _) (hsub _) hgrow hown
  generalize W6.setCell ⟨B, 1, none⟩ (.slice (some ⟨g, 0, none⟩) 4 cap) = W7 at hM ⊢
  clear hm6 d1 df1 hown hgrow hF hr hsub hnew hb5 m1
  by_cases p1 : width < a + wa
  · have C := al_fell hM hE hA h.out 6 (.inl ⟨rfl, p1⟩)
    unfold alMV smMV MV.val at C
    dsimp only at C
    clear hE hA
    · skip
      obtain ⟨n0, n1, n2, n3, n4, n5, n6, n7⟩ := MV.cellsOf hM.m
      unfold smMV at n0 n1 n2 n3 n4 n5 n6 n7
      dsimp only at n0 n1 n2 n3 n4 n5 n6 n7
      have hBM := hM.below
      clear hM
      go_wp2_with (first
        | (go_at_call 11; refine C.mono ?_; clear C; rintro e W8 ⟨rfl, hb8⟩)
        | (go_at_call 13; refine (num_any _ _).mono ?_; rintro e W9 ⟨rfl, rfl⟩))
      go_ret
      exact ⟨rfl, hBM.trans (hb8.mono hBM.size)⟩
  by_cases p2 : width < b + wb
  · have C := al_fell hM hE hA h.out 6 (.inr (.inl ⟨rfl, by omega, p2⟩))
    unfold alMV smMV MV.val at C
    dsimp only at C
    clear hE hA
    · skip
      obtain ⟨n0, n1, n2, n3, n4, n5, n6, n7⟩ := MV.cellsOf hM.m
      unfold smMV at n0 n1 n2 n3 n4 n5 n6 n7
      dsimp only at n0 n1 n2 n3 n4 n5 n6 n7
      have hBM := hM.below
      clear hM
      go_wp2_with (first
        | (go_at_call 11; refine C.mono ?_; clear C; rintro e W8 ⟨rfl, hb8⟩)
        | (go_at_call 13; refine (num_any _ _).mono ?_; rintro e W9 ⟨rfl, rfl⟩))
      go_ret
      exact ⟨rfl, hBM.trans (hb8.mono hBM.size)⟩
  by_cases p3 : a < b + wb
  · by_cases p4 : b < a + wa
    · have C := al_fell hM hE hA h.out 7 (.inr (.inr ⟨rfl, by omega, by omega, p3, p4⟩))
      unfold alMV smMV MV.val at C
      dsimp only at C
      clear hE hA
      obtain ⟨n0, n1, n2, n3, n4, n5, n6, n7⟩ := MV.cellsOf hM.m
      unfold smMV at n0 n1 n2 n3 n4 n5 n6 n7
      dsimp only at n0 n1 n2 n3 n4 n5 n6 n7
      have hBM := hM.below
      clear hM
      go_wp2_with (first
        | (go_at_call 11; refine C.mono ?_; clear C; rintro e W8 ⟨rfl, hb8⟩)
        | (go_at_call 13; refine (num_any _ _).mono ?_; rintro e W9 ⟨rfl, rfl⟩))
      go_ret
      exact ⟨rfl, hBM.trans (hb8.mono hBM.size)⟩
    · have C := al_ok hM hE h.out (by omega) (by omega) (by omega)
      unfold alMV smMV MV.val at C
      dsimp only at C
      clear hE hA
      obtain ⟨n0, n1, n2, n3, n4, n5, n6, n7⟩ := MV.cellsOf hM.m
      unfold smMV at n0 n1 n2 n3 n4 n5 n6 n7
      dsimp only at n0 n1 n2 n3 n4 n5 n6 n7
      have hBM := hM.below
      clear hM
      go_wp2_with (first
        | (go_at_call 11; refine C.mono ?_; clear C; rintro e W8 ⟨rfl, hb8⟩)
        | (go_at_call 13; refine (num_any _ _).mono ?_; rintro e W9 ⟨rfl, rfl⟩))
      go_ret
      exact ⟨rfl, hBM.trans (hb8.mono hBM.size)⟩
  · have C := al_ok hM hE h.out (by omega) (by omega) (by omega)
    unfold alMV smMV MV.val at C
    dsimp only at C
    clear hE hA
    · skip
      obtain ⟨n0, n1, n2, n3, n4, n5, n6, n7⟩ := MV.cellsOf hM.m
      unfold smMV at n0 n1 n2 n3 n4 n5 n6 n7
      dsimp only at n0 n1 n2 n3 n4 n5 n6 n7
      have hBM := hM.below
      clear hM
      go_wp2_with (first
        | (go_at_call 11; refine C.mono ?_; clear C; rintro e W8 ⟨rfl, hb8⟩)
        | (go_at_call 13; refine (num_any _ _).mono ?_; rintro e W9 ⟨rfl, rfl⟩))
      go_ret
      exact ⟨rfl, hBM.trans (hb8.mono hBM.size)⟩

set_option maxRecDepth 100000 in
set_option maxHeartbeats 8000000 in
theorem alias_any (width a wa b wb : Int) (w : World) (hE : Env w) (hA : EnvA w) : Calls Tryz.prog 6 #[.int .i64 width, .int .i64 a, .int .i64 wa, .int .i64 b, .int .i64 wb] w fun e w' => e = .returned (.bool true) ∧ Below w.heap.size w w' := by
  have A := mdAlive w hE
  by_cases g1 : width < 1
  · go_enter Tryz.func6, Tryz.ntmps6
    go_wp2_with (go_at_call 9; refine A.mono ?_; clear A; rintro e W1 ⟨rfl, hb1⟩)
    go_ret
    exact ⟨rfl, hb1⟩
  by_cases g2 : 64 < width
  · go_enter Tryz.func6, Tryz.ntmps6
    go_wp2_with (go_at_call 9; refine A.mono ?_; clear A; rintro e W1 ⟨rfl, hb1⟩)
    go_ret
    exact ⟨rfl, hb1⟩
  by_cases g3 : a < 0
  · go_enter Tryz.func6, Tryz.ntmps6
    go_wp2_with (go_at_call 9; refine A.mono ?_; clear A; rintro e W1 ⟨rfl, hb1⟩)
    go_ret
    exact ⟨rfl, hb1⟩
  by_cases g4 : wa < 1
  · go_enter Tryz.func6, Tryz.ntmps6
    go_wp2_with (go_at_call 9; refine A.mono ?_; clear A; rintro e W1 ⟨rfl, hb1⟩)
    go_ret
    exact ⟨rfl, hb1⟩
  by_cases g5 : b < 0
  · go_enter Tryz.func6, Tryz.ntmps6
    go_wp2_with (go_at_call 9; refine A.mono ?_; clear A; rintro e W1 ⟨rfl, hb1⟩)
    go_ret
    exact ⟨rfl, hb1⟩
  by_cases g6 : wb < 1
  · go_enter Tryz.func6, Tryz.ntmps6
    go_wp2_with (go_at_call 9; refine A.mono ?_; clear A; rintro e W1 ⟨rfl, hb1⟩)
    go_ret
    exact ⟨rfl, hb1⟩
  by_cases g7 : 64 < a
  · go_enter Tryz.func6, Tryz.ntmps6
    go_wp2_with (go_at_call 9; refine A.mono ?_; clear A; rintro e W1 ⟨rfl, hb1⟩)
    go_ret
    exact ⟨rfl, hb1⟩
  by_cases g8 : 64 < wa
  · go_enter Tryz.func6, Tryz.ntmps6
    go_wp2_with (go_at_call 9; refine A.mono ?_; clear A; rintro e W1 ⟨rfl, hb1⟩)
    go_ret
    exact ⟨rfl, hb1⟩
  by_cases g9 : 64 < b
  · go_enter Tryz.func6, Tryz.ntmps6
    go_wp2_with (go_at_call 9; refine A.mono ?_; clear A; rintro e W1 ⟨rfl, hb1⟩)
    go_ret
    exact ⟨rfl, hb1⟩
  by_cases g10 : 64 < wb
  · go_enter Tryz.func6, Tryz.ntmps6
    go_wp2_with (go_at_call 9; refine A.mono ?_; clear A; rintro e W1 ⟨rfl, hb1⟩)
    go_ret
    exact ⟨rfl, hb1⟩
  exact alias_main width a wa b wb ⟨by omega, by omega, by omega, by omega, by omega, by omega, by omega, by omega, by omega, by omega⟩ w hE hA
end Go.Proofs.YtanbjaohmhoohaaGreatDoor
