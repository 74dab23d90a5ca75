/-
  vir's add, of blocks and of instructions.
-/
import Derived.Test.YtfnfijgknjnccaaGreatDoorVxD
import Derived.Test.YtfnfijgknjnccaaGreatDoorVxE
namespace Go.Proofs.YtfnfijgknjnccaaGreatDoor
open Go.RowKit Go.Sort
theorem Tryz.infoInsV : (Tryz.prog.info? 25).map (fun i => (i.zero, i.size, i.bytes)) = some (some (.agg (insZ 0 0).cells), 9, 96) := by kernel_rfl
theorem Tryz.infoBlkV : (Tryz.prog.info? 26).map (fun i => (i.zero, i.size, i.bytes)) = some (some (.slice none 0 0), 1, 24) := by kernel_rfl
set_option maxHeartbeats 8000000
set_option maxRecDepth 100000
theorem addB_nil {R j : Nat} {cs : Array Value} {w : World} (hR : Cells w R 42 cs) (hj : cs[j]? = some (.slice none 0 0)) :
    Calls Tryz.prog 64 #[.pointer (some ⟨R, j, none⟩), .slice none 0 0, .int .i64 200] w fun e w' => e = .returned (.int .i64 0) ∧ ∃ g c W1,
      W1.ownsRow w.heap.size 26 1 (.slice (some ⟨g, 0, none⟩) 1 c) 1 [.slice none 0 0] ∧ Below w.heap.size w W1 ∧ w' = W1.setCell ⟨R, j, none⟩ (.slice (some ⟨g, 0, none⟩) 1 c) := by
  obtain ⟨i0, hi0, hz0, hz1, hz2⟩ := info_parts Tryz.infoBlkV
  have c0 := hR.cell hj
  have f0 := hR.frozen j
  replace hR := Lib.hid hR
  go_enter Tryz.func64, Tryz.ntmps64
  go_wp2_with (at_builtin; refine wpList_append_own_at _ rfl _ _ 27 rfl w.heap.size 26 i0 _ 1 24 Tryz.underlying27 hi0 hz0 hz1 hz2 rfl (by decide) _ 0 [] rfl (World.ownsRow_nil _ _ _ _) ⟨w.heap.size, 0, none⟩ 1 1 [.slice none 0 0] rfl rfl (new_cells _ _ _ _ rfl) (by simp [Value.oneCell']) (by unfold maxLen; omega) (by omega) (by simp) ?_; intro v' W7 hown7 hgrow _ hblk; obtain ⟨g', cap', rfl⟩ := ownsRow_form hown7; have hb7 := Lib.hid ((belowN (w := w) (o := .cells #[.slice none 0 0] 26)).grown hgrow (by simp) (show ∀ g, (Value.slice none 0 0).ownBlock = some g → _ from fun g hg => by simp [Value.ownBlock] at hg)); have f7 := (hR.out.below hb7.out hR.out.lt).frozen j; have c7 := (hR.out.below hb7.out hR.out.lt).cell hj; replace hown7 := Lib.hid hown7)
  go_ret
  obtain ⟨g, rfl, _, _⟩ := row_some hown7.out (by omega)
  exact ⟨rfl, g, cap', W7, hown7.out, hb7.out, rfl⟩
theorem addI {base g j n ic : Nat} {ia : Option Addr} {cur : Array Value} {xs : List Value} (x : InsV) {w : World} (hP : Cells w g 26 cur) (hj : cur[j]? = some (.slice ia n ic)) (hrow : w.ownsRow base 25 9 (.slice ia n ic) n xs) (hn : n < 400) (hbase : base ≤ w.heap.size) :
    Calls Tryz.prog 86 #[.pointer (some ⟨g, j, none⟩), .agg x.cells, .int .i64 400] w fun e w' => e = .returned (.int .i64 0) ∧ ∃ ga ca W1,
      W1.ownsRow base 25 9 (.slice (some ⟨ga, 0, none⟩) (n + 1) ca) (n + 1) (xs ++ x.cells.toList) ∧ Cells W1 g 26 cur ∧ w.grownBy W1 (Value.slice ia n ic).ownBlock ∧ w' = W1.setCell ⟨g, j, none⟩ (.slice (some ⟨ga, 0, none⟩) (n + 1) ca) := by
  obtain ⟨i0, hi0, hz0, hz1, hz2⟩ := info_parts Tryz.infoInsV
  obtain ⟨xk, xd, xa, xb, xn, xnm, xsa, xsn, xsc, xt, xf⟩ := x
  unfold InsV.cells
  dsimp only
  have hP0 := hP.alloc (.cells #[.int .i64 xk, .int .i64 xd, .int .i64 xa, .int .i64 xb, .int .i64 xn, .string xnm, .slice xsa xsn xsc, .int .i64 xt, .int .i64 xf] 25)
  have hX0 := Cells.new w 25 #[.int .i64 xk, .int .i64 xd, .int .i64 xa, .int .i64 xb, .int .i64 xn, .string xnm, .slice xsa xsn xsc, .int .i64 xt, .int .i64 xf]
  have hr0 := hrow.alloc (.cells #[.int .i64 xk, .int .i64 xd, .int .i64 xa, .int .i64 xb, .int .i64 xn, .string xnm, .slice xsa xsn xsc, .int .i64 xt, .int .i64 xf] 25)
  have hgw := World.grownBy_alloc w (.cells #[.int .i64 xk, .int .i64 xd, .int .i64 xa, .int .i64 xb, .int .i64 xn, .string xnm, .slice xsa xsn xsc, .int .i64 xt, .int .i64 xf] 25) (Value.slice ia n ic).ownBlock
  have hz : (w.alloc (.cells #[.int .i64 xk, .int .i64 xd, .int .i64 xa, .int .i64 xb, .int .i64 xn, .string xnm, .slice xsa xsn xsc, .int .i64 xt, .int .i64 xf] 25)).heap.size = w.heap.size + 1 := by simp
  have c0 := hP0.cell hj
  have hn4 : ((n : Int) == 400) = false := by simp; omega
  have hn5 : ¬ (n : Int) = 400 := by omega
  go_enter Tryz.func86, Tryz.ntmps86
  go_wp2_with fail
  generalize w.alloc (.cells #[.int .i64 xk, .int .i64 xd, .int .i64 xa, .int .i64 xb, .int .i64 xn, .string xnm, .slice xsa xsn xsc, .int .i64 xt, .int .i64 xf] 25) = W2 at *
  have hW2 : base ≤ W2.heap.size := by omega
  replace hz := Lib.hid hz
  have f0 := hP0.frozen j
  have ea := fun o => cell_alloc o c0
  have fa := fun o => (hP0.alloc o).frozen j
  obtain ⟨y0, y1, y2, y3, y4, y5, y6, y7, y8⟩ := ins_cells (x := ⟨xk, xd, xa, xb, xn, xnm, xsa, xsn, xsc, xt, xf⟩) hX0
  dsimp only at y0 y1 y2 y3 y4 y5 y6 y7 y8
  have hnr := hP0.not_row (by decide) hr0
  have hnC := World.new_ne W2 _ c0
  have hC' := Lib.hid hP0
  replace hgw := Lib.hid hgw
  clear hP0 hX0 hP hrow
  go_region_law (go_loud (refine step_append_lies _ (by rfl) _ _ _ (by rfl) base 25 i0 _ 9 96 Tryz.underlying26 hi0 hz0 hz1 hz2 rfl (by omega) (.slice ia n ic) n xs (by rfl) ((hr0.alloc _).drew) ⟨W2.heap.size, 0, none⟩ 1 1 [.int .i64 xk, .int .i64 xd, .int .i64 xa, .int .i64 xb, .int .i64 xn, .string xnm, .slice xsa xsn xsc, .int .i64 xt, .int .i64 xf] (by rfl) (by rfl) (World.news_of_block (cs := #[.int .i64 xk, .int .i64 xd, .int .i64 xa, .int .i64 xb, .int .i64 xn, .string xnm, .slice xsa xsn xsc, .int .i64 xt, .int .i64 xf]) (t := 25) (fr := (0, 0)) (heap_alloc_new W2 _)) (by simp [Value.oneCell']) (by omega) (by unfold maxLen; omega) (by omega) (by simp; omega) (W2.heap.size + 1) (by simp) ?_; intro gg gcap W6 hown1 hgrow hat hlt6; have hT6 := (show Cells _ _ _ _ from (hC'.out.alloc _)).kept (show (W2.alloc _).grownBy W6 _ from ⟨hgrow.os, hgrow.tape, hgrow.output, hgrow.size, hgrow.block⟩) hnr; have f6 := hT6.frozen j; have c6 := hT6.cell hj))
  all_goals
    have hgr : W2.grownBy W6 (Value.slice ia n ic).ownBlock := grownBy_alloc_then (show (W2.alloc (.cells #[.int .i64 xk, .int .i64 xd, .int .i64 xa, .int .i64 xb, .int .i64 xn, .string xnm, .slice xsa xsn xsc, .int .i64 xt, .int .i64 xf] 25)).grownBy W6 _ from ⟨hgrow.os, hgrow.tape, hgrow.output, hgrow.size, hgrow.block⟩)
    have hgz : w.grownBy W6 (Value.slice ia n ic).ownBlock := ⟨hgr.os.trans hgw.out.os, hgr.tape.trans hgw.out.tape, hgr.output.trans hgw.out.output, Nat.le_trans hgw.out.size hgr.size, fun k hk hne => (hgr.block k (Nat.lt_of_lt_of_le hk hgw.out.size) hne).trans (hgw.out.block k hk hne)⟩
    go_wp2_with fail
    go_ret
    exact ⟨rfl, gg, gcap, W6, hown1, hT6, hgz, rfl⟩
end Go.Proofs.YtfnfijgknjnccaaGreatDoor
