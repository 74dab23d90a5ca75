/-
  MdcheckFirst answers true: the walk.
-/
import Derived.Test.YtanbjaohmhoohaaGreatDoorFiB
import Derived.Test.YtanbjaohmhoohaaGreatDoorSmJ
import Derived.Deep.Cut
import Derived.Deep.AppendLies
namespace Go.Proofs.YtanbjaohmhoohaaGreatDoor
open Go.RowKit

theorem FMem.cellsOf {w W : World} {B N : Nat} {v k : SlV} {nm : ByteArray} {sl tie wd : Int} {x h : Bool} (H : FMem w B N v k nm sl tie wd x h W) :
    W.cell? ⟨B, 0, none⟩ = some (.string nm) ∧ W.cell? ⟨B, 1, none⟩ = some (.slice v.a v.n v.c) ∧ W.cell? ⟨B, 2, none⟩ = some (.slice k.a k.n k.c) ∧ W.cell? ⟨B, 3, none⟩ = some (.slice (some ⟨N + 1 + 1 + 1 + 1 + 1, 0, none⟩) 3 3) ∧ W.cell? ⟨B, 4, none⟩ = some (.slice (some ⟨N + 1 + 1 + 1 + 1 + 1 + 1, 0, none⟩) 1 1) ∧ W.cell? ⟨B, 5, none⟩ = some (.string ⟨#[114, 48, 48]⟩) ∧ W.cell? ⟨B, 6, none⟩ = some (.slice none 0 0) ∧ W.cell? ⟨B, 7, none⟩ = some (.int .i64 sl) :=
  ⟨H.m.cell rfl, H.m.cell rfl, H.m.cell rfl, H.m.cell rfl, H.m.cell rfl, H.m.cell rfl, H.m.cell rfl, H.m.cell rfl⟩

set_option maxRecDepth 100000 in
set_option maxHeartbeats 8000000 in
theorem first_main (wb wo wc0 : Nat) (b0 b1 b2 b3 b4 b5 : Bool) (w : World) (hE : Env w) (hA : EnvA w)
    (r0 : w.cell? ⟨wb, wo, none⟩ = some (.bool b0)) (r1 : w.cell? ⟨wb, wo + 1, none⟩ = some (.bool b1)) (r2 : w.cell? ⟨wb, wo + 2, none⟩ = some (.bool b2))
    (r3 : w.cell? ⟨wb, wo + 3, none⟩ = some (.bool b3)) (r4 : w.cell? ⟨wb, wo + 4, none⟩ = some (.bool b4)) (r5 : w.cell? ⟨wb, wo + 5, none⟩ = some (.bool b5)) :
    Calls Tryz.prog 7 #[.slice (some ⟨wb, wo, none⟩) 6 wc0] w fun e w' => e = .returned (.bool true) ∧ Below w.heap.size w w' := by
  have A := mdAlive w hE
  have S : ∀ W, Calls Tryz.prog 19 #[.int .i64 4] W (SmallPost W 4) := fun W => small_any 4 W (by omega)
  have R : ∀ W, Below w.heap.size w W → W.cell? ⟨wb, wo, none⟩ = some (.bool b0) ∧ W.cell? ⟨wb, wo + 1, none⟩ = some (.bool b1) ∧ W.cell? ⟨wb, wo + 2, none⟩ = some (.bool b2) ∧ W.cell? ⟨wb, wo + 3, none⟩ = some (.bool b3) ∧ W.cell? ⟨wb, wo + 4, none⟩ = some (.bool b4) ∧ W.cell? ⟨wb, wo + 5, none⟩ = some (.bool b5) := fun W hb =>
    ⟨cell_below hb r0, cell_below hb r1, cell_below hb r2, cell_below hb r3, cell_below hb r4, cell_below hb r5⟩
  clear r0 r1 r2 r3 r4 r5
  replace R := Lib.hid R
  obtain ⟨jS, hjS, hjS0, hjS1, hjS2⟩ := info_parts Tryz.infoStrS
  obtain ⟨jK, hjK, hjK0, hjK1, hjK2⟩ := info_parts Tryz.infoClsS
  go_enter Tryz.func7, Tryz.ntmps7
  go_upto_region 5 with (first
    | (go_at_call 9; refine A.mono ?_; clear A; rintro e W1 ⟨rfl, hb1⟩)
    | (go_at_call 19; refine (S W1).mono ?_; clear S; rintro e W2 ⟨N, v, u, rfl, hS⟩; unfold smMV MV.val))
  have hF := FMem.first hb1 hS (W2.alloc (.cells (#[.string ⟨#[109]⟩, .slice v.a v.n v.c, .slice (some ⟨N, 0, none⟩) 1 1, .slice (some ⟨N + 1 + 1 + 1 + 1 + 1, 0, none⟩) 3 3, .slice (some ⟨N + 1 + 1 + 1 + 1 + 1 + 1, 0, none⟩) 1 1, .string ⟨#[114, 48, 48]⟩, .slice none 0 0, .int .i64 100]) 27)) ((Below.refl _ _).alloc (Nat.le_refl _) _) (Cells.new _ _ _)
  change Code.wp _ _ _ _ (W2.alloc (.cells (#[.string ⟨#[109]⟩, .slice v.a v.n v.c, .slice (some ⟨N, 0, none⟩) 1 1, .slice (some ⟨N + 1 + 1 + 1 + 1 + 1, 0, none⟩) 3 3, .slice (some ⟨N + 1 + 1 + 1 + 1 + 1 + 1, 0, none⟩) 1 1, .string ⟨#[114, 48, 48]⟩, .slice none 0 0, .int .i64 100]) 27))
  clear hb1 hS
  generalize W2.alloc (.cells (#[.string ⟨#[109]⟩, .slice v.a v.n v.c, .slice (some ⟨N, 0, none⟩) 1 1, .slice (some ⟨N + 1 + 1 + 1 + 1 + 1, 0, none⟩) 3 3, .slice (some ⟨N + 1 + 1 + 1 + 1 + 1 + 1, 0, none⟩) 1 1, .string ⟨#[114, 48, 48]⟩, .slice none 0 0, .int .i64 100]) 27) = W3 at hF ⊢
  generalize W2.heap.size = B at hF ⊢
  -- wrong[5]
  obtain ⟨e0, e1, e2, e3, e4, e5⟩ := R.out W3 hF.below
  clear e0 e1 e2 e3 e4
  go_upto_if 18 with fail
  clear e5
  go_cut [5] from 6 (fun want Wx => want = .int .i64 (cond b5 11 0) ∧ ∃ k, FMem w B N v k ⟨#[109]⟩ 100 (-1) 8 false b5 Wx)
  case first =>
    cases b5 with
    | false =>
      go_wp2_with fail
      go_meet
      case rel => exact ⟨rfl, _, hF⟩
    | true =>
      obtain ⟨c0, c1, c2, c3, c4, c5, c6, c7⟩ := hF.cellsOf
      clear c0 c1 c3 c4 c5 c6 c7
      have f2 := hF.m.frozen 2
      obtain ⟨u2, s2, g1, g2, g3⟩ := hF.cls
      have hbs := hF.below.size
      have hb5 : ∀ o1 o2, Below W3.heap.size W3 ((W3.alloc o1).alloc o2) := fun o1 o2 => ((Below.refl _ W3).alloc (Nat.le_refl _) _).alloc (by simp) _
      have hnew : ∀ (o1 : Obj) (cs : Array Value), Cells ((W3.alloc o1).alloc (.cells cs 46)) (W3.heap.size + 1) 46 cs := fun o1 cs => by
        have := Cells.new (W3.alloc o1) 46 cs
        rw [World.size_alloc] at this; exact this
      have hr1 : ∀ (o2 : Obj), ((W3.alloc (.cells #[.string nmR1] 9)).alloc o2).ownsRow w.heap.size 9 1 (.slice (some ⟨W3.heap.size, 0, none⟩) 1 1) 1 [.string nmR1] := fun o2 =>
        ownsRow_of_cells (n := 1) ((Cells.new W3 9 #[.string nmR1]).alloc o2) hbs rfl (by decide)
      go_wp2_with (at_builtin; go_loud (refine wpList_append_lies _ rfl (.tmp 20) (.tmp 23) 23 rfl w.heap.size 46 jK _ 2 40 Tryz.underlying23 hjK hjK0 hjK1 hjK2 rfl (by decide) (.slice (some ⟨N, 0, none⟩) 1 1) 1 [.string nmG, .slice u2.a u2.n u2.c] rfl ((g1.alloc _).alloc _) ⟨W3.heap.size + 1, 0, none⟩ 1 1 [.string nmH, .slice (some ⟨W3.heap.size, 0, none⟩) 1 1] rfl rfl (World.news_of_block (hnew _ #[.string nmH, .slice (some ⟨W3.heap.size, 0, none⟩) 1 1])) (by simp [Value.oneCell']) (by decide) (by decide) (by decide) (by simp; omega) _ rfl ?_; intro g cap W6 hown hgrow hat hlt; have hm6 := (KeepsT.of_grown ((g1.alloc _).alloc _) hgrow).block _ _ _ (by decide) ((hF.m.alloc _).alloc _); have d2 := hm6.cell (j := 2) (v := .slice (some ⟨N, 0, none⟩) 1 1) rfl; have df2 := hm6.frozen 2))
      go_meet
      case rel => exact ⟨rfl, ⟨some ⟨g, 0, none⟩, 2, cap⟩, FMem.setClasses (s' := ⟨some ⟨W3.heap.size, 0, none⟩, 1, 1⟩) hF (hb5 _ _) (hr1 _) u2 hgrow g2 hown⟩
  case rest =>
  obtain ⟨rfl, k, hF4⟩ := hcut
  clear hF
  -- wrong[4]
  obtain ⟨e0, e1, e2, e3, e4, e5⟩ := R.out wc hF4.below
  clear e0 e1 e2 e3 e5
  go_upto_if 28 with fail
  clear e4
  go_cut [5] from 6 (fun want Wx => want = .int .i64 (cond b4 10 (cond b5 11 0)) ∧ FMem w B N v k ⟨#[109]⟩ (fiSl b4) (-1) 8 false b5 Wx)
  case first =>
    cases b4 with
    | false =>
      go_wp2_with fail
      go_meet
      case rel => exact ⟨rfl, hF4⟩
    | true =>
      have c7 := hF4.m.cell (j := 7) (v := .int .i64 100) rfl
      have f7 := hF4.m.frozen 7
      go_wp2_with fail
      go_meet
      case rel => exact ⟨rfl, hF4.setSlots (-1)⟩
  case rest =>
  obtain ⟨rfl, hF3⟩ := hcut
  clear hF4
  -- wrong[3]
  rename World => wc3
  obtain ⟨e0, e1, e2, e3, e4, e5⟩ := R.out wc3 hF3.below
  clear e0 e1 e2 e4 e5
  go_upto_if 32 with fail
  clear e3
  go_cut [5] from 6 (fun want Wx => want = .int .i64 (cond b3 9 (cond b4 10 (cond b5 11 0))) ∧ FMem w B N v k ⟨#[109]⟩ (fiSl b4) (fiTie b3) 8 false b5 Wx)
  case first =>
    cases b3 with
    | false =>
      go_wp2_with fail
      go_meet
      case rel => exact ⟨rfl, hF3⟩
    | true =>
      have c3 := hF3.m.cell (j := 3) (v := .slice (some ⟨N + 1 + 1 + 1 + 1 + 1, 0, none⟩) 3 3) rfl
      have c4 := hF3.o.cell (j := 4) (v := .int .i64 (-1)) rfl
      have f4 := hF3.o.frozen 4
      go_wp2_with fail
      go_meet
      case rel => exact ⟨rfl, hF3.setTie 2⟩
  case rest =>
  obtain ⟨rfl, hF2⟩ := hcut
  clear hF3
  -- wrong[2]
  rename World => wc2
  obtain ⟨e0, e1, e2, e3, e4, e5⟩ := R.out wc2 hF2.below
  clear e0 e1 e3 e4 e5
  go_upto_if 39 with fail
  clear e2
  go_cut [5] from 6 (fun want Wx => want = .int .i64 (cond b2 8 (cond b3 9 (cond b4 10 (cond b5 11 0)))) ∧ FMem w B N v k ⟨#[109]⟩ (fiSl b4) (fiTie b3) 8 b2 b5 Wx)
  case first =>
    cases b2 with
    | false =>
      go_wp2_with fail
      go_meet
      case rel => exact ⟨rfl, hF2⟩
    | true =>
      obtain ⟨u2, s2, g1, g2, g3⟩ := hF2.cls
      obtain ⟨ka, kn, kc⟩ := k
      obtain ⟨ua, un, uc⟩ := u2
      dsimp only at g1 g2
      obtain ⟨kg, kcap, hkv, _, hkl⟩ := g1.form (by cases b5 <;> decide)
      obtain ⟨gu, gcap, huv, _, hul⟩ := g2.form (by decide)
      injection hkv with hk1 hk2 hk3
      injection huv with hu1 hu2 hu3
      subst hk1 hk3 hu1 hu2 hu3
      have hpos : (0 : Int) < kn := by rw [hk2]; cases b5 <;> decide
      have hposN : 0 < kn := by omega
      have hpos0 : kn ≠ 0 := by omega
      rw [← hk2] at g1
      replace hk2 := Lib.hid hk2
      have c2 := hF2.m.cell (j := 2) (v := .slice (some ⟨kg, 0, none⟩) kn kc) rfl
      have k1 : wc2.cell? ⟨kg, 1, none⟩ = some (.slice (some ⟨gu, 0, none⟩) (cond false 5 4) uc) := ownsRow_cell g1 (j := 1) rfl
      have q1 := g1.frozenAt 1
      have c2a := fun o => cell_alloc o c2
      have k1a := fun o => cell_alloc o k1
      have hbs := hF2.below.size
      go_upto_region 16 with fail
      have hn2 : ∀ j x, ((sNames 4).map Value.string)[j]? = some x → wc2.cell? ((⟨gu, 0, none⟩ : Addr).add j) = some x := fun j x hj => by
        have : ((⟨gu, 0, none⟩ : Addr).add j) = ⟨gu, j, none⟩ := by simp [Addr.add]; exact fun e => e.symm
        rw [this]; exact ownsRow_cell g2 hj
      have hb6 : ∀ o, Below wc2.heap.size wc2 (wc2.alloc o).drew := fun o => ((Below.refl _ wc2).alloc (Nat.le_refl _) _).drew
      have hx2 : (wc2.alloc (.cells #[.string nmX] 9)).drew.ownsRow w.heap.size 9 1 (.slice (some ⟨wc2.heap.size, 0, none⟩) 1 1) 1 [.string nmX] :=
        ownsRow_of_cells (n := 1) (show Cells (wc2.alloc (.cells #[.string nmX] 9)).drew wc2.heap.size 9 #[.string nmX] from Cells.new _ _ _) hbs rfl (by decide)
      have hco : ∀ y ∈ (sNames 4).map Value.string, y.oneCell' = true := fun y hy => by obtain ⟨z, _, rfl⟩ := List.mem_map.1 hy; rfl
      go_region_law (refine step_append_lies _ (by rfl) _ _ _ (by rfl) w.heap.size 9 jS _ 1 16 Tryz.underlying25 hjS hjS0 hjS1 hjS2 rfl (by decide) (.slice (some ⟨wc2.heap.size, 0, none⟩) 1 1) 1 [.string nmX] (by rfl) hx2 ⟨gu, 0, none⟩ 4 uc ((sNames 4).map Value.string) (by rfl) (by rfl) (fun j y hj => cell_below (hb6 _) (hn2 j y hj)) hco (by decide) (by decide) (by decide) (by simp; omega) _ rfl ?_; intro g gcap W6 hown hgrow hat hlt6; have hb7 : Below wc2.heap.size wc2 W6 := (hb6 _).grown hgrow (by simp) (fun i e => by cases e; exact Nat.le_refl _); have d6 := cell_below hb7 c2; have k6 := cell_below hb7 k1; have l6 := (ownsRow_below g1 hb7).frozenAt 1)
      all_goals
        go_wp2_with fail
        go_meet
        case rel => exact ⟨rfl, hF2.setNames (u' := ⟨some ⟨g, 0, none⟩, 5, gcap⟩) hb7 hown⟩
  case rest =>
  obtain ⟨rfl, hF1⟩ := hcut
  clear hF2
  -- wrong[1]
  rename World => wc1
  obtain ⟨e0, e1, e2, e3, e4, e5⟩ := R.out wc1 hF1.below
  clear e0 e2 e3 e4 e5
  go_upto_if 53 with fail
  clear e1
  go_cut [5] from 6 (fun want Wx => want = .int .i64 (cond b1 6 (cond b2 8 (cond b3 9 (cond b4 10 (cond b5 11 0))))) ∧ FMem w B N v k ⟨#[109]⟩ (fiSl b4) (fiTie b3) (cond b1 0 8) b2 b5 Wx)
  case first =>
    cases b1 with
    | false =>
      go_wp2_with fail
      go_meet
      case rel => exact ⟨rfl, hF1⟩
    | true =>
      obtain ⟨va, vn, vc⟩ := v
      have hr := hF1.regs
      dsimp only at hr
      obtain ⟨gv, vcap, hvv, _, hvl⟩ := hr.form (by decide)
      injection hvv with hv1 hv2 hv3
      subst hv1 hv2 hv3
      have c1 := hF1.m.cell (j := 1) (v := .slice (some ⟨gv, 0, none⟩) 4 vc) rfl
      have r13 : wc1.cell? ⟨gv, 13, none⟩ = some (.int .i64 8) := ownsRow_cell hr (j := 13) rfl
      have f13 := hr.frozenAt 13
      go_wp2_with fail
      go_meet
      case rel => exact ⟨rfl, hF1.setWidth 0⟩
  case rest =>
  obtain ⟨rfl, hF0⟩ := hcut
  clear hF1
  -- wrong[0]
  rename World => wc4
  obtain ⟨e0, e1, e2, e3, e4, e5⟩ := R.out wc4 hF0.below
  clear e1 e2 e3 e4 e5
  go_upto_if 60 with fail
  clear e0
  go_cut [5] from 6 (fun want Wx => want = .int .i64 (cond b0 5 (cond b1 6 (cond b2 8 (cond b3 9 (cond b4 10 (cond b5 11 0)))))) ∧ Below w.heap.size w Wx ∧ Cells Wx B 27 #[.string (cond b0 ⟨#[111, 112]⟩ ⟨#[109]⟩), .slice v.a v.n v.c, .slice k.a k.n k.c, .slice (some ⟨N + 1 + 1 + 1 + 1 + 1, 0, none⟩) 3 3, .slice (some ⟨N + 1 + 1 + 1 + 1 + 1 + 1, 0, none⟩) 1 1, .string ⟨#[114, 48, 48]⟩, .slice none 0 0, .int .i64 (fiSl b4)] ∧
    (b0 = false → FMem w B N v k ⟨#[109]⟩ (fiSl b4) (fiTie b3) (cond b1 0 8) b2 b5 Wx))
  case first =>
    cases b0 with
    | false =>
      go_wp2_with fail
      go_meet
      case rel => exact ⟨rfl, hF0.below, hF0.m, fun _ => hF0⟩
    | true =>
      have c0 := hF0.m.cell (j := 0) (v := .string ⟨#[109]⟩) rfl
      have f0 := hF0.m.frozen 0
      go_wp2_with fail
      go_meet
      case rel => exact ⟨rfl, hF0.below.setCell (p := ⟨B, 0, none⟩) hF0.hB _, hF0.m.set (j := 0) _, fun h => absurd h (by decide)⟩
  case rest =>
  obtain ⟨rfl, hBf, hmf, hFf⟩ := hcut
  clear hF0 R
  rename World => wcf
  obtain ⟨X, hX⟩ : ∃ X : Int, cond b0 5 (cond b1 6 (cond b2 8 (cond b3 9 (cond b4 10 (cond b5 11 0))))) = X := ⟨_, rfl⟩
  obtain ⟨nm, hnm⟩ : ∃ nm : ByteArray, cond b0 ⟨#[111, 112]⟩ ⟨#[109]⟩ = nm := ⟨_, rfl⟩
  have C : Calls Tryz.prog 11 #[(fiMV N v k nm (fiSl b4)).val] wcf fun e w' => e = .returned (.int .i64 X) ∧ Below wcf.heap.size wcf w' := by
    rw [← hX, ← hnm]
    cases b0 with
    | true => exact check_word (.inl rfl)
    | false =>
      cases b1 with
      | true => exact fi_fell (hFf rfl) (hE.below hBf) (hA.below hBf)
      | false => exact fi_checked (hFf rfl) (hE.below hBf)
  rw [hX]
  rw [hnm] at hmf
  obtain ⟨sl, hsl⟩ : ∃ sl : Int, fiSl b4 = sl := ⟨_, rfl⟩
  rw [hsl] at hmf C
  unfold fiMV MV.val at C
  dsimp only at C
  clear hFf hX hnm hsl hE hA
  have c0 := hmf.cell (j := 0) rfl
  have c1 := hmf.cell (j := 1) rfl
  have c2 := hmf.cell (j := 2) rfl
  have c3 := hmf.cell (j := 3) rfl
  have c4 := hmf.cell (j := 4) rfl
  have c5 := hmf.cell (j := 5) rfl
  have c6 := hmf.cell (j := 6) rfl
  have c7 := hmf.cell (j := 7) rfl
  go_wp2_with (first
    | (go_at_call 11; refine C.mono ?_; clear C; rintro e W5 ⟨rfl, hb5⟩)
    | (go_at_call 13; refine (num_any _ _).mono ?_; rintro e W6 ⟨rfl, rfl⟩))
  go_ret
  exact ⟨ret_bool (by simp), hBf.trans (hb5.mono hBf.size)⟩

set_option maxRecDepth 100000 in
set_option maxHeartbeats 2000000 in
/-- A list that is not of six. -/
theorem first_short (a : Option Addr) (n c : Nat) (w : World) (hE : Env w) (hn : n ≠ 6) : Calls Tryz.prog 7 #[.slice a n c] w fun e w' => e = .returned (.bool true) ∧ Below w.heap.size w w' := by
  have A := mdAlive w hE
  have hn2 : (n : Int) ≠ 6 := by omega
  go_enter Tryz.func7, Tryz.ntmps7
  go_wp2_with (go_at_call 9; refine A.mono ?_; clear A; rintro e W1 ⟨rfl, hb1⟩)
  go_ret
  exact ⟨rfl, hb1⟩
end Go.Proofs.YtanbjaohmhoohaaGreatDoor
