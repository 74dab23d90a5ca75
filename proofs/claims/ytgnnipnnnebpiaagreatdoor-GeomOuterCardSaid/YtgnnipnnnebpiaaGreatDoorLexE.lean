/-
  Tokens of a text that is one name: the name and the end.
-/
import Derived.Test.YtgnnipnnnebpiaaGreatDoorLexD
import Derived.Maps.AppendAt
import Derived.Deep.DeepMust
import Derived.WalkMore
import Derived.IntWalk
import Derived.Deep.RegionHeld3
import Derived.Deep.AppendLies
import Derived.StillTactics
import Derived.OwnWalk
import Derived.Laws.Pointers
import Derived.Maps.OwnIn
namespace Go.Proofs.YtgnnipnnnebpiaaGreatDoor
open Go.RowKit Go.Shelf

attribute [local go_sem] Oper.semAt_some

theorem wpIn_scope_wide {n : Nat} {P : Program} {c : Code} {Q : Exit → Act → World → Prop} {a : Act} {w : World} (h : c.wpIn Fence.wide n P (Exit.noGoto Q) a w) : (Code.scope c).wpIn Fence.wide n P Q a w :=
  wpIn_wide.2 (wp_scope_straight (wpIn_wide.1 h))

theorem countB_none {s : ByteArray} {c : UInt8} (h : ∀ x, x ∈ s.data.toList → x ≠ c) : Lib.countB s ⟨#[c]⟩ = 0 := by
  apply Lib.countB_miss
  show Lib.index s.data.toList [c] = -1
  rw [Lib.index_one, indexByte_none h]

theorem split_one (s : ByteArray) (w : World) (hE : Env w) (hs : s.size ≤ 65536) (hno : ∀ c, c ∈ s.data.toList → c ≠ 10) :
    Calls Tryz.prog 52 #[.string s, .string ⟨#[10]⟩] w fun e w' => e = .returned (.slice (some ⟨w.heap.size, 0, none⟩) 1 1) ∧ w' = w.alloc (.cells #[.string s] 9) := by
  obtain ⟨m, hm⟩ := hE
  have C := Tryz.strings_Split s ⟨#[10]⟩ m w (by omega) hm (by decide)
  rw [countB_none hno, Lib.splitB_zero] at C
  exact C

theorem Tryz.infoTok : (Tryz.prog.info? 117).map (fun i => (i.zero, i.size, i.bytes)) = some (some (.agg #[.int .i64 0, .string ⟨#[]⟩, .int .i64 0, .int .i64 0, .int .i64 0]), 5, 48) := by kernel_rfl

/-- The cells of the token of a line that is the name s, on line 1. -/
def tokCells (s : ByteArray) : List Value := [.int .i64 1, .string s, .int .i64 0, .int .i64 1, .int .i64 1]
/-- Between two rounds of the loop over a line's tokens: what has been collected; what else lies there. -/
def TokI (w : World) (s : ByteArray) (pre : List Unit) (W : World) : Prop :=
  (∃ v, Boxed W (w.heap.size + 1) 113 v ∧ W.ownsRow w.heap.size 117 5 v pre.length (pre.flatMap fun _ => tokCells s) ∧ True) ∧ Below w.heap.size w W ∧
    Cells W w.heap.size 9 #[.string s] ∧ Cells W (w.heap.size + 1 + 1 + 1) 29 #[.int .i64 0] ∧ w.heap.size + 6 ≤ W.heap.size
theorem tokI_own (w : World) (s : ByteArray) (B : Nat) (hB : w.heap.size ≤ B) : OwnFrom B (TokI w s) :=
  OwnFrom.and (Own.from (holdsRow_own _ _ _ _ _ (fun pre : List Unit => pre.length) (fun pre => pre.flatMap fun _ => tokCells s) (fun _ _ => True)) _)
    (OwnFrom.and (ownFrom_below (Nat.le_refl _) hB) (OwnFrom.and (Own.from (cells_own _ _ fun _ => _) _) (OwnFrom.and (Own.from (cells_own _ _ fun _ => _) _) (fun _ _ _ _ hs hg _ => Nat.le_trans hs hg.size))))

/-- The frame in a round of the loop over a line's tokens. -/
def tokAct (w : World) (s : ByteArray) (Bt : Nat) : Act := { tmps := #[Value.string s, undef, Value.slice none 0 0, Value.int .i64 0, Value.int .i64 0, Value.int .i64 0, Value.slice (some ⟨w.heap.size, 0, none⟩) 1 1, Value.pointer (some ⟨w.heap.size + 1, 0, none⟩), Value.pointer (some ⟨w.heap.size + 1 + 1, 0, none⟩), Value.pointer (some ⟨w.heap.size + 1 + 1 + 1, 0, none⟩), Value.int .i64 0, Value.string s, Value.pointer (some ⟨Bt, 0, none⟩), Value.int .i64 0, undef, Value.string s, Value.int .i64 s.size, Value.bool (decide (65536 < (s.size : Int))), Value.string s, Value.slice (some ⟨w.heap.size, 0, none⟩) 1 1, Value.slice (some ⟨w.heap.size, 0, none⟩) 1 1, Value.int .i64 1, Value.int .i64 0, Value.bool true, Value.int .i64 0, Value.pointer (some ⟨w.heap.size, 0, none⟩), Value.string s, Value.string s, Value.int .i64 0, Value.int .i64 1, Value.func (.func 58) #[] #[.pointer (some ⟨w.heap.size + 4 + 1, 0, none⟩), .pointer (some ⟨w.heap.size + 4, 0, none⟩)], Value.agg #[.int .i64 1, .string s, .int .i64 0, .int .i64 1, .int .i64 1], Value.int .i64 0, undef, undef, undef, undef, undef, undef, undef, undef, undef, undef, undef, undef, undef, undef, undef, undef, undef, undef, undef, undef, undef, undef, undef, undef, undef, undef, undef, undef, undef, undef], defers := [] }

set_option maxRecDepth 100000 in
set_option maxHeartbeats 4000000 in
theorem tokens_name (s : ByteArray) (w : World) (hE : Env w) (hN : IsName s) :
    Calls Tryz.prog 48 #[.string s] w fun e w' => ∃ g c, e = .returned (.tuple #[.slice (some ⟨g, 0, none⟩) 2 c, .int .i64 0, .int .i64 0, .int .i64 0]) ∧
      w'.cell? ⟨g, 0, none⟩ = some (.int .i64 1) ∧ w'.cell? ⟨g, 1, none⟩ = some (.string s) ∧ Below w.heap.size w w' := by
  have hle := hN.le
  have C1 := split_one s w hE (by omega) (not_name_10 hN.all)
  refine (callsIn_wide (n := 4)).1 ?_
  refine callsIn_of_wp_marks Tryz.func48 rfl trivial ?_ rfl
  simp only [Tryz.ntmps48, List.size_toArray, List.length_cons, List.length_nil, Nat.reduceAdd, Nat.reduceSub, Array.replicate_succ, Array.replicate_zero, List.push_toArray, List.append_toArray, List.nil_append, List.cons_append]
  gi_wp2
  apply wpIn_scope_wide
  gi_wp2_with (refine ⟨trivial, ?_⟩; gi_at_call 52; refine (callsIn_wide.2 C1).mono ?_; rintro e w' ⟨rfl, rfl⟩)
  apply wpIn_label
  gi_wp2_with fail
  generalize hW : ((((w.alloc (.cells #[.string s] 9)).alloc (.cells #[.slice none 0 0] 113)).alloc (.cells #[.int .i64 0, .string ⟨#[]⟩, .int .i64 0, .int .i64 0, .int .i64 0] 117)).alloc (.cells #[.int .i64 0] 29)) = W0
  have hB0 : Below w.heap.size w W0 := by rw [← hW]; exact ((((Below.refl _ _).alloc (Nat.le_refl _) _).alloc (by simp) _).alloc (by simp; omega) _).alloc (by simp; omega) _
  have hz0 : W0.heap.size = w.heap.size + 4 := by rw [← hW]; simp
  have hl0 : Cells W0 w.heap.size 9 #[.string s] := by rw [← hW]; exact (((Cells.new _ _ _).alloc _).alloc _).alloc _
  have h70 : Boxed W0 (w.heap.size + 1) 113 (.slice none 0 0) := by
    rw [← hW]
    have := (Boxed.new (w.alloc (.cells #[.string s] 9)) 113 (.slice none 0 0))
    rw [World.size_alloc] at this
    exact (this.alloc _).alloc _
  have h90 : Cells W0 (w.heap.size + 1 + 1 + 1) 29 #[.int .i64 0] := by
    rw [← hW]
    have := Cells.new (((w.alloc (.cells #[.string s] 9)).alloc (.cells #[.slice none 0 0] 113)).alloc (.cells #[.int .i64 0, .string ⟨#[]⟩, .int .i64 0, .int .i64 0, .int .i64 0] 117)) 29 #[.int .i64 0]
    simp only [World.size_alloc] at this; exact this
  have cl0 := hl0.cell (j := 0) rfl
  have hE0 : Env W0 := hE.below hB0
  clear hW C1
  have C2 := each_any s 1 W0 hE0 (by omega) (not_name_35 hN.all)
  refine wpIn_loop_rounds 2 ?_
  rw [roundsIn_succ]
  gi_wp2_with (refine ⟨trivial, ?_⟩; gi_at_call 53; refine (callsIn_wide.2 C2).mono ?_; clear C2; rintro e w' ⟨rfl, d, rfl⟩)
  generalize hW : ((W0.alloc (.cells #[.int .i64 1] 3)).alloc (.cells #[.string s] 9)).drewN d = We
  have hBd : Below W0.heap.size W0 We := by rw [← hW]; exact below_drewN (((Below.refl _ _).alloc (Nat.le_refl _) _).alloc (by simp) _) d
  have hBe : Below w.heap.size w We := hB0.trans (hBd.mono (by omega))
  have hze : We.heap.size = w.heap.size + 6 := by rw [← hW]; simp [hz0]
  have hle0 : Cells We w.heap.size 9 #[.string s] := hl0.below hBd (by omega)
  have h7e : Boxed We (w.heap.size + 1) 113 (.slice none 0 0) := (hBd.block _ (by omega)).trans h70
  have h9e : Cells We (w.heap.size + 1 + 1 + 1) 29 #[.int .i64 0] := h90.below hBd (by omega)
  have hse : We.cell? ⟨w.heap.size + 4 + 1, 0, none⟩ = some (.string s) := by
    rw [← hW, cell_drewN]
    have := new_cell (W0.alloc (.cells #[.int .i64 1] 3)) #[.string s] 9 (j := 0) rfl
    rw [World.size_alloc, hz0] at this; exact this
  have hne : We.cell? ⟨w.heap.size + 4, 0, none⟩ = some (.int .i64 1) := by
    rw [← hW, cell_drewN]
    have := new_cell W0 #[.int .i64 1] 3 (j := 0) rfl
    rw [hz0] at this; exact cell_alloc _ this
  clear hW h90 h70 hl0 cl0 hB0 hE0 hE hBd hz0
  have hok : OwnedOk [w.heap.size + 1] We := fun b hb => by
    rcases boxed_owned h7e hb with h | ⟨a, n, c, h, _⟩
    · omega
    · cases h
  have hno : ∀ b, b ≠ w.heap.size + 1 → ¬ Owned [w.heap.size + 1] We b := fun b hb h => by
    rcases boxed_owned h7e h with h | ⟨a, n, c, h, _⟩
    · exact hb h
    · cases h
  refine wpIn_rangeFunc_ownH (F := Fence.wide) rfl (by omega) (gf := 58) (lb := #[.pointer (some ⟨w.heap.size + 4 + 1, 0, none⟩), .pointer (some ⟨w.heap.size + 4, 0, none⟩)]) rfl trivial (enters_of Tryz.func58 (by kernel_rfl) rfl)
    (each1_stops 3 [w.heap.size + 1] (w.heap.size + 4 + 1) (w.heap.size + 4) s 1 We (by omega) hN hse hne hok (hno _ (by omega)) (hno _ (by omega))) keepsK_t (keepsK_b (by simp; omega)) (Below.refl _ _) (fun _ => rfl)
    (TokI w s) (fun _ _ _ => False) (tokI_own w s _ (by omega)) (fun _ _ _ _ _ hs _ _ => hs) ⟨⟨_, h7e, World.ownsRow_nil _ _ _ _, trivial⟩, hBe, hle0, h9e, by omega⟩
    (fun _ a' W => ∃ Bt, w.heap.size + 6 ≤ Bt ∧ Cells W Bt 117 #[.int .i64 1, .string s, .int .i64 0, .int .i64 1, .int .i64 1] ∧ a' = tokAct w s Bt)
    (fun _ a' => fun _ A B row hs hg hr => by
      obtain ⟨Bt, h1, h2, h3⟩ := hs
      exact ⟨Bt, h1, cells_own (β := Unit) Bt _ (fun _ => _) () A B row h2 hg (fun r e => (hr r e).2), h3⟩)
    ?assign ?body ?done ?stop
  case assign =>
    rintro l pre x W K hi hK
    unfold lineTok
    gi_wp2
    have hb := hi.2.2.2.2
    refine hK _ _ ((KeepsOthers.alloc _ _).from _) (Keeps.of_below ((Below.refl _ W).alloc (Nat.le_refl _) _)) ?_ ⟨W.heap.size, by omega, Cells.new W _ _, rfl⟩
    exact (tokI_own w s (w.heap.size + 6) (by omega)).alloc _ hi
  case body =>
    rintro l pre x a' W hl ⟨r, hr⟩ ⟨⟨v, hv, hrow, _⟩, hB, hls, h9, hz⟩ ⟨Bt, hBt, bT, rfl⟩ hlen
    obtain rfl : pre = [] := by cases pre <;> simp at hlen ⊢
    have c0 := bT.cell (j := 0) rfl
    have c1 := bT.cell (j := 1) rfl
    have c2 := bT.cell (j := 2) rfl
    have c3 := bT.cell (j := 3) rfl
    have c4 := bT.cell (j := 4) rfl
    have cv := hv.cell
    obtain ⟨i0, hi, hz0, hz1, hz2⟩ := info_parts Tryz.infoTok
    unfold tokAct
    gi_wp2_with (gi_at_builtin; refine wpListIn_append_own_at _ rfl _ _ 113 rfl w.heap.size 117 i0 _ 5 48 Tryz.underlying113 hi hz0 hz1 hz2 rfl (by decide) _ _ _ rfl (hrow.alloc _) ⟨W.heap.size, 0, none⟩ 1 1 [.int .i64 1, .string s, .int .i64 0, .int .i64 1, .int .i64 1] rfl rfl (new_cells _ _ _ _ rfl) (by simp [Value.oneCell']) (by simp [maxLen]) (by simp) (by simp; omega) ?_; go_loud (intro v' w1 hown' hgrow _ hblk; obtain ⟨g', cap', rfl⟩ := ownsRow_succ hown'; have hap := hv.appended (by decide) hrow (by omega) (by omega) hown' hgrow; have hc1 := hap.1.cell; have hf1 := hap.1.frozen))
    refine ⟨hap.2.2.2.1.from _, keeps_append (show Cells W _ _ #[v] from hv) rfl (by decide) hrow hown' hgrow hblk, ⟨_, hap.2.1, hap.2.2.1, trivial⟩, hB.trans hap.2.2.2.2, ?_, ?_, ?_⟩
    · exact ((hls.alloc _).kept hgrow (hls.not_row (by decide) hrow)).other (by omega) _
    · exact ((h9.alloc _).kept hgrow (h9.not_row (by decide) hrow)).other (by omega) _
    · have := hap.2.2.2.2.size; simp at this ⊢; omega
  case done =>
    rintro D ys W hD rfl ⟨⟨v, hv, hrow, _⟩, hB, hls, h9, hz⟩ hK
    have cl := hls.cell (j := 0) rfl
    have c9 := h9.cell (j := 0) rfl
    have cv := hv.cell
    gi_wp2
    rw [roundsIn_succ]
    gi_wp2
    refine wpIn_wide.2 ?_
    have hlt : w.heap.size < W.heap.size := hls.lt
    have hlt7 : w.heap.size + 1 < W.heap.size := hv.lt
    have hrow1 : W.ownsRow w.heap.size 117 5 v 1 (tokCells s) := by simpa using hrow
    have hn7 := hv.not_row (by decide) hrow1
    have hnl := hls.not_row (by decide) hrow1
    obtain ⟨g, cap, hv1⟩ := ownsRow_succ (k := 0) hrow1
    obtain ⟨i0, hi, hz0, hz1, hz2⟩ := info_parts Tryz.infoTok
    clear hrow
    subst hv1
    have hwr : IntKind.i64.wrap ((s.size : Int) + 1) = s.size + 1 := IntWalk.i64_in _ (by omega)
    have hw0 : IntKind.i64.wrap 0 = 0 := by decide
    go_region_held3 (fun w' => w'.cell? ⟨w.heap.size + 1, 0, none⟩ = some (.slice (some ⟨g, 0, none⟩) 1 cap) ∧ w'.cell? ⟨w.heap.size, 0, none⟩ = some (.string s))
      (first
        | go_keep
        | (go_split_ands
           refine ⟨?_, ?_⟩
           · (rw [hgrow.cell_far _ (by simp; omega) hn7]; assumption)
           · (rw [hgrow.cell_far _ (by simp; omega) hnl]; assumption)))
      ((refine step_append_lies _ (by rfl) _ _ _ (by rfl) w.heap.size 117 i0 _ 5 48 Tryz.underlying113 hi hz0 hz1 hz2 rfl (by omega) (.slice (some ⟨g, 0, none⟩) 1 cap) 1 (tokCells s) (by rfl) ((hrow1.alloc _).drew)
          ⟨W.heap.size, 0, none⟩ 1 1 [.int .i64 4, .string ⟨#[]⟩, .int .i64 0, .int .i64 1, .int .i64 (s.size + 1)] (by rfl) (by rfl) (World.news_of_block (cs := #[.int .i64 4, .string ⟨#[]⟩, .int .i64 0, .int .i64 1, .int .i64 (s.size + 1)]) (t := 117) (fr := (0, 0)) (heap_alloc_new W _)) (by simp [Value.oneCell'])
          (by omega) (by simp [maxLen]) (by simp) (by simp; omega) (W.heap.size + 1) (by simp) ?_; intro gg cap1 w1 hown1 hgrow hat hlt2))
    clear hwr hw0
    gi_wp2
    rw [Exit.noGoto_ret]
    have hKD : w1.heap[D]? = some (.deferred (some [])) := (hgrow.block D (by simp; have := lt_of_heap hK; omega) (fun e => by
      have hg : g = D := by simpa [Value.ownBlock] using e.symm
      subst hg
      rcases hrow1.2 with ⟨h, _⟩ | ⟨g', c', cur, h, _, hgb, _⟩
      · cases h
      · cases h; rw [hK] at hgb; cases hgb)).trans ((Below.heap_alloc _ _ D (lt_of_heap hK)).trans hK)
    have hge : w.heap.size ≤ g := by
      rcases hrow1.2 with ⟨h, _⟩ | ⟨g', c', cur, h, hb, _, _⟩
      · cases h
      · cases h; exact hb
    have hB1 : Below w.heap.size w w1 := ((hB.alloc hB.size _).drew).grown hgrow (by simp; omega) (fun k e => by
      have hg : g = k := by simpa [Value.ownBlock] using e
      omega)
    have hg0 := cell_kept (ownsRow_cell hown1 (j := 0) rfl) (grownBy_putObj' w1 D (.deferred none)) (fun r e => by cases e; exact ⟨_, hKD, rfl⟩)
    have hg1 := cell_kept (ownsRow_cell hown1 (j := 1) rfl) (grownBy_putObj' w1 D (.deferred none)) (fun r e => by cases e; exact ⟨_, hKD, rfl⟩)
    refine ⟨by simp, .inl ⟨_, _, rfl, run_takeDeferred hKD, ?_⟩⟩
    refine ⟨.tuple #[.slice (some ⟨gg, 0, none⟩) 2 cap1, .int .i64 0, .int .i64 0, .int .i64 0], by simp [results, Tryz.f48, go_sem], gg, cap1, rfl, hg0, hg1, ?_⟩
    exact hB1.trans (belowK_b (w := w) (Nat.le_refl _) w1 D _ _ (by omega) hKD rfl rfl)
  case stop =>
    rintro D c pre W _ _ h _
    exact h.elim
end Go.Proofs.YtgnnipnnnebpiaaGreatDoor
