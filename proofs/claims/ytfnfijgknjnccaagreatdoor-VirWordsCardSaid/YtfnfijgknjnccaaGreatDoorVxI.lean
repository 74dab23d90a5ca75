/-
  vir's reader: an instruction of the last block.
-/
import Derived.Test.YtfnfijgknjnccaaGreatDoorVxH
namespace Go.Proofs.YtfnfijgknjnccaaGreatDoor
open Go.RowKit Go.Sort
/-- What is read of words in a form: the instruction and its arguments. -/
def yS (ws : List ByteArray) (f : FormV) : InsX := strip (yW ws f, (ws.drop (partsOf f.line).length).map intV)
/-- What is asked of the words of an instruction: the first form that they fit. -/
structure WsOk (ws : List ByteArray) (j : Nat) (f : FormV) : Prop where
  at_ : formsV[j]? = some f
  ok : rdW ws f = true
  no : ∀ q, q ∈ formsV.take j → rdW ws q = false
  side : ∀ q, q ∈ formsV.take (j + 1) → fitsC ws q → SideOk ws q
  sz : ∀ x, x ∈ ws → x.size ≤ 65536
  len : ws.length ≤ 100000
theorem one_cell {W : World} {base g c : Nat} {v : Value} (h : W.ownsRow base 26 1 (.slice (some ⟨g, 0, none⟩) 1 c) 1 [v]) : ∃ cur, base ≤ g ∧ Cells W g 26 cur ∧ cur[0]? = some v ∧ 1 ≤ c ∧ c ≤ maxLen ∧ cur.size = c := by
  rcases h.2 with ⟨hv, _⟩ | ⟨g', cap, cur, hv, hb, hg, h1, h2, h3, h4⟩
  · cases hv
  · cases hv
    refine ⟨cur, hb, hg, ?_, h1, h2, by omega⟩
    rw [Nat.one_mul] at h4
    rw [← Array.getElem?_toList]
    cases hl : cur.toList with
    | nil => rw [hl] at h4; simp at h4
    | cons a t => rw [hl] at h4; simp at h4; simp [h4]
theorem one_set {W : World} {base g c : Nat} {v v' : Value} {cur : Array Value} (hb : base ≤ g) (hC : Cells W g 26 cur) (h0 : cur[0]? = some v) (h1 : 1 ≤ c) (h2 : c ≤ maxLen) (h3 : cur.size = c) : (W.setCell ⟨g, 0, none⟩ v').ownsRow base 26 1 (.slice (some ⟨g, 0, none⟩) 1 c) 1 [v'] := by
  refine ⟨rfl, .inr ⟨g, c, cur.setIfInBounds 0 v', rfl, hb, hC.set (j := 0) v', h1, h2, by rw [Array.size_setIfInBounds]; omega, ?_⟩⟩
  rw [← Array.getElem?_toList] at h0
  rw [Array.toList_setIfInBounds]
  cases hl : cur.toList with
  | nil => rw [hl] at h0; simp at h0
  | cons a t => simp
theorem row_lt {W : World} {base : Nat} {e : TypeId} {size n : Nat} {v : Value} {xs : List Value} (h : W.ownsRow base e size v n xs) : ∀ g, v.ownBlock = some g → base ≤ g ∧ g < W.heap.size := fun g hg => by
  rcases h.2 with ⟨rfl, _⟩ | ⟨g', cap, cur, rfl, hb, hg', _⟩
  · simp [Value.ownBlock] at hg
  · simp only [Value.ownBlock, Option.some.injEq] at hg
    subst hg
    exact ⟨hb, (Array.getElem?_eq_some_iff.1 hg').1⟩
theorem row_isCells {W : World} {base : Nat} {e : TypeId} {size n : Nat} {v : Value} {xs : List Value} (h : W.ownsRow base e size v n xs) : ∀ (j : Nat) (o : Obj), v.ownBlock = some j → W.heap[j]? = some o → o.isCells = true := fun j o hj ho => by
  rcases h.2 with ⟨rfl, _⟩ | ⟨g', cap, cur, rfl, hb, hg', _⟩
  · simp [Value.ownBlock] at hj
  · simp only [Value.ownBlock, Option.some.injEq] at hj
    subst hj
    rw [ho] at hg'
    cases hg'
    rfl
set_option maxHeartbeats 8000000
set_option maxRecDepth 100000
theorem reader_ins {R base : Nat} {r : RdV} {l : List InsX} {ws : List ByteArray} {j : Nat} {f : FormV} {b c : Nat} {w : World} (hE : EnvF w) (h : RdAt R base r w) (hbase : base ≤ w.heap.size) (hbs : r.bs = some l) (hl4 : l.length < 400) (hws : WsOk ws j f) (hl : StrsL w (some ⟨b, 0, none⟩) ws) (hbw : b < w.heap.size) (hc : ws.length ≤ c) :
    Calls Tryz.prog 63 #[.pointer (some ⟨R, 0, none⟩), .slice (some ⟨b, 0, none⟩) ws.length c] w fun e w' => e = .returned (.int .i64 0) ∧ LineP R base { r with bs := some (l ++ [yS ws f]) } w w' := by
  have K := instruction_ok j f hws.at_ hws.ok hws.no hws.side hE hl hbw hc hws.sz hws.len
  obtain ⟨va, vc, pa, pc, bv, r1, r2, r3, r4⟩ := h
  rw [hbs] at r4
  obtain ⟨g, gc, ia, ic, l', hl', rfl, q1, q2, q3⟩ := r4
  have hll : l'.length = l.length := by rw [← hl', List.length_map]
  -- behind the reading of the words
  have hstep : Hid (∀ W1 (a' : Option Addr) (c' : Nat) (y : InsV), y = { yW ws f with sa := a', sn := (ws.drop (partsOf f.line).length).length, sc := c' } → Below w.heap.size w W1 → W1.ownsRow w.heap.size 3 1 (.slice a' (ws.drop (partsOf f.line).length).length c') (ws.drop (partsOf f.line).length).length (((ws.drop (partsOf f.line).length).map intV).map (Value.int .i64)) →
      (W1.alloc (.cells y.cells 25)).cell? ⟨R, 4, none⟩ = some (.slice (some ⟨g, 0, none⟩) 1 gc) ∧
      Calls Tryz.prog 86 #[.pointer (some ⟨g, 0, none⟩), .agg y.cells, .int .i64 400] (W1.alloc (.cells y.cells 25)).drew fun e w' => e = .returned (.int .i64 0) ∧ LineP R base { r with bs := some (l ++ [yS ws f]) } w w' ∧ w'.cell? ⟨R, 4, none⟩ = some (.slice (some ⟨g, 0, none⟩) 1 gc) ∧ Cells w' W1.heap.size 25 y.cells) := Lib.hid fun W1 a' c' y hy hb hrow => by
    have hb2 : Below w.heap.size w (W1.alloc (.cells y.cells 25)) := hb.alloc hb.size _
    have r1' := r1.below hb2 r1.lt
    have q2' := row_below q2 hb2
    obtain ⟨cur, hgb, hC, h0, hc1, hc2, hc3⟩ := one_cell (row_below q1 hb2)
    have hY := Cells.new W1 25 y.cells
    have hbase2 : base ≤ (W1.alloc (.cells y.cells 25)).heap.size := Nat.le_trans hbase hb2.size
    refine ⟨r1'.cell rfl, (addI (w := (W1.alloc (.cells y.cells 25)).drew) y hC h0 q2' (by omega) hbase2).mono fun e w' ⟨he, ga, ca, W6, hrow6, hC6, hg6, hw⟩ => ?_⟩
    subst hw
    have hg7 : (W1.alloc (.cells y.cells 25)).grownBy W6 (Value.slice ia l'.length ic).ownBlock := ⟨hg6.os, hg6.tape, hg6.output, hg6.size, hg6.block⟩
    have hst : Stays [26, 25] w (W6.setCell ⟨g, 0, none⟩ (.slice (some ⟨ga, 0, none⟩) (l'.length + 1) ca)) :=
      ((Stays.of_below hb2).trans (Stays.of_grown q2' (by simp) hg7)).trans (Stays.of_set hC6 (by simp) 0 _)
    have hst1 : Stays [26, 25] W1 (W6.setCell ⟨g, 0, none⟩ (.slice (some ⟨ga, 0, none⟩) (l'.length + 1) ca)) :=
      ((Stays.alloc _ _ _).trans (Stays.of_grown q2' (by simp) hg7)).trans (Stays.of_set hC6 (by simp) 0 _)
    have r1'' := hst.block _ _ _ (by decide) r1
    have hYk : Cells (W6.setCell ⟨g, 0, none⟩ (.slice (some ⟨ga, 0, none⟩) (l'.length + 1) ca)) W1.heap.size 25 y.cells := by
      refine (hY.kept hg7 fun e => ?_).other (fun e => ?_) _
      · have := (row_lt (row_below q2 hb) _ e.symm).2
        omega
      · have := (row_lt (row_below q1 hb) g rfl).2
        omega
    refine ⟨he, ⟨⟨va, vc, pa, pc, .slice (some ⟨g, 0, none⟩) 1 gc, r1'', hst.row r2 (by decide), hst.row r3 (by decide), ?_⟩, hst.mono (by simp [rdTs]), ?_, ?_⟩, r1''.cell rfl, hYk⟩
    · refine ⟨g, gc, some ⟨ga, 0, none⟩, ca, l' ++ [(y, (ws.drop (partsOf f.line).length).map intV)], ?_, rfl, ?_, ?_, ?_⟩
      · rw [List.map_append, hl', hy]
        rfl
      · rw [List.length_append, List.length_singleton]
        exact one_set hgb hC6 h0 hc1 hc2 hc3
      · rw [List.length_append, List.length_singleton, List.flatMap_append]
        simp only [List.flatMap_cons, List.flatMap_nil, List.append_nil]
        exact (Stays.of_set (ts := [26]) hC6 (by simp) 0 _).row hrow6 (by decide)
      · intro z hz
        rcases List.mem_append.1 hz with hz | hz
        · exact ⟨hst.row (q3 z hz).1 (by decide), (q3 z hz).2⟩
        · rw [List.mem_singleton] at hz
          subst hz
          dsimp only
          rw [hy, List.length_map]
          exact ⟨hst1.row (row_mono hrow hbase) (by decide), rfl⟩
    · exact ((KeepsOthers.of_below' hb2).trans (KeepsOthers.of_grownBy hg7 (row_isCells q2'))).trans (KeepsOthers.setCell _ _ _)
    · intro B h1 h2 h3
      exact ((hb2.mono h3).grown hg7 (Nat.le_trans h2 hbase2) (fun k hk => Nat.le_trans h2 (row_lt q2' k hk).1)).setCell (p := ⟨g, 0, none⟩) (Nat.le_trans h2 hgb) _
  clear r1 r2 r3 q1 q2 q3 hl hE hws
  have K' := K.mono (R' := fun e W1 => ∃ y : InsV, e = .returned (.tuple #[.agg y.cells, .int .i64 0]) ∧ (W1.alloc (.cells y.cells 25)).cell? ⟨R, 4, none⟩ = some (.slice (some ⟨g, 0, none⟩) 1 gc) ∧
      Calls Tryz.prog 86 #[.pointer (some ⟨g, 0, none⟩), .agg y.cells, .int .i64 400] (W1.alloc (.cells y.cells 25)).drew fun e w' => e = .returned (.int .i64 0) ∧ LineP R base { r with bs := some (l ++ [yS ws f]) } w w' ∧ w'.cell? ⟨R, 4, none⟩ = some (.slice (some ⟨g, 0, none⟩) 1 gc) ∧ Cells w' W1.heap.size 25 y.cells) fun e W1 ⟨a', c', he, hrow, hb⟩ => ⟨_, he, hstep.out W1 a' c' _ rfl hb hrow⟩
  clear K hstep hl' hll
  generalize LineP R base { r with bs := some (l ++ [yS ws f]) } w = Q at K' ⊢
  generalize ws.length = n at *
  clear hl4 hbs hc
  have h0 : IntKind.i64.wrap (1 - 1) = 0 := by decide
  have h00 : IntKind.i64.wrap 0 = 0 := by decide
  go_enter Tryz.func63, Tryz.ntmps63
  go_wp2_with (go_at_call 85; refine K'.mono ?_)
  rintro e W1 ⟨y, rfl, hc4, KA⟩
  have hY := ins_cells (Cells.new W1 25 y.cells)
  obtain ⟨y0, y1, y2, y3, y4, y5, y6, y7, y8⟩ := hY
  clear K'
  unfold InsV.cells at hc4 KA y0 y1 y2 y3 y4 y5 y6 y7 y8 ⊢
  go_wp2
  go_region_held3 (fun w' => w'.cell? ⟨R, 4, none⟩ = some (.slice (some ⟨g, 0, none⟩) 1 gc) ∧ w'.cell? ⟨W1.heap.size, 0, none⟩ = some (.int .i64 y.k) ∧ w'.cell? ⟨W1.heap.size, 1, none⟩ = some (.int .i64 y.d) ∧ w'.cell? ⟨W1.heap.size, 2, none⟩ = some (.int .i64 y.a) ∧ w'.cell? ⟨W1.heap.size, 3, none⟩ = some (.int .i64 y.b) ∧ w'.cell? ⟨W1.heap.size, 4, none⟩ = some (.int .i64 y.n) ∧ w'.cell? ⟨W1.heap.size, 5, none⟩ = some (.string y.nm) ∧ w'.cell? ⟨W1.heap.size, 6, none⟩ = some (.slice y.sa y.sn y.sc) ∧ w'.cell? ⟨W1.heap.size, 7, none⟩ = some (.int .i64 y.t) ∧ w'.cell? ⟨W1.heap.size, 8, none⟩ = some (.int .i64 y.f))
    (first | (refine ⟨?_, ?_, ?_, ?_, ?_, ?_, ?_, ?_, ?_, ?_⟩ <;> assumption) | go_keep)
    ((go_at_call 86; refine KA.mono ?_; rintro e W5 ⟨rfl, hL, hd4, hYc⟩; obtain ⟨d0, d1, d2, d3, d4, d5, d6, d7, d8⟩ := ins_cells hYc))
  clear h0 h00
  go_wp2
  go_ret
  exact ⟨rfl, hL⟩
end Go.Proofs.YtfnfijgknjnccaaGreatDoor
