/-
  vir's form.read.
-/
import Derived.Test.YtfnfijgknjnccaaGreatDoorVwF
namespace Go.Proofs.YtfnfijgknjnccaaGreatDoor
open Go.RowKit Go.Sort
def insZ (k d : Int) : InsV := ⟨k, d, 0, 0, 0, ⟨#[]⟩, none, 0, 0, 0, 0⟩
def foldX (x : InsV) (P ws : List ByteArray) : InsV := (P.zip ws).foldl (fun x p => getX x p.1 p.2) x
/-- Are the words those of the form? -/
def readOk (P ws : List ByteArray) (least most : Int) : Bool :=
  decide (least ≤ (ws.length : Int) - P.length) && decide ((ws.length : Int) - P.length ≤ most) && (P.zip ws).all fun p => getOk p.1 p.2
/-- What read answers. -/
def ReadP (w : World) (ok : Bool) (xf : InsV) (rest : List ByteArray) (e : Ending) (w' : World) : Prop :=
  Below w.heap.size w w' ∧ ((ok = false ∧ ∃ y : InsV, e = .returned (.tuple #[.agg y.cells, .int .i64 3])) ∨
    (ok = true ∧ ∃ a' c', e = .returned (.tuple #[.agg ({ xf with sa := a', sn := rest.length, sc := c' } : InsV).cells, .int .i64 0]) ∧ w'.ownsRow w.heap.size 3 1 (.slice a' rest.length c') rest.length ((rest.map intV).map (Value.int .i64))))
theorem results_cell2 {fn : Func} {p q : Tmp} {ty : TypeId} (h : fn.results = #[.cell p ty, .tmp q]) (tmps : Array Value) (P : Program) (w : World) :
    (results fn tmps).run P w = ((asAddr (tmps.getD p undef)).run P w).andThen fun a w₁ => ((loadVar ty a).run P w₁).andThen fun v w₂ => .ok (.tuple #[v, tmps.getD q undef]) w₂ := by
  simp only [results, h]
  simp [Sem.run_bind, Result.andThen]
theorem below_three (w : World) (A B C : Array Value) (t u v : TypeId) : Below w.heap.size w (((w.alloc (.cells A t)).alloc (.cells B u)).alloc (.cells C v)) :=
  (((Below.refl _ _).alloc (Nat.le_refl _) _).alloc (by simp) _).alloc (by simp; omega) _
theorem cells_three (w : World) (A B C : Array Value) (t u v : TypeId) : Cells (((w.alloc (.cells A t)).alloc (.cells B u)).alloc (.cells C v)) w.heap.size t A ∧ Cells (((w.alloc (.cells A t)).alloc (.cells B u)).alloc (.cells C v)) (w.heap.size + 1) u B ∧ Cells (((w.alloc (.cells A t)).alloc (.cells B u)).alloc (.cells C v)) (w.heap.size + 1 + 1) v C := by
  refine ⟨((Cells.new w t A).alloc _).alloc _, ?_, ?_⟩
  · have h := (Cells.new (w.alloc (.cells A t)) u B).alloc (.cells C v)
    rw [World.size_alloc] at h
    exact h
  · have h := Cells.new ((w.alloc (.cells A t)).alloc (.cells B u)) v C
    rw [World.size_alloc, World.size_alloc] at h
    exact h
theorem three_below {W0 W1 : World} {n : Nat} {t u v : TypeId} {x0 x1 x2 x3 : Value} {B C : Array Value} (h : Cells W0 n t #[x0, x1, x2, x3] ∧ Cells W0 (n + 1) u B ∧ Cells W0 (n + 1 + 1) v C) (hb : Below W0.heap.size W0 W1) :
    W1.cell? ⟨n, 2, none⟩ = some x2 ∧ W1.cell? ⟨n, 3, none⟩ = some x3 ∧ Cells W1 (n + 1) u B ∧ Cells W1 (n + 1 + 1) v C := by
  have h1 := h.1.below hb h.1.lt
  exact ⟨h1.cell rfl, h1.cell rfl, h.2.1.below hb h.2.1.lt, h.2.2.below hb h.2.2.lt⟩
theorem ins_cells {W : World} {b : Nat} {t : TypeId} {x : InsV} (h : Cells W b t x.cells) : W.cell? ⟨b, 0, none⟩ = some (.int .i64 x.k) ∧ W.cell? ⟨b, 1, none⟩ = some (.int .i64 x.d) ∧ W.cell? ⟨b, 2, none⟩ = some (.int .i64 x.a) ∧ W.cell? ⟨b, 3, none⟩ = some (.int .i64 x.b) ∧ W.cell? ⟨b, 4, none⟩ = some (.int .i64 x.n) ∧
    W.cell? ⟨b, 5, none⟩ = some (.string x.nm) ∧ W.cell? ⟨b, 6, none⟩ = some (.slice x.sa x.sn x.sc) ∧ W.cell? ⟨b, 7, none⟩ = some (.int .i64 x.t) ∧ W.cell? ⟨b, 8, none⟩ = some (.int .i64 x.f) :=
  ⟨h.cell rfl, h.cell rfl, h.cell rfl, h.cell rfl, h.cell rfl, h.cell rfl, h.cell rfl, h.cell rfl, h.cell rfl⟩
set_option maxHeartbeats 4000000
set_option maxRecDepth 100000
theorem load_ins {W : World} {b : Nat} {x : InsV} (h : Cells W b 25 x.cells) : (loadVar 25 ⟨b, 0, none⟩).run Tryz.prog W = .ok (.agg x.cells) W := by
  obtain ⟨c0, c1, c2, c3, c4, c5, c6, c7, c8⟩ := ins_cells h
  unfold InsV.cells
  go_simp
theorem nine_ins {W : World} {b : Nat} {t : TypeId} (h : Cells W b t (insZ 0 0).cells) (v0 v1 v2 v3 v4 v5 v6 v7 v8 : Value) :
    Cells (((((((((W.setCell ⟨b, 0, none⟩ v0).setCell ⟨b, 1, none⟩ v1).setCell ⟨b, 2, none⟩ v2).setCell ⟨b, 3, none⟩ v3).setCell ⟨b, 4, none⟩ v4).setCell ⟨b, 5, none⟩ v5).setCell ⟨b, 6, none⟩ v6).setCell ⟨b, 7, none⟩ v7).setCell ⟨b, 8, none⟩ v8) b t #[v0, v1, v2, v3, v4, v5, v6, v7, v8] :=
  ((((((((h.set (j := 0) v0).set (j := 1) v1).set (j := 2) v2).set (j := 3) v3).set (j := 4) v4).set (j := 5) v5).set (j := 6) v6).set (j := 7) v7).set (j := 8) v8
theorem nine_below {w W : World} {b base : Nat} (h : Below base w W) (hb : base ≤ b) (v0 v1 v2 v3 v4 v5 v6 v7 v8 : Value) :
    Below base w (((((((((W.setCell ⟨b, 0, none⟩ v0).setCell ⟨b, 1, none⟩ v1).setCell ⟨b, 2, none⟩ v2).setCell ⟨b, 3, none⟩ v3).setCell ⟨b, 4, none⟩ v4).setCell ⟨b, 5, none⟩ v5).setCell ⟨b, 6, none⟩ v6).setCell ⟨b, 7, none⟩ v7).setCell ⟨b, 8, none⟩ v8) :=
  ((((((((h.setCell (p := ⟨b, 0, none⟩) hb v0).setCell (p := ⟨b, 1, none⟩) hb v1).setCell (p := ⟨b, 2, none⟩) hb v2).setCell (p := ⟨b, 3, none⟩) hb v3).setCell (p := ⟨b, 4, none⟩) hb v4).setCell (p := ⟨b, 5, none⟩) hb v5).setCell (p := ⟨b, 6, none⟩) hb v6).setCell (p := ⟨b, 7, none⟩) hb v7).setCell (p := ⟨b, 8, none⟩) hb v8
theorem read_end {n : Nat} {W : World} {x : InsV} {er : Int} {tmps : Array Value} (h4 : tmps.getD 4 undef = .pointer (some ⟨n, 0, none⟩)) (h5 : tmps.getD 5 undef = .int .i64 er) (h : Cells W n 25 x.cells) :
    (results Tryz.f41 tmps).run Tryz.prog W = .ok (.tuple #[.agg x.cells, .int .i64 er]) W := by
  rw [results_cell2 rfl, h4, h5]
  show ((loadVar 25 ⟨n, 0, none⟩).run Tryz.prog W).andThen _ = _
  rw [load_ins h]
  rfl
/-- Too few or too many words. -/
theorem read_short (f : FormV) (hA : Ascii f.line) {a : Option Addr} {c : Nat} {ws : List ByteArray} {w : World} {d0 : Int} (hd0 : f.k = 6 ∧ d0 = -1 ∨ ¬ f.k = 6 ∧ d0 = 0) (hE : EnvV w)     (hwl : ws.length ≤ 100000) (hpl : (partsOf f.line).length ≤ 100000)
    (har : (ws.length : Int) - (partsOf f.line).length < f.least ∨ f.most < (ws.length : Int) - (partsOf f.line).length) :
    Calls Tryz.prog 41 #[f.v, .slice a ws.length c] w (ReadP w false (foldX (insZ f.k d0) (partsOf f.line) ws) (ws.drop (partsOf f.line).length)) := by
  have KP := fun V hb => parts_any f hA V (hE.below hb)
  obtain ⟨k, line, least, most⟩ := f
  simp only [FormV.v] at KP ⊢
  dsimp only at hd0 hpl har ⊢
  generalize partsOf line = P at *
  replace KP := Lib.hid KP
  have hfrm := Lib.hid (below_three w #[.int .i64 k, .string line, .int .i64 least, .int .i64 most] (insZ 0 0).cells (insZ k d0).cells 89 25 25)
  have hthree := Lib.hid (cells_three w #[.int .i64 k, .string line, .int .i64 least, .int .i64 most] (insZ 0 0).cells (insZ k d0).cells 89 25 25)
  have hsub : IntKind.i64.wrap ((ws.length : Int) - P.length) = (ws.length : Int) - P.length := IntWalk.i64_in _ (by omega)
  clear hE hA
  rcases hd0 with ⟨rfl, rfl⟩ | ⟨hk, rfl⟩
  · by_cases h1 : (ws.length : Int) - P.length < least
    all_goals
      go_enter Tryz.func41, Tryz.ntmps41
      go_wp2_with (go_at_call 67; refine (KP.out _ hfrm.out).mono ?_; rintro e W1 ⟨bp, rfl, hP, hbp, hb1⟩; obtain ⟨cF2, cF3, hR, hX⟩ := three_below hthree.out hb1; have hRc := ins_cells (x := insZ 0 0) hR; have hXc := ins_cells (x := insZ 6 (-1)) hX; obtain ⟨r0, r1, r2, r3, r4, r5, r6, r7, r8⟩ := hRc; obtain ⟨x0, x1, x2, x3, x4, x5, x6, x7, x8⟩ := hXc; have hrf := fun i => hR.frozen i; have hBw := Lib.hid (hfrm.out.trans (hb1.mono hfrm.out.size)); clear hb1 hP hbp)
      refine bodyPost_ret (v := .tuple #[.agg (insZ 6 (-1)).cells, .int .i64 3]) (read_end rfl rfl (nine_ins hR _ _ _ _ _ _ _ _ _)) rfl ⟨nine_below hBw.out (Nat.le_succ _) _ _ _ _ _ _ _ _ _, .inl ⟨rfl, _, rfl⟩⟩
  · by_cases h1 : (ws.length : Int) - P.length < least
    all_goals
      go_enter Tryz.func41, Tryz.ntmps41
      go_wp2_with (go_at_call 67; refine (KP.out _ hfrm.out).mono ?_; rintro e W1 ⟨bp, rfl, hP, hbp, hb1⟩; obtain ⟨cF2, cF3, hR, hX⟩ := three_below hthree.out hb1; have hRc := ins_cells (x := insZ 0 0) hR; have hXc := ins_cells (x := insZ k 0) hX; obtain ⟨r0, r1, r2, r3, r4, r5, r6, r7, r8⟩ := hRc; obtain ⟨x0, x1, x2, x3, x4, x5, x6, x7, x8⟩ := hXc; have hrf := fun i => hR.frozen i; have hBw := Lib.hid (hfrm.out.trans (hb1.mono hfrm.out.size)); clear hb1 hP hbp)
      refine bodyPost_ret (v := .tuple #[.agg (insZ k 0).cells, .int .i64 3]) (read_end rfl rfl (nine_ins hR _ _ _ _ _ _ _ _ _)) rfl ⟨nine_below hBw.out (Nat.le_succ _) _ _ _ _ _ _ _ _ _, .inl ⟨rfl, _, rfl⟩⟩
end Go.Proofs.YtfnfijgknjnccaaGreatDoor
