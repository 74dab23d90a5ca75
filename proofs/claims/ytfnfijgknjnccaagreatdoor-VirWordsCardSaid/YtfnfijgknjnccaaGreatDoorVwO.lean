/-
  vir's wordsOf.
-/
import Derived.Test.YtfnfijgknjnccaaGreatDoorVwN
namespace Go.Proofs.YtfnfijgknjnccaaGreatDoor
open Go.RowKit Go.Sort
theorem below_one (w : World) (A : Array Value) (t : TypeId) : Below w.heap.size w (w.alloc (.cells A t)) := (Below.refl _ _).alloc (Nat.le_refl _) _
/-- What wordsOf answers. -/
def WordsP (w : World) (x : InsV) (L : List Int) (e : Ending) (w' : World) : Prop :=
  Below w.heap.size w w' ∧ ((∃ (j : Nat) (f : FormV) (a' : Option Addr) (c' : Nat), formsV[j]? = some f ∧ goodF x L f = true ∧ (∀ q, q ∈ formsV.take j → goodF x L q = false) ∧ e = .returned (.slice a' ((partsOf f.line).length + L.length) c') ∧
      w'.ownsRow w.heap.size 9 1 (.slice a' ((partsOf f.line).length + L.length) c') ((partsOf f.line).length + L.length) ((wordsX (partsOf f.line) x L).map Value.string)) ∨
    ((∀ q, q ∈ formsV → goodF x L q = false) ∧ e = .returned (.slice none 0 0)))
theorem readP_ok {w w' : World} {e : Ending} {f : FormV} {x : InsV} {L : List Int} (hx : InsOk x L) (h : ReadP w true (yF f x L) (L.map wordN) e w') : Below w.heap.size w w' ∧ ∃ y : InsV, e = .returned (.tuple #[.agg #[.int .i64 y.k, .int .i64 y.d, .int .i64 y.a, .int .i64 y.b, .int .i64 y.n, .string y.nm, .slice y.sa y.sn y.sc, .int .i64 y.t, .int .i64 y.f], .int .i64 0]) ∧ sameB x L y L = sameB x L (yF f x L) L ∧ IntsL w' y.sa L ∧ y.sn = L.length := by
  obtain ⟨hb, h⟩ := h
  rcases h with ⟨h, _⟩ | ⟨_, a', c', he, hrow⟩
  · cases h
  · rw [words_intV hx] at hrow
    exact ⟨hb, _, he, rfl, intsL_row hrow, by simp⟩
theorem readP_no {w w' : World} {e : Ending} {xf : InsV} {rest : List ByteArray} (h : ReadP w false xf rest e w') : Below w.heap.size w w' ∧ ∃ y : InsV, e = .returned (.tuple #[.agg #[.int .i64 y.k, .int .i64 y.d, .int .i64 y.a, .int .i64 y.b, .int .i64 y.n, .string y.nm, .slice y.sa y.sn y.sc, .int .i64 y.t, .int .i64 y.f], .int .i64 3]) := by
  obtain ⟨hb, h⟩ := h
  rcases h with ⟨_, y, he⟩ | ⟨h, _⟩
  · exact ⟨hb, y, he⟩
  · cases h
theorem forms_size : (Tryz.prog.info? 90).map (·.size) = some formCells.length := by kernel_rfl
set_option maxHeartbeats 4000000
set_option maxRecDepth 100000
theorem wordsOf_any (x : InsV) {L : List Int} {w : World} (hE : EnvF w) (hx : InsOk x L) (hL : IntsL w x.sa L) (hsn : x.sn = L.length) :
    Calls Tryz.prog 17 #[.agg x.cells] w (WordsP w x L) := by
  have hfew := hx.few
  have hC0 := Lib.hid (Cells.new w 25 x.cells)
  have hrange := (hE.below (below_one w x.cells 25)).range
  have hKw : Hid (∀ (f : FormV) (W : World), f ∈ formsV → Below w.heap.size w W → Calls Tryz.prog 40 #[f.v, .agg x.cells] W fun e w' => ∃ a' c', e = .returned (.slice a' ((partsOf f.line).length + L.length) c') ∧
      w'.ownsRow W.heap.size 9 1 (.slice a' ((partsOf f.line).length + L.length) c') ((partsOf f.line).length + L.length) ((wordsX (partsOf f.line) x L).map Value.string) ∧ Below W.heap.size W w') := Lib.hid fun f W hf hb => by
    obtain ⟨n1, n2, n3, n4, n5⟩ := forms_name f hf
    exact words_any f (forms_asc f hf) x (hE.env.below hb) hx.nums (hL.below hb) hsn (args_in hx) (by omega) (by omega)
  replace hE := Lib.hid hE
  replace hL := Lib.hid hL
  replace hsn := Lib.hid hsn
  replace hx := Lib.hid hx
  clear hfew
  unfold InsV.cells at hrange ⊢
  go_enter Tryz.func17, Tryz.ntmps17
  go_wp2_with (refine wpList_load_mid rfl 90 _ rfl 0 0 rfl formCells _ hrange Tryz.underlying90 rfl forms_size ?_)
  clear hrange
  go_loopw [9] (fun i wr => ∃ j : Nat, j ≤ 10 ∧ i = .int .i64 j ∧ (∀ q, q ∈ formsV.take j → goodF x L q = false) ∧ Below (w.alloc (.cells x.cells 25)).heap.size (w.alloc (.cells x.cells 25)) wr) (fun i _ => 10 - (intOf i).toNat)
  case atStart => exact ⟨0, by omega, rfl, fun q hq => by simp at hq, Below.refl _ _⟩
  case round =>
    obtain ⟨j, hj, rfl, hno, hB⟩ := hrel
    have j0 : (0 : Int) ≤ j := Int.natCast_nonneg _
    have hBw : Below w.heap.size w wr := (below_one w x.cells 25).trans (hB.mono (below_one w x.cells 25).size)
    have hCr := hC0.out.below hB hC0.out.lt
    have hall9 := fun o => ins_cells (hCr.alloc o)
    simp only [forall_and] at hall9
    obtain ⟨x0, x1, x2, x3, x4, x5, x6, x7, x8⟩ := hall9
    replace hno := Lib.hid hno
    have hBs := hB.size
    by_cases hlt : j < 10
    · obtain ⟨f, hf⟩ : ∃ f, formsV[j]? = some f := ⟨formsV[j]'hlt, List.getElem?_eq_getElem hlt⟩
      have hfm := Lib.hid (List.mem_of_getElem? hf)
      have hidx := formsA_index j f hf
      have hi : IntKind.i64.wrap ((j : Int) + 1) = j + 1 := IntWalk.i64_in _ (by omega)
      have j1 : (j : Int) < 10 := by omega
      have hstep := Lib.hid (show goodF x L f = false → ∀ q, q ∈ formsV.take (j + 1) → goodF x L q = false from fun h q hq => by
        rw [List.take_add_one, hf] at hq
        rcases List.mem_append.1 hq with hq | hq
        · exact hno.out q hq
        · rw [Option.toList_some, List.mem_singleton] at hq
          rw [hq]
          exact h)
      replace hf := Lib.hid hf
      replace hCr := Lib.hid hCr
      replace hB := Lib.hid hB
      replace hBw := Lib.hid hBw
      obtain ⟨fk, fl, fle, fmo⟩ := f
      unfold FormV.v at hidx
      dsimp only at hidx
      by_cases hk : fk = x.k
      · subst hk
        have hKr : Hid (∀ (W : World) (base g c : Nat), EnvV W → W.ownsRow base 9 1 (.slice (some ⟨g, 0, none⟩) ((partsOf fl).length + L.length) c) ((partsOf fl).length + L.length) ((wordsX (partsOf fl) x L).map Value.string) → Calls Tryz.prog 41 #[.agg #[.int .i64 x.k, .string fl, .int .i64 fle, .int .i64 fmo], .slice (some ⟨g, 0, none⟩) ((partsOf fl).length + L.length) c] W (ReadP W (rdF ⟨x.k, fl, fle, fmo⟩ x L) (yF ⟨x.k, fl, fle, fmo⟩ x L) (L.map wordN))) := Lib.hid fun W base g c h1 h2 => read_own ⟨x.k, fl, fle, fmo⟩ hfm.out x L hx.out rfl h1 h2
        have hKf := hKw.out ⟨x.k, fl, fle, fmo⟩ (wr.alloc (.cells #[.int .i64 x.k, .string fl, .int .i64 fle, .int .i64 fmo] 89)) hfm.out (hBw.out.alloc hBw.out.size _)
        have hlen := Lib.hid (forms_name ⟨x.k, fl, fle, fmo⟩ hfm.out).2.2.2.2
        unfold FormV.v InsV.cells at hKf
        dsimp only at hKf
        have hF0 := Lib.hid (Cells.new wr 89 #[.int .i64 x.k, .string fl, .int .i64 fle, .int .i64 fmo])
        have hal := Lib.hid (hB.out.alloc (by simp at hBs ⊢; omega) (.cells #[.int .i64 x.k, .string fl, .int .i64 fle, .int .i64 fmo] 89))
        cases hrd : rdF ⟨x.k, fl, fle, fmo⟩ x L
        · go_wp2_with (first | (go_at_call 40; refine hKf.mono ?_; clear hKf; rintro e W2 ⟨a', c', rfl, hrow, hb2⟩; obtain ⟨g, rfl, hg, hcc⟩ := row_some hrow (by have := hlen.out; dsimp only at this; omega); have hF2 := hF0.out.below hb2 hF0.out.lt; have f0 := hF2.cell (j := 0) rfl; have f1 := hF2.cell (j := 1) rfl; have f2 := hF2.cell (j := 2) rfl; have f3 := hF2.cell (j := 3) rfl; have hB2 := Lib.hid (hal.out.trans (hb2.mono hal.out.size)); have hB2w := Lib.hid ((below_one w x.cells 25).trans (hB2.out.mono (below_one w x.cells 25).size)); replace hrow := Lib.hid hrow; clear hF2 hb2) | (go_at_call 41; refine (hKr.out W2 _ g c' (hE.out.below hB2w.out).env hrow.out).mono ?_; intro e W3 hread; rw [hrd] at hread; obtain ⟨hb3, y, rfl⟩ := readP_no hread; have hB3 := Lib.hid (hB2.out.trans (hb3.mono hB2.out.size)); clear hb3))
          exact ⟨⟨j + 1, by omega, by go_num, hstep.out (by unfold goodF; rw [hrd]; simp), hB3.out.alloc (by have := hB3.out.size; simp at this ⊢; omega) _⟩, by simp [intOf]; omega⟩
        · cases hsb : sameB x L (yF ⟨x.k, fl, fle, fmo⟩ x L) L
          · go_wp2_with (first | (go_at_call 40; refine hKf.mono ?_; clear hKf; rintro e W2 ⟨a', c', rfl, hrow, hb2⟩; obtain ⟨g, rfl, hg, hcc⟩ := row_some hrow (by have := hlen.out; dsimp only at this; omega); have hF2 := hF0.out.below hb2 hF0.out.lt; have f0 := hF2.cell (j := 0) rfl; have f1 := hF2.cell (j := 1) rfl; have f2 := hF2.cell (j := 2) rfl; have f3 := hF2.cell (j := 3) rfl; have hB2 := Lib.hid (hal.out.trans (hb2.mono hal.out.size)); have hB2w := Lib.hid ((below_one w x.cells 25).trans (hB2.out.mono (below_one w x.cells 25).size)); replace hrow := Lib.hid hrow; clear hF2 hb2) | (go_at_call 41; refine (hKr.out W2 _ g c' (hE.out.below hB2w.out).env hrow.out).mono ?_; intro e W3 hread; rw [hrd] at hread; obtain ⟨hb3, y, rfl, hsm, hyl, hyn⟩ := readP_ok hx.out hread; have hB3 := Lib.hid (hB2.out.trans (hb3.mono hB2.out.size)); have hB3w := Lib.hid ((below_one w x.cells 25).trans (hB3.out.mono (below_one w x.cells 25).size)); have hrow3 := Lib.hid (row_below hrow.out hb3); have y9 := fun o => ins_cells ((hC0.out.below hB3.out hC0.out.lt).alloc o); simp only [forall_and] at y9; obtain ⟨y0, y1, y2, y3, y4, y5, y6, y7, y8⟩ := y9; replace hyl := Lib.hid hyl; replace hyn := Lib.hid hyn; replace hsm := Lib.hid hsm; clear hb3) | (go_at_call 42; refine (same_any x y (hL.out.below (hB3w.out.alloc hB3w.out.size _)) (hyl.out.below (below_one W3 _ _)) hsn.out hyn.out (by have := hx.out.few; omega) (by have := hx.out.few; omega)).mono ?_; intro e W4 hsame; obtain ⟨he, hb4⟩ := hsame; rw [hsm.out, hsb] at he; subst he; have hB4 := Lib.hid ((hB3.out.alloc (by have := hB3.out.size; simp at this ⊢; omega) _).trans (hb4.mono (by have := hB3.out.size; simp at this ⊢; omega))); have hrow4 := Lib.hid (row_below (row_below hrow3.out (below_one W3 _ _)) hb4); clear hb4))
            exact ⟨⟨j + 1, by omega, by go_num, hstep.out (by unfold goodF; rw [hrd, hsb]; simp), hB4.out⟩, by simp [intOf]; omega⟩
          · go_wp2_with (first | (go_at_call 40; refine hKf.mono ?_; clear hKf; rintro e W2 ⟨a', c', rfl, hrow, hb2⟩; obtain ⟨g, rfl, hg, hcc⟩ := row_some hrow (by have := hlen.out; dsimp only at this; omega); have hF2 := hF0.out.below hb2 hF0.out.lt; have f0 := hF2.cell (j := 0) rfl; have f1 := hF2.cell (j := 1) rfl; have f2 := hF2.cell (j := 2) rfl; have f3 := hF2.cell (j := 3) rfl; have hB2 := Lib.hid (hal.out.trans (hb2.mono hal.out.size)); have hB2w := Lib.hid ((below_one w x.cells 25).trans (hB2.out.mono (below_one w x.cells 25).size)); replace hrow := Lib.hid hrow; clear hF2 hb2) | (go_at_call 41; refine (hKr.out W2 _ g c' (hE.out.below hB2w.out).env hrow.out).mono ?_; intro e W3 hread; rw [hrd] at hread; obtain ⟨hb3, y, rfl, hsm, hyl, hyn⟩ := readP_ok hx.out hread; have hB3 := Lib.hid (hB2.out.trans (hb3.mono hB2.out.size)); have hB3w := Lib.hid ((below_one w x.cells 25).trans (hB3.out.mono (below_one w x.cells 25).size)); have hrow3 := Lib.hid (row_below hrow.out hb3); have y9 := fun o => ins_cells ((hC0.out.below hB3.out hC0.out.lt).alloc o); simp only [forall_and] at y9; obtain ⟨y0, y1, y2, y3, y4, y5, y6, y7, y8⟩ := y9; replace hyl := Lib.hid hyl; replace hyn := Lib.hid hyn; replace hsm := Lib.hid hsm; clear hb3) | (go_at_call 42; refine (same_any x y (hL.out.below (hB3w.out.alloc hB3w.out.size _)) (hyl.out.below (below_one W3 _ _)) hsn.out hyn.out (by have := hx.out.few; omega) (by have := hx.out.few; omega)).mono ?_; intro e W4 hsame; obtain ⟨he, hb4⟩ := hsame; rw [hsm.out, hsb] at he; subst he; have hB4 := Lib.hid ((hB3.out.alloc (by have := hB3.out.size; simp at this ⊢; omega) _).trans (hb4.mono (by have := hB3.out.size; simp at this ⊢; omega))); have hrow4 := Lib.hid (row_below (row_below hrow3.out (below_one W3 _ _)) hb4); clear hb4))
            go_ret
            exact ⟨(below_one w x.cells 25).trans (hB4.out.mono (below_one w x.cells 25).size), .inl ⟨j, ⟨x.k, fl, fle, fmo⟩, _, c', hf.out, by unfold goodF; rw [hrd, hsb]; simp, hno.out, rfl, row_mono hrow4.out (by have := hBw.out.size; simp; omega)⟩⟩
      · have hbad := Lib.hid (hstep.out (by unfold goodF; rw [decide_eq_false hk, Bool.false_and]))
        clear hstep
        go_wp2
        exact ⟨⟨j + 1, by omega, by go_num, hbad.out, hB.out.alloc (by simp at hBs ⊢; omega) _⟩, by simp [intOf]; omega⟩
    · obtain rfl : j = 10 := by omega
      have hall := hno.out
      go_wp2
      go_ret
      exact ⟨hBw, .inr ⟨fun q hq => hall q hq, rfl⟩⟩
end Go.Proofs.YtfnfijgknjnccaaGreatDoor
