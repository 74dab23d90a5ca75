/-
  vir's form.read where the words are as many as they may be.
-/
import Derived.Test.YtfnfijgknjnccaaGreatDoorVwG
namespace Go.Proofs.YtfnfijgknjnccaaGreatDoor
open Go.RowKit Go.Sort
def foldZ (x : InsV) (Z : List (ByteArray × ByteArray)) : InsV := Z.foldl (fun x p => getX x p.1 p.2) x
theorem foldZ_snoc (x : InsV) (Z : List (ByteArray × ByteArray)) (j : Nat) (p : ByteArray × ByteArray) (h : Z[j]? = some p) : foldZ x (Z.take (j + 1)) = getX (foldZ x (Z.take j)) p.1 p.2 := by
  unfold foldZ
  rw [List.take_add_one, h, List.foldl_append]
  rfl
theorem row_mono {W : World} {base base' : Nat} {e : TypeId} {size : Nat} {v : Value} {n : Nat} {xs : List Value} (h : W.ownsRow base e size v n xs) (hb : base' ≤ base) : W.ownsRow base' e size v n xs :=
  ⟨h.1, h.2.imp id fun ⟨g, cap, cur, h1, h2, h3⟩ => ⟨g, cap, cur, h1, Nat.le_trans hb h2, h3⟩⟩
theorem nine_row {W : World} {b base : Nat} {e : TypeId} {size : Nat} {v : Value} {n : Nat} {xs : List Value} (h : W.ownsRow base e size v n xs) (hb : b < base) (v0 v1 v2 v3 v4 v5 v6 v7 v8 : Value) :
    (((((((((W.setCell ⟨b, 0, none⟩ v0).setCell ⟨b, 1, none⟩ v1).setCell ⟨b, 2, none⟩ v2).setCell ⟨b, 3, none⟩ v3).setCell ⟨b, 4, none⟩ v4).setCell ⟨b, 5, none⟩ v5).setCell ⟨b, 6, none⟩ v6).setCell ⟨b, 7, none⟩ v7).setCell ⟨b, 8, none⟩ v8).ownsRow base e size v n xs :=
  ownsRow_setCell_below (ownsRow_setCell_below (ownsRow_setCell_below (ownsRow_setCell_below (ownsRow_setCell_below (ownsRow_setCell_below (ownsRow_setCell_below (ownsRow_setCell_below (ownsRow_setCell_below h (a := ⟨b, 0, none⟩) hb v0) (a := ⟨b, 1, none⟩) hb v1) (a := ⟨b, 2, none⟩) hb v2) (a := ⟨b, 3, none⟩) hb v3) (a := ⟨b, 4, none⟩) hb v4) (a := ⟨b, 5, none⟩) hb v5) (a := ⟨b, 6, none⟩) hb v6) (a := ⟨b, 7, none⟩) hb v7) (a := ⟨b, 8, none⟩) hb v8
set_option maxHeartbeats 4000000
set_option maxRecDepth 100000
theorem read_fits (f : FormV) (hA : Ascii f.line) {b o : Nat} {c : Nat} {ws : List ByteArray} {w : World} {d0 : Int} (hd0 : f.k = 6 ∧ d0 = -1 ∨ ¬ f.k = 6 ∧ d0 = 0) (hE : EnvV w) (hl : StrsL w (some ⟨b, o, none⟩) ws) (hbw : b < w.heap.size) (hcap : ws.length ≤ c)
    (hsz : ∀ x, x ∈ ws → x.size ≤ 65536) (hwl : ws.length ≤ 100000) (hpl : (partsOf f.line).length ≤ ws.length)
    (hN : ∀ (j : Nat) p, ((partsOf f.line).zip ws)[j]? = some p → (∀ q, q ∈ ((partsOf f.line).zip ws).take j → getOk q.1 q.2 = true) → p.1.toList = [78, 65, 77, 69] → IsName p.2) (hO : ∀ (j : Nat) p, ((partsOf f.line).zip ws)[j]? = some p → (∀ q, q ∈ ((partsOf f.line).zip ws).take j → getOk q.1 q.2 = true) → p.1.toList = [79, 80] → opBad p.2 = false → IsName p.2)
    (har : f.least ≤ (ws.length : Int) - (partsOf f.line).length ∧ (ws.length : Int) - (partsOf f.line).length ≤ f.most)
    (hargs : ((partsOf f.line).zip ws).all (fun p => getOk p.1 p.2) = true → (∀ x, x ∈ ws.drop (partsOf f.line).length → numB x = true) ∧ (ws.drop (partsOf f.line).length).length ≤ 16) :
    Calls Tryz.prog 41 #[f.v, .slice (some ⟨b, o, none⟩) ws.length c] w (ReadP w (((partsOf f.line).zip ws).all fun p => getOk p.1 p.2) (foldX (insZ f.k d0) (partsOf f.line) ws) (ws.drop (partsOf f.line).length)) := by
  have KP := fun V hb => parts_any f hA V (hE.below hb)
  obtain ⟨k, line, least, most⟩ := f
  simp only [FormV.v] at KP ⊢
  dsimp only at hd0 hpl hN hO har hargs ⊢
  generalize partsOf line = P at *
  replace KP := Lib.hid KP
  have hfrm := Lib.hid (below_three w #[.int .i64 k, .string line, .int .i64 least, .int .i64 most] (insZ 0 0).cells (insZ k d0).cells 89 25 25)
  have hthree := Lib.hid (cells_three w #[.int .i64 k, .string line, .int .i64 least, .int .i64 most] (insZ 0 0).cells (insZ k d0).cells 89 25 25)
  have hsub : IntKind.i64.wrap ((ws.length : Int) - P.length) = (ws.length : Int) - P.length := IntWalk.i64_in _ (by omega)
  obtain ⟨hlo, hhi⟩ := har
  have hZl : (P.zip ws).length = P.length := by rw [List.length_zip]; omega
  replace hZl := Lib.hid hZl
  replace hE := Lib.hid hE
  replace hl := Lib.hid hl
  replace hsz := Lib.hid hsz
  replace hN := Lib.hid hN
  replace hO := Lib.hid hO
  replace hargs := Lib.hid hargs
  have hpl' := Lib.hid hpl
  clear hA hpl
  rcases hd0 with ⟨rfl, rfl⟩ | ⟨hk, rfl⟩
  · go_enter Tryz.func41, Tryz.ntmps41
    go_wp2_with (go_at_call 67; refine (KP.out _ hfrm.out).mono ?_; rintro e W1 ⟨bp, rfl, hP, hbp, hb1⟩; obtain ⟨cF2, cF3, hR, hX⟩ := three_below hthree.out hb1; replace hR := Lib.hid hR; replace hX := Lib.hid hX; have hBw := Lib.hid (hfrm.out.trans (hb1.mono hfrm.out.size)); replace hP := Lib.hid hP; replace hbp := Lib.hid (show w.heap.size + 1 + 1 < bp by simp at hbp; omega); clear hb1)
    go_loopw [39] (fun i wr => ∃ (j : Nat) (x : InsV), j ≤ P.length ∧ i = .int .i64 j ∧ x = foldZ (insZ 6 (-1)) ((P.zip ws).take j) ∧ (∀ p, p ∈ (P.zip ws).take j → getOk p.1 p.2 = true) ∧ Cells wr (w.heap.size + 1 + 1) 25 x.cells ∧ Cells wr (w.heap.size + 1) 25 (insZ 0 0).cells ∧ StrsL wr (some ⟨bp, 0, none⟩) P ∧ Below w.heap.size w wr) (fun i _ => P.length - (intOf i).toNat)
    case atStart => exact ⟨0, _, Nat.zero_le _, rfl, rfl, fun p hp => by simp at hp, hX.out, hR.out, hP.out, hBw.out⟩
    case round =>
      obtain ⟨j, x, hj, rfl, hx, hall, hXr, hRr, hPr, hBr⟩ := hrel
      have j0 : (0 : Int) ≤ j := Int.natCast_nonneg _
      by_cases hlt : j < P.length
      · obtain ⟨part, hpt⟩ : ∃ y, P[j]? = some y := ⟨P[j], by rw [List.getElem?_eq_getElem hlt]⟩
        obtain ⟨word, hwd⟩ : ∃ y, ws[j]? = some y := ⟨ws[j]'(by have := hpl'.out; omega), by rw [List.getElem?_eq_getElem]⟩
        have hz : (P.zip ws)[j]? = some (part, word) := by rw [List.getElem?_zip_eq_some]; exact ⟨hpt, hwd⟩
        have hzm := List.mem_of_getElem? hz
        obtain ⟨b1, o1, he1, hcp⟩ := hPr j part hpt
        cases he1
        rw [Nat.zero_add] at hcp
        obtain ⟨b2, o2, he2, hcw⟩ := hl.out j word hwd
        cases he2
        have hcw' := hBr.cell (p := ⟨b, o + j, none⟩) hbw
        rw [hcw] at hcw'
        have j1 : (j : Int) < P.length := by omega
        have j2 : (j : Int) < ws.length := by have := hpl'.out; omega
        have hi : IntKind.i64.wrap ((j : Int) + 1) = j + 1 := IntWalk.i64_in _ (by omega)
        have K := getX_any part word (w.heap.size + 1 + 1) x wr (hE.out.below hBr) (hsz.out word (List.mem_of_getElem? hwd)) hXr (hN.out j _ hz hall) (hO.out j _ hz hall) w.heap.size (by omega) hBr.size
        have hnext := Lib.hid (show foldZ (insZ 6 (-1)) ((P.zip ws).take (j + 1)) = getX x part word by rw [foldZ_snoc _ _ _ _ hz, ← hx])
        have htk := Lib.hid (show (P.zip ws).take (j + 1) = (P.zip ws).take j ++ [(part, word)] by rw [List.take_add_one, hz]; rfl)
        have hbad := Lib.hid (show getOk part word = false → ((P.zip ws).all fun p => getOk p.1 p.2) = false from fun h => by
          rw [List.all_eq_false]
          exact ⟨_, hzm, by rw [h]; decide⟩)
        clear hpt hwd hz hzm hcw
        replace hx := Lib.hid hx
        replace hall := Lib.hid hall
        replace hRr := Lib.hid hRr
        replace hPr := Lib.hid hPr
        replace hXr := Lib.hid hXr
        replace hBr := Lib.hid hBr
        cases hg : getOk part word with
        | true =>
          rw [hg] at K
          have hgt := Lib.hid hg
          clear hg hbad
          go_wp2_with (go_at_call 69; refine K.mono ?_; clear K; rintro e W2 ⟨rfl, hX2, hb2, hs2⟩; replace hX2 := Lib.hid hX2; replace hb2 := Lib.hid hb2; replace hs2 := Lib.hid hs2)
          exact ⟨⟨j + 1, _, by omega, by go_num, hnext.out.symm, fun p hp => by
            rw [htk.out] at hp
            rcases List.mem_append.1 hp with h | h
            · exact hall.out p h
            · rw [List.mem_singleton.1 h]; exact hgt.out, hX2.out, hs2.out _ _ (by omega) hRr.out, hs2.out.strs (by have := hbp.out; omega) hPr.out, hBr.out.trans hb2.out⟩, by simp [intOf]; omega⟩
        | false =>
          rw [hg] at K
          have hno := Lib.hid (hbad.out hg)
          clear hg hbad
          go_wp2_with (go_at_call 69; refine K.mono ?_; clear K; rintro e W2 ⟨rfl, hX2, hb2, hs2⟩; have hR2 : Cells W2 (w.heap.size + 1) 25 (insZ 0 0).cells := hs2 _ _ (by omega) hRr.out; obtain ⟨r0, r1, r2, r3, r4, r5, r6, r7, r8⟩ := ins_cells (x := insZ 0 0) hR2; obtain ⟨x0, x1, x2, x3, x4, x5, x6, x7, x8⟩ := ins_cells hX2; have hrf := fun i => hR2.frozen i; replace hb2 := Lib.hid hb2; clear hs2)
          refine bodyPost_ret (v := .tuple #[.agg (getX x part word).cells, .int .i64 3]) (read_end rfl rfl (nine_ins hR2 _ _ _ _ _ _ _ _ _)) rfl ⟨nine_below (hBr.out.trans hb2.out) (Nat.le_succ _) _ _ _ _ _ _ _ _ _, .inl ⟨hno.out, _, rfl⟩⟩
      · obtain rfl : j = P.length := by omega
        have hallZ := Lib.hid (show ((P.zip ws).all fun p => getOk p.1 p.2) = true by
          rw [List.all_eq_true]
          intro p hp
          rw [List.take_of_length_le (by rw [hZl.out]; exact Nat.le_refl _)] at hall
          exact hall p hp)
        have hxf := Lib.hid (show x = foldX (insZ 6 (-1)) P ws by
          rw [hx, List.take_of_length_le (by rw [hZl.out]; exact Nat.le_refl _)]; rfl)
        have hdl : (ws.drop P.length).length = ws.length - P.length := List.length_drop ..
        obtain ⟨ha1, ha2⟩ := hargs.out hallZ.out
        have hpp := hpl'.out
        have hlt2 := hXr.lt
        have hdr := Lib.hid (show ∀ y, y ∈ ws.drop P.length → y.size ≤ 65536 from fun y hy => hsz.out y (List.mem_of_mem_drop hy))
        by_cases hcP : c = P.length
        · have hK := listI_ok (a := some ⟨b, o, none⟩) (c := 0) (l := ws.drop P.length) (most := 16) (w := wr) (hE.out.below hBr) (fun i y hy => by
            rw [List.getElem?_drop] at hy
            have := (List.getElem?_eq_some_iff.1 hy).1
            omega) hdr.out ha1 (by omega) (by omega)
          rw [hdl] at hK
          clear hx hall ha1 ha2 hPr
          replace hK := Lib.hid hK
          replace hdl := Lib.hid hdl
          replace hRr := Lib.hid hRr
          replace hXr := Lib.hid hXr
          replace hBr := Lib.hid hBr
          go_wp2_with (go_at_call 60; refine hK.out.mono ?_; clear hK; rintro e W2 ⟨a', c', rfl, hrow, hb2⟩; have hR2 : Cells W2 (w.heap.size + 1) 25 (insZ 0 0).cells := hRr.out.below hb2 hRr.out.lt; have hX2 : Cells W2 (w.heap.size + 1 + 1) 25 x.cells := hXr.out.below hb2 hXr.out.lt; obtain ⟨r0, r1, r2, r3, r4, r5, r6, r7, r8⟩ := ins_cells (x := insZ 0 0) hR2; obtain ⟨x0, x1, x2, x3, x4, x5, x6, x7, x8⟩ := ins_cells hX2; have hrf := fun i => hR2.frozen i; have hxfz := fun i => hX2.frozen i; replace hrow := Lib.hid hrow; replace hb2 := Lib.hid hb2)
          refine bodyPost_ret (v := .tuple #[.agg ({ x with sa := a', sn := ws.length - P.length, sc := c' } : InsV).cells, .int .i64 0]) (read_end rfl rfl (nine_ins (hR2.other (T := w.heap.size + 1 + 1) (j := 6) (by omega) (.slice a' (ws.length - P.length) c')) _ _ _ _ _ _ _ _ _)) rfl ⟨nine_below ((hBr.out.trans (hb2.out.mono (Nat.le_of_lt (Nat.lt_of_le_of_lt (by omega) hlt2)))).setCell (p := ⟨w.heap.size + 1 + 1, 6, none⟩) (by simp only []; omega) _) (Nat.le_succ _) _ _ _ _ _ _ _ _ _, .inr ⟨hallZ.out, a', c', by rw [hdl.out, hxf.out], ?_⟩⟩
          rw [hdl.out]
          exact row_mono (nine_row (ownsRow_setCell_below (a := ⟨w.heap.size + 1 + 1, 6, none⟩) hrow.out hlt2 _) (by omega) _ _ _ _ _ _ _ _ _) (by omega)
        · have hK := listI_ok (a := some ⟨b, o + P.length, none⟩) (c := c - P.length) (l := ws.drop P.length) (most := 16) (w := wr) (hE.out.below hBr) (fun i y hy => by
            rw [List.getElem?_drop] at hy
            obtain ⟨b3, o3, h3, h4⟩ := hl.out _ y hy
            cases h3
            refine ⟨b, o + P.length, rfl, ?_⟩
            rw [Nat.add_assoc, hBr.cell (p := ⟨b, o + (P.length + i), none⟩) hbw]
            exact h4) hdr.out ha1 (by omega) (by omega)
          rw [hdl] at hK
          clear hx hall ha1 ha2 hPr
          replace hK := Lib.hid hK
          replace hdl := Lib.hid hdl
          replace hRr := Lib.hid hRr
          replace hXr := Lib.hid hXr
          replace hBr := Lib.hid hBr
          go_wp2_with (go_at_call 60; refine hK.out.mono ?_; clear hK; rintro e W2 ⟨a', c', rfl, hrow, hb2⟩; have hR2 : Cells W2 (w.heap.size + 1) 25 (insZ 0 0).cells := hRr.out.below hb2 hRr.out.lt; have hX2 : Cells W2 (w.heap.size + 1 + 1) 25 x.cells := hXr.out.below hb2 hXr.out.lt; obtain ⟨r0, r1, r2, r3, r4, r5, r6, r7, r8⟩ := ins_cells (x := insZ 0 0) hR2; obtain ⟨x0, x1, x2, x3, x4, x5, x6, x7, x8⟩ := ins_cells hX2; have hrf := fun i => hR2.frozen i; have hxfz := fun i => hX2.frozen i; replace hrow := Lib.hid hrow; replace hb2 := Lib.hid hb2)
          refine bodyPost_ret (v := .tuple #[.agg ({ x with sa := a', sn := ws.length - P.length, sc := c' } : InsV).cells, .int .i64 0]) (read_end rfl rfl (nine_ins (hR2.other (T := w.heap.size + 1 + 1) (j := 6) (by omega) (.slice a' (ws.length - P.length) c')) _ _ _ _ _ _ _ _ _)) rfl ⟨nine_below ((hBr.out.trans (hb2.out.mono (Nat.le_of_lt (Nat.lt_of_le_of_lt (by omega) hlt2)))).setCell (p := ⟨w.heap.size + 1 + 1, 6, none⟩) (by simp only []; omega) _) (Nat.le_succ _) _ _ _ _ _ _ _ _ _, .inr ⟨hallZ.out, a', c', by rw [hdl.out, hxf.out], ?_⟩⟩
          rw [hdl.out]
          exact row_mono (nine_row (ownsRow_setCell_below (a := ⟨w.heap.size + 1 + 1, 6, none⟩) hrow.out hlt2 _) (by omega) _ _ _ _ _ _ _ _ _) (by omega)
  · go_enter Tryz.func41, Tryz.ntmps41
    go_wp2_with (go_at_call 67; refine (KP.out _ hfrm.out).mono ?_; rintro e W1 ⟨bp, rfl, hP, hbp, hb1⟩; obtain ⟨cF2, cF3, hR, hX⟩ := three_below hthree.out hb1; replace hR := Lib.hid hR; replace hX := Lib.hid hX; have hBw := Lib.hid (hfrm.out.trans (hb1.mono hfrm.out.size)); replace hP := Lib.hid hP; replace hbp := Lib.hid (show w.heap.size + 1 + 1 < bp by simp at hbp; omega); clear hb1)
    go_loopw [39] (fun i wr => ∃ (j : Nat) (x : InsV), j ≤ P.length ∧ i = .int .i64 j ∧ x = foldZ (insZ k 0) ((P.zip ws).take j) ∧ (∀ p, p ∈ (P.zip ws).take j → getOk p.1 p.2 = true) ∧ Cells wr (w.heap.size + 1 + 1) 25 x.cells ∧ Cells wr (w.heap.size + 1) 25 (insZ 0 0).cells ∧ StrsL wr (some ⟨bp, 0, none⟩) P ∧ Below w.heap.size w wr) (fun i _ => P.length - (intOf i).toNat)
    case atStart => exact ⟨0, _, Nat.zero_le _, rfl, rfl, fun p hp => by simp at hp, hX.out, hR.out, hP.out, hBw.out⟩
    case round =>
      obtain ⟨j, x, hj, rfl, hx, hall, hXr, hRr, hPr, hBr⟩ := hrel
      have j0 : (0 : Int) ≤ j := Int.natCast_nonneg _
      by_cases hlt : j < P.length
      · obtain ⟨part, hpt⟩ : ∃ y, P[j]? = some y := ⟨P[j], by rw [List.getElem?_eq_getElem hlt]⟩
        obtain ⟨word, hwd⟩ : ∃ y, ws[j]? = some y := ⟨ws[j]'(by have := hpl'.out; omega), by rw [List.getElem?_eq_getElem]⟩
        have hz : (P.zip ws)[j]? = some (part, word) := by rw [List.getElem?_zip_eq_some]; exact ⟨hpt, hwd⟩
        have hzm := List.mem_of_getElem? hz
        obtain ⟨b1, o1, he1, hcp⟩ := hPr j part hpt
        cases he1
        rw [Nat.zero_add] at hcp
        obtain ⟨b2, o2, he2, hcw⟩ := hl.out j word hwd
        cases he2
        have hcw' := hBr.cell (p := ⟨b, o + j, none⟩) hbw
        rw [hcw] at hcw'
        have j1 : (j : Int) < P.length := by omega
        have j2 : (j : Int) < ws.length := by have := hpl'.out; omega
        have hi : IntKind.i64.wrap ((j : Int) + 1) = j + 1 := IntWalk.i64_in _ (by omega)
        have K := getX_any part word (w.heap.size + 1 + 1) x wr (hE.out.below hBr) (hsz.out word (List.mem_of_getElem? hwd)) hXr (hN.out j _ hz hall) (hO.out j _ hz hall) w.heap.size (by omega) hBr.size
        have hnext := Lib.hid (show foldZ (insZ k 0) ((P.zip ws).take (j + 1)) = getX x part word by rw [foldZ_snoc _ _ _ _ hz, ← hx])
        have htk := Lib.hid (show (P.zip ws).take (j + 1) = (P.zip ws).take j ++ [(part, word)] by rw [List.take_add_one, hz]; rfl)
        have hbad := Lib.hid (show getOk part word = false → ((P.zip ws).all fun p => getOk p.1 p.2) = false from fun h => by
          rw [List.all_eq_false]
          exact ⟨_, hzm, by rw [h]; decide⟩)
        clear hpt hwd hz hzm hcw
        replace hx := Lib.hid hx
        replace hall := Lib.hid hall
        replace hRr := Lib.hid hRr
        replace hPr := Lib.hid hPr
        replace hXr := Lib.hid hXr
        replace hBr := Lib.hid hBr
        cases hg : getOk part word with
        | true =>
          rw [hg] at K
          have hgt := Lib.hid hg
          clear hg hbad
          go_wp2_with (go_at_call 69; refine K.mono ?_; clear K; rintro e W2 ⟨rfl, hX2, hb2, hs2⟩; replace hX2 := Lib.hid hX2; replace hb2 := Lib.hid hb2; replace hs2 := Lib.hid hs2)
          exact ⟨⟨j + 1, _, by omega, by go_num, hnext.out.symm, fun p hp => by
            rw [htk.out] at hp
            rcases List.mem_append.1 hp with h | h
            · exact hall.out p h
            · rw [List.mem_singleton.1 h]; exact hgt.out, hX2.out, hs2.out _ _ (by omega) hRr.out, hs2.out.strs (by have := hbp.out; omega) hPr.out, hBr.out.trans hb2.out⟩, by simp [intOf]; omega⟩
        | false =>
          rw [hg] at K
          have hno := Lib.hid (hbad.out hg)
          clear hg hbad
          go_wp2_with (go_at_call 69; refine K.mono ?_; clear K; rintro e W2 ⟨rfl, hX2, hb2, hs2⟩; have hR2 : Cells W2 (w.heap.size + 1) 25 (insZ 0 0).cells := hs2 _ _ (by omega) hRr.out; obtain ⟨r0, r1, r2, r3, r4, r5, r6, r7, r8⟩ := ins_cells (x := insZ 0 0) hR2; obtain ⟨x0, x1, x2, x3, x4, x5, x6, x7, x8⟩ := ins_cells hX2; have hrf := fun i => hR2.frozen i; replace hb2 := Lib.hid hb2; clear hs2)
          refine bodyPost_ret (v := .tuple #[.agg (getX x part word).cells, .int .i64 3]) (read_end rfl rfl (nine_ins hR2 _ _ _ _ _ _ _ _ _)) rfl ⟨nine_below (hBr.out.trans hb2.out) (Nat.le_succ _) _ _ _ _ _ _ _ _ _, .inl ⟨hno.out, _, rfl⟩⟩
      · obtain rfl : j = P.length := by omega
        have hallZ := Lib.hid (show ((P.zip ws).all fun p => getOk p.1 p.2) = true by
          rw [List.all_eq_true]
          intro p hp
          rw [List.take_of_length_le (by rw [hZl.out]; exact Nat.le_refl _)] at hall
          exact hall p hp)
        have hxf := Lib.hid (show x = foldX (insZ k 0) P ws by
          rw [hx, List.take_of_length_le (by rw [hZl.out]; exact Nat.le_refl _)]; rfl)
        have hdl : (ws.drop P.length).length = ws.length - P.length := List.length_drop ..
        obtain ⟨ha1, ha2⟩ := hargs.out hallZ.out
        have hpp := hpl'.out
        have hlt2 := hXr.lt
        have hdr := Lib.hid (show ∀ y, y ∈ ws.drop P.length → y.size ≤ 65536 from fun y hy => hsz.out y (List.mem_of_mem_drop hy))
        by_cases hcP : c = P.length
        · have hK := listI_ok (a := some ⟨b, o, none⟩) (c := 0) (l := ws.drop P.length) (most := 16) (w := wr) (hE.out.below hBr) (fun i y hy => by
            rw [List.getElem?_drop] at hy
            have := (List.getElem?_eq_some_iff.1 hy).1
            omega) hdr.out ha1 (by omega) (by omega)
          rw [hdl] at hK
          clear hx hall ha1 ha2 hPr
          replace hK := Lib.hid hK
          replace hdl := Lib.hid hdl
          replace hRr := Lib.hid hRr
          replace hXr := Lib.hid hXr
          replace hBr := Lib.hid hBr
          go_wp2_with (go_at_call 60; refine hK.out.mono ?_; clear hK; rintro e W2 ⟨a', c', rfl, hrow, hb2⟩; have hR2 : Cells W2 (w.heap.size + 1) 25 (insZ 0 0).cells := hRr.out.below hb2 hRr.out.lt; have hX2 : Cells W2 (w.heap.size + 1 + 1) 25 x.cells := hXr.out.below hb2 hXr.out.lt; obtain ⟨r0, r1, r2, r3, r4, r5, r6, r7, r8⟩ := ins_cells (x := insZ 0 0) hR2; obtain ⟨x0, x1, x2, x3, x4, x5, x6, x7, x8⟩ := ins_cells hX2; have hrf := fun i => hR2.frozen i; have hxfz := fun i => hX2.frozen i; replace hrow := Lib.hid hrow; replace hb2 := Lib.hid hb2)
          refine bodyPost_ret (v := .tuple #[.agg ({ x with sa := a', sn := ws.length - P.length, sc := c' } : InsV).cells, .int .i64 0]) (read_end rfl rfl (nine_ins (hR2.other (T := w.heap.size + 1 + 1) (j := 6) (by omega) (.slice a' (ws.length - P.length) c')) _ _ _ _ _ _ _ _ _)) rfl ⟨nine_below ((hBr.out.trans (hb2.out.mono (Nat.le_of_lt (Nat.lt_of_le_of_lt (by omega) hlt2)))).setCell (p := ⟨w.heap.size + 1 + 1, 6, none⟩) (by simp only []; omega) _) (Nat.le_succ _) _ _ _ _ _ _ _ _ _, .inr ⟨hallZ.out, a', c', by rw [hdl.out, hxf.out], ?_⟩⟩
          rw [hdl.out]
          exact row_mono (nine_row (ownsRow_setCell_below (a := ⟨w.heap.size + 1 + 1, 6, none⟩) hrow.out hlt2 _) (by omega) _ _ _ _ _ _ _ _ _) (by omega)
        · have hK := listI_ok (a := some ⟨b, o + P.length, none⟩) (c := c - P.length) (l := ws.drop P.length) (most := 16) (w := wr) (hE.out.below hBr) (fun i y hy => by
            rw [List.getElem?_drop] at hy
            obtain ⟨b3, o3, h3, h4⟩ := hl.out _ y hy
            cases h3
            refine ⟨b, o + P.length, rfl, ?_⟩
            rw [Nat.add_assoc, hBr.cell (p := ⟨b, o + (P.length + i), none⟩) hbw]
            exact h4) hdr.out ha1 (by omega) (by omega)
          rw [hdl] at hK
          clear hx hall ha1 ha2 hPr
          replace hK := Lib.hid hK
          replace hdl := Lib.hid hdl
          replace hRr := Lib.hid hRr
          replace hXr := Lib.hid hXr
          replace hBr := Lib.hid hBr
          go_wp2_with (go_at_call 60; refine hK.out.mono ?_; clear hK; rintro e W2 ⟨a', c', rfl, hrow, hb2⟩; have hR2 : Cells W2 (w.heap.size + 1) 25 (insZ 0 0).cells := hRr.out.below hb2 hRr.out.lt; have hX2 : Cells W2 (w.heap.size + 1 + 1) 25 x.cells := hXr.out.below hb2 hXr.out.lt; obtain ⟨r0, r1, r2, r3, r4, r5, r6, r7, r8⟩ := ins_cells (x := insZ 0 0) hR2; obtain ⟨x0, x1, x2, x3, x4, x5, x6, x7, x8⟩ := ins_cells hX2; have hrf := fun i => hR2.frozen i; have hxfz := fun i => hX2.frozen i; replace hrow := Lib.hid hrow; replace hb2 := Lib.hid hb2)
          refine bodyPost_ret (v := .tuple #[.agg ({ x with sa := a', sn := ws.length - P.length, sc := c' } : InsV).cells, .int .i64 0]) (read_end rfl rfl (nine_ins (hR2.other (T := w.heap.size + 1 + 1) (j := 6) (by omega) (.slice a' (ws.length - P.length) c')) _ _ _ _ _ _ _ _ _)) rfl ⟨nine_below ((hBr.out.trans (hb2.out.mono (Nat.le_of_lt (Nat.lt_of_le_of_lt (by omega) hlt2)))).setCell (p := ⟨w.heap.size + 1 + 1, 6, none⟩) (by simp only []; omega) _) (Nat.le_succ _) _ _ _ _ _ _ _ _ _, .inr ⟨hallZ.out, a', c', by rw [hdl.out, hxf.out], ?_⟩⟩
          rw [hdl.out]
          exact row_mono (nine_row (ownsRow_setCell_below (a := ⟨w.heap.size + 1 + 1, 6, none⟩) hrow.out hlt2 _) (by omega) _ _ _ _ _ _ _ _ _) (by omega)
end Go.Proofs.YtfnfijgknjnccaaGreatDoor
