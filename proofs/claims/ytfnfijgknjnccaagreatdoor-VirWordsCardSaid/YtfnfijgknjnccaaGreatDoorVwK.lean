/-
  vir's form.words.
-/
import Derived.Test.YtfnfijgknjnccaaGreatDoorVwJ
namespace Go.Proofs.YtfnfijgknjnccaaGreatDoor
open Go.RowKit Go.Sort
theorem below_two (w : World) (A B : Array Value) (t u : TypeId) : Below w.heap.size w ((w.alloc (.cells A t)).alloc (.cells B u)) :=
  ((Below.refl _ _).alloc (Nat.le_refl _) _).alloc (by simp) _
theorem cells_two (w : World) (A B : Array Value) (t u : TypeId) : Cells ((w.alloc (.cells A t)).alloc (.cells B u)) (w.heap.size + 1) u B := by
  have h := Cells.new (w.alloc (.cells A t)) u B
  rw [World.size_alloc] at h
  exact h
theorem cells_src {W : World} {b : Nat} {t : TypeId} {l : List Value} (h : Cells W b t l.toArray) : ∀ j u, l[j]? = some u → W.cell? ((⟨b, 0, none⟩ : Addr).add j) = some u := by
  intro j u hj
  have : ((⟨b, 0, none⟩ : Addr).add j) = ⟨b, j, none⟩ := by
    simp [Addr.add]; exact fun e => e.symm
  rw [this]
  exact h.cell (by rw [List.getElem?_toArray]; exact hj)
/-- The words of an instruction in a form. -/
def wordsX (P : List ByteArray) (x : InsV) (L : List Int) : List ByteArray := P.map (putX x) ++ L.map wordN
set_option maxHeartbeats 4000000
set_option maxRecDepth 100000
theorem words_any (f : FormV) (hA : Ascii f.line) (x : InsV) {L : List Int} {w : World} (hE : EnvV w) (hx : InsIn x) (hL : IntsL w x.sa L) (hsn : x.sn = L.length) (hLz : ∀ y, y ∈ L → In64 y) (hll : L.length ≤ 100000) (hpl : (partsOf f.line).length ≤ 100000) :
    Calls Tryz.prog 40 #[f.v, .agg x.cells] w fun e w' => ∃ a' c', e = .returned (.slice a' ((partsOf f.line).length + L.length) c') ∧
      w'.ownsRow w.heap.size 9 1 (.slice a' ((partsOf f.line).length + L.length) c') ((partsOf f.line).length + L.length) ((wordsX (partsOf f.line) x L).map Value.string) ∧ Below w.heap.size w w' := by
  obtain ⟨i0, hi0, hz0, hz1, hz2⟩ := info_parts Tryz.infoStrV
  have KP := fun V hb => parts_any f hA V (hE.below hb)
  obtain ⟨k, line, least, most⟩ := f
  simp only [FormV.v] at KP ⊢
  dsimp only at hpl ⊢
  generalize partsOf line = P at *
  have hb0 := below_two w #[.int .i64 k, .string line, .int .i64 least, .int .i64 most] x.cells 89 25
  have hc0 := Lib.hid (cells_two w #[.int .i64 k, .string line, .int .i64 least, .int .i64 most] x.cells 89 25)
  replace KP := KP _ hb0
  replace hb0 := Lib.hid hb0
  have hsl : x.sn ≤ 100000 := by omega
  replace hsn := Lib.hid hsn
  replace hE := Lib.hid hE
  replace hL := Lib.hid hL
  replace hLz := Lib.hid hLz
  replace hx := Lib.hid hx
  have hKp : ∀ (W : World) (part : ByteArray), EnvV W → Calls Tryz.prog 68 #[.agg x.cells, .string part] W fun e w' => e = .returned (.string (putX x part)) ∧ Below W.heap.size W w' := fun W part h => put_any x part W h hx.out
  unfold InsV.cells at KP hKp ⊢
  replace hKp := Lib.hid hKp
  go_enter Tryz.func40, Tryz.ntmps40
  go_wp2_with (go_at_call 67; refine KP.mono ?_; clear KP; rintro e W1 ⟨bp, rfl, hP, hbp, hb1⟩; have hX := Lib.hid (hc0.out.below hb1 hc0.out.lt); have hBw := Lib.hid (hb0.out.trans (hb1.mono hb0.out.size)); replace hP := Lib.hid hP; clear hb1 hbp)
  have hE1 := Lib.hid (hE.out.below hBw.out)
  go_loopw [5, 11] (fun v i wr => ∃ (k : Nat) (a' : Option Addr) (c' : Nat), k ≤ P.length ∧ i = .int .i64 k ∧ v = .slice a' k c' ∧ Hid (wr.ownsRow W1.heap.size 9 1 (.slice a' k c') k (((P.take k).map (putX x)).map Value.string)) ∧ Below W1.heap.size W1 wr) (fun _ i _ => P.length - (intOf i).toNat)
  case atStart => exact ⟨0, none, 0, Nat.zero_le _, rfl, rfl, Lib.hid (World.ownsRow_nil _ _ _ _), Below.refl _ _⟩
  case round =>
    obtain ⟨k, va, vc, hk, rfl, rfl, hrow, hB⟩ := hrel
    have k0 : (0 : Int) ≤ k := Int.natCast_nonneg _
    obtain ⟨x0, x1, x2, x3, x4, x5, x6, x7, x8⟩ := ins_cells (hX.out.below hB hX.out.lt)
    by_cases hlt : k < P.length
    · obtain ⟨part, hpt⟩ : ∃ y, P[k]? = some y := ⟨P[k], by rw [List.getElem?_eq_getElem hlt]⟩
      obtain ⟨b, o, he, hc⟩ := hP.out k part hpt
      cases he
      have hc' := cell_below hB hc
      have K := hKp.out wr part (hE1.out.below hB)
      have hsnoc : Hid ((P.take (k + 1)).map (putX x) = (P.take k).map (putX x) ++ [putX x part]) := Lib.hid (by rw [List.take_add_one, hpt]; simp)
      have hBs := hB.size
      have hi : IntKind.i64.wrap ((k : Int) + 1) = k + 1 := IntWalk.i64_in _ (by omega)
      have k1 : (k : Int) < P.length := by omega
      clear hpt hc
      generalize putX x part = r at *
      rw [Nat.zero_add] at hc'
      go_wp2_with (first
        | (go_at_call 68; refine K.mono ?_; clear K; rintro e W2 ⟨rfl, hb1⟩; have hr1 := Lib.hid (hrow.out.kept (grownBy_of_below hb1) (by cases hv : (Value.slice va k vc).ownBlock with | none => exact .inl rfl | some b => exact .inr (by simp))); have hs1 := hb1.size; replace hB := hB.trans (hb1.mono hB.size))
        | (at_builtin; refine wpList_append_own_at _ rfl _ _ 28 rfl W1.heap.size 9 i0 _ 1 16 Tryz.underlying28 hi0 hz0 hz1 hz2 rfl (by decide) _ k (((P.take k).map (putX x)).map Value.string) rfl (hr1.out.alloc _) ⟨W2.heap.size, 0, none⟩ 1 1 [.string r] rfl rfl (new_cells _ _ _ _ rfl) (by simp [Value.oneCell']) (by unfold maxLen; omega) (by omega) (by simp; omega) ?_; intro v' W7 hown7 hgrow _ hblk; obtain ⟨g', cap', rfl⟩ := ownsRow_form hown7))
      have hB7 : Below W1.heap.size W1 W7 := (hB.alloc (by omega) _).grown hgrow (by simp; omega) (fun g hg => ownsRow_up hr1.out hg)
      replace hown7 : Hid (W7.ownsRow W1.heap.size 9 1 (.slice g' (k + 1) cap') (k + 1) (((P.take (k + 1)).map (putX x)).map Value.string)) := Lib.hid (by
        rw [hsnoc.out, List.map_append]; exact hown7)
      exact ⟨⟨k + 1, g', cap', by omega, by go_num, rfl, hown7, hB7⟩, by simp [intOf]; omega⟩
    · obtain rfl : k = P.length := by omega
      have K := numerals_any (c := x.sc) (hE1.out.below hB) ((hL.out.below hBw.out).below hB) hLz.out hll
      rw [← hsn.out] at K
      have hBs := hB.size
      replace hrow := Lib.hid (show wr.ownsRow W1.heap.size 9 1 (.slice va P.length vc) P.length ((P.map (putX x)).map Value.string) by
        have := hrow.out
        rw [List.take_length] at this
        exact this)
      go_wp2_with (first
        | (go_at_call 16; refine K.mono ?_; clear K; rintro e W2 ⟨bn, rfl, hbn, hcn, hb1⟩; have hr1 := Lib.hid (hrow.out.kept (grownBy_of_below hb1) (by cases hv : (Value.slice va P.length vc).ownBlock with | none => exact .inl rfl | some b => exact .inr (by simp))); have hs1 := hb1.size; have hB2 := hB.trans (hb1.mono hB.size); replace hcn := Lib.hid hcn)
        | (at_builtin; refine wpList_append_own_at _ rfl _ _ 28 rfl W1.heap.size 9 i0 _ 1 16 Tryz.underlying28 hi0 hz0 hz1 hz2 rfl (by decide) _ P.length ((P.map (putX x)).map Value.string) rfl hr1.out ⟨bn, 0, none⟩ x.sn x.sn ((L.map wordN).map Value.string) rfl (by simp [hsn.out]) (cells_src hcn.out) (by simp [Value.oneCell']) (by unfold maxLen; omega) (by omega) (by omega) ?_; intro v' W7 hown7 hgrow _ hblk; obtain ⟨g', cap', rfl⟩ := ownsRow_form hown7))
      go_ret
      have hB7 : Below W1.heap.size W1 W7 := hB2.grown hgrow (by omega) (fun g hg => ownsRow_up hr1.out hg)
      refine ⟨g', cap', by rw [hsn.out]; rfl, ?_, hBw.out.trans (hB7.mono hBw.out.size)⟩
      rw [hsn.out, ← List.map_append] at hown7
      exact row_mono hown7 hBw.out.size
end Go.Proofs.YtfnfijgknjnccaaGreatDoor
