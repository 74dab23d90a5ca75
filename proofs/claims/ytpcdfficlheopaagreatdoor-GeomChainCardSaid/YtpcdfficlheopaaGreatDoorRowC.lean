/-
  GeomRow: what Places tells of the registers side by side.
-/
import Derived.Test.YtpcdfficlheopaaGreatDoorRowB
namespace Go.Proofs.YtpcdfficlheopaaGreatDoor
open Go.RowKit Go.Shelf

theorem wide_name : IsName ⟨#[119, 105, 100, 101]⟩ ∧ NotWord ⟨#[119, 105, 100, 101]⟩ := ⟨isName_of (by decide) (by decide) (by decide), notWord_of (by decide +kernel)⟩

theorem ownsRow_cap {W : World} {base : Nat} {e : TypeId} {size n g cap : Nat} {xs : List Value} (h : W.ownsRow base e size (.slice (some ⟨g, 0, none⟩) n cap) n xs) : n ≤ cap ∧ g < W.heap.size := by
  rcases h.2 with ⟨h1, _⟩ | ⟨g', cap', cur, h1, _, h2, h3, _⟩
  · simp at h1
  · simp at h1
    obtain ⟨rfl, rfl⟩ := h1
    exact ⟨h3, (Array.getElem?_eq_some_iff.1 h2).1⟩

/-- Where the i-th of the places is. -/
def rowSpots (n : Nat) (width : Int) : List (Int × Int × Int) := (0, 0, 64) :: (List.range' 0 n).map fun (j : Nat) => ((0 : Int), (j : Int) * width, width)

theorem rowSpots_get {n : Nat} {width : Int} {i : Nat} (hi : i < n) : (rowSpots n width)[i + 1]? = some (0, (i : Int) * width, width) := by
  simp [rowSpots, hi]

set_option maxHeartbeats 1000000 in
theorem row_places (n : Nat) (width : Int) (w : World) (hE : Env w) (B base g cap : Nat) (hn1 : 1 ≤ n) (hn : n ≤ 16) (h3 : 1 ≤ width) (h4 : width ≤ 64) (h5 : (n : Int) * width ≤ 64)
    (hR : Cells w B 26 #[.string ⟨#[119, 105, 100, 101]⟩, .int .i64 64, .int .i64 0, .slice (some ⟨g, 0, none⟩) n cap]) (hrow : w.ownsRow base 26 4 (.slice (some ⟨g, 0, none⟩) n cap) n (rowCells width n)) :
    Calls Tryz.prog 7 #[.slice (some ⟨B, 0, none⟩) 1 1] w fun e W' => ∃ nV q qc, e = .returned (.tuple #[nV, .slice (some ⟨q, 0, none⟩) (n + 1) qc, .int .i64 0]) ∧
      (∀ i p, (rowSpots n width)[i]? = some p → W'.cell? ⟨q, i * 3, none⟩ = some (.int .i64 p.1) ∧ W'.cell? ⟨q, i * 3 + 1, none⟩ = some (.int .i64 p.2.1) ∧ W'.cell? ⟨q, i * 3 + 2, none⟩ = some (.int .i64 p.2.2)) ∧ w.heap.size ≤ q ∧ Below w.heap.size w W' := by
  obtain ⟨hcap, hg⟩ := ownsRow_cap hrow
  have hlen := rowL_length width n 0
  have hL : HoldsAt w.heap.size w B 0 (.cons ⟨#[119, 105, 100, 101]⟩ 64 0 (.slice (some ⟨g, 0, none⟩) n cap) (rowL width n 0) .nil) := by
    refine ⟨hR.lt, ⟨hR.cell rfl, hR.cell rfl, hR.cell rfl, hR.cell rfl⟩, trivial, .inr ⟨g, 0, cap, by rw [hlen], by rw [hlen]; exact hcap, by rw [hlen]; omega, ?_⟩⟩
    have := row_holds (W := w) (g := g) (n₀ := w.heap.size) (n := n) (width := width) hg (fun j v hj => ownsRow_cell hrow hj) n 0 (by omega)
    simpa using this
  have hsp := spots_row width (1 + 1) 0 (0 + 0) 64 (.slice (some ⟨g, 0, none⟩) n cap) n 0
  have hE1 : (spotsOut 0 (.cons ⟨#[119, 105, 100, 101]⟩ 64 0 (.slice (some ⟨g, 0, none⟩) n cap) (rowL width n 0) .nil)).map Spot.place = rowSpots n width := by
    have := congrArg (List.map Prod.snd) hsp
    simp only [List.map_map] at this
    simp only [spotsOut, List.append_nil, List.map_cons, rowSpots]
    refine List.cons_eq_cons.2 ⟨rfl, ?_⟩
    refine Eq.trans ?_ (this.trans ?_)
    · rfl
    · refine List.map_congr_left fun j _ => ?_
      simp
  have hE2 : (spotsOut 0 (.cons ⟨#[119, 105, 100, 101]⟩ 64 0 (.slice (some ⟨g, 0, none⟩) n cap) (rowL width n 0) .nil)).map (·.name) = ⟨#[119, 105, 100, 101]⟩ :: (List.range n).map rowName := by
    have := congrArg (List.map Prod.fst) hsp
    simp only [List.map_map] at this
    simp only [spotsOut, List.append_nil, List.map_cons]
    refine List.cons_eq_cons.2 ⟨rfl, ?_⟩
    refine Eq.trans ?_ (this.trans ?_)
    · rfl
    · rw [List.range_eq_range']; rfl
  have hE3 : (spotsOut 0 (.cons ⟨#[119, 105, 100, 101]⟩ 64 0 (.slice (some ⟨g, 0, none⟩) n cap) (rowL width n 0) .nil)).length = n + 1 := by
    have := congrArg List.length hE1
    simpa [rowSpots] using this
  have hht := rowL_height width n 0
  have P := places_ok B 0 1 (.cons ⟨#[119, 105, 100, 101]⟩ 64 0 (.slice (some ⟨g, 0, none⟩) n cap) (rowL width n 0) .nil) w hE hL
    ⟨⟨by decide, by decide, by decide, by decide⟩, rowSmall width n h3 h4 h5 n 0 (by omega), trivial⟩ (by simp only [RegL.height]; omega) (by simp only [RegL.length]; omega)
    (fine_out hL ⟨lap_none wide_name.1 wide_name.2 (by decide), rowSound width n hn h3 h4 h5 n 0 (by omega), trivial⟩ (by rw [hE2]; exact rowNames_nodup n hn) (by rw [hE3]; omega))
  refine P.mono ?_
  rintro e W' ⟨nV, pV, rfl, _, hp, hB⟩
  rw [hE1, hE3] at hp
  obtain ⟨q, qc, rfl⟩ := ownsRow_succ hp
  refine ⟨nV, q, qc, rfl, fun i p hi => ?_, (ownsRow_block hp rfl).1, hB⟩
  obtain ⟨a, b, c⟩ := placeCells_get hi
  exact ⟨ownsRow_cell hp a, ownsRow_cell hp b, ownsRow_cell hp c⟩
/-- The places lie as they are told, from block q on; nothing that was there has changed. -/
structure Told (w : World) (n : Nat) (width : Int) (q : Nat) (W : World) : Prop where
  outer : W.cell? ⟨q, 0, none⟩ = some (.int .i64 0) ∧ W.cell? ⟨q, 1, none⟩ = some (.int .i64 0) ∧ W.cell? ⟨q, 2, none⟩ = some (.int .i64 64)
  inner : ∀ i : Nat, 1 ≤ i → i ≤ n → W.cell? ⟨q, i * 3, none⟩ = some (.int .i64 0) ∧ W.cell? ⟨q, i * 3 + 1, none⟩ = some (.int .i64 (((i : Int) - 1) * width)) ∧ W.cell? ⟨q, i * 3 + 2, none⟩ = some (.int .i64 width)
  below : Below w.heap.size w W
theorem told_of {w W : World} {n : Nat} {width : Int} {q : Nat} (h : ∀ i p, (rowSpots n width)[i]? = some p → W.cell? ⟨q, i * 3, none⟩ = some (.int .i64 p.1) ∧ W.cell? ⟨q, i * 3 + 1, none⟩ = some (.int .i64 p.2.1) ∧ W.cell? ⟨q, i * 3 + 2, none⟩ = some (.int .i64 p.2.2)) (hb : Below w.heap.size w W) : Told w n width q W := by
  refine ⟨by simpa using h 0 (0, 0, 64) rfl, fun i h1 h2 => ?_, hb⟩
  obtain ⟨j, rfl⟩ : ∃ j, i = j + 1 := ⟨i - 1, by omega⟩
  have := h (j + 1) _ (rowSpots_get (by omega))
  rw [show ((j + 1 : Nat) : Int) - 1 = j by omega]
  exact this
theorem Told.on {w A B : World} {n : Nat} {width : Int} {q : Nat} (h : Told w n width q A) (hb : Below A.heap.size A B) : Told w n width q B :=
  ⟨⟨cell_below hb h.outer.1, cell_below hb h.outer.2.1, cell_below hb h.outer.2.2⟩, fun i h1 h2 => by
    obtain ⟨a, b, c⟩ := h.inner i h1 h2
    exact ⟨cell_below hb a, cell_below hb b, cell_below hb c⟩, h.below.trans (hb.mono h.below.size)⟩
end Go.Proofs.YtpcdfficlheopaaGreatDoor
