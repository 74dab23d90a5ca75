/-
  GeomRow: the registers side by side as a tree in memory; that Places tells them.
-/
import Derived.Test.YtgnnipnnnebpiaaGreatDoorRowA
namespace Go.Proofs.YtgnnipnnnebpiaaGreatDoor
open Go.RowKit Go.Shelf

/-- m registers side by side from the i-th on. -/
def rowL (width : Int) : Nat → Nat → RegL
  | 0, _ => .nil
  | m + 1, i => .cons (rowName i) width (i * width) (.slice none 0 0) .nil (rowL width m (i + 1))
theorem rowL_length (width : Int) : ∀ m i, (rowL width m i).length = m
  | 0, _ => rfl
  | m + 1, i => by simp [rowL, RegL.length, rowL_length width m (i + 1)]
theorem rowL_height (width : Int) : ∀ m i, (rowL width m i).height ≤ 1
  | 0, _ => Nat.zero_le _
  | m + 1, i => by have := rowL_height width m (i + 1); simp only [rowL, RegL.height]; omega
theorem rowCells_length (width : Int) : ∀ n, (rowCells width n).length = n * 4
  | 0 => rfl
  | n + 1 => by rw [rowCells_succ, List.length_append, rowCells_length width n]; simp [rowCell]; omega
theorem rowCells_get (width : Int) : ∀ n i c, i < n → c < 4 → (rowCells width n)[i * 4 + c]? = (rowCell width i)[c]?
  | 0, _, _, h, _ => absurd h (Nat.not_lt_zero _)
  | n + 1, i, c, hi, hc => by
    rw [rowCells_succ]
    by_cases h : i < n
    · rw [List.getElem?_append_left (by rw [rowCells_length]; omega), rowCells_get width n i c h hc]
    · obtain rfl : i = n := by omega
      rw [List.getElem?_append_right (by rw [rowCells_length]; omega), rowCells_length]
      congr 1; omega
theorem row_holds {W : World} {g n₀ n : Nat} {width : Int} (hg : g < n₀) (hc : ∀ j v, (rowCells width n)[j]? = some v → W.cell? ⟨g, j, none⟩ = some v) : ∀ m i, i + m ≤ n → HoldsAt n₀ W g (0 + i * 4) (rowL width m i)
  | 0, _, _ => trivial
  | m + 1, i, h => by
    have hr := fun c hc4 => rowCells_get width n i c (by omega) hc4
    refine ⟨hg, ⟨?_, ?_, ?_, ?_⟩, ?_, .inl ⟨rfl, rfl⟩⟩
    · rw [Nat.zero_add]; exact hc _ _ (hr 0 (by omega))
    · rw [Nat.zero_add]; exact hc _ _ (hr 1 (by omega))
    · rw [Nat.zero_add]; exact hc _ _ (hr 2 (by omega))
    · rw [Nat.zero_add]; exact hc _ _ (hr 3 (by omega))
    · have := row_holds hg hc m (i + 1) (by omega)
      rw [show 0 + (i + 1) * 4 = 0 + i * 4 + 4 by omega] at this; exact this

theorem rowName_ok : ∀ k, k < 16 → IsName (rowName k) ∧ NotWord (rowName k) := by
  have h : ∀ k : Fin 16, decide (0 < (rowName k).size ∧ (rowName k).size ≤ 20) = true ∧ letterB ((rowName k).data.toList.headD 0).toNat = true ∧ ((rowName k).data.toList.all fun c => inNameB c.toNat) = true ∧ (words.all fun x => !((rowName k).toList == x)) = true := by decide +kernel
  intro k hk
  obtain ⟨a, b, c, d⟩ := h ⟨k, hk⟩
  exact ⟨isName_of a b c, notWord_of d⟩
theorem rowNames_nodup (n : Nat) (hn : n ≤ 16) : ((⟨#[119, 105, 100, 101]⟩ : ByteArray) :: (List.range n).map rowName).Nodup := by
  have h : ((⟨#[119, 105, 100, 101]⟩ : ByteArray) :: (List.range 16).map rowName).Nodup := by decide +kernel
  refine List.Sublist.nodup ?_ h
  refine List.Sublist.cons_cons _ (List.Sublist.map _ ?_)
  have : List.range n = (List.range 16).take n := by rw [List.take_range, Nat.min_eq_left hn]
  rw [this]; exact List.take_sublist _ _

theorem rowSound (width : Int) (n : Nat) (hn : n ≤ 16) (h1 : 1 ≤ width) (h2 : width ≤ 64) (h3 : (n : Int) * width ≤ 64) : ∀ m i, i + m ≤ n → SoundIn (1 + 1) (0 + 0) 64 ((List.range i).map fun j => ⟨rowName j, width, (j : Int) * width, .slice none 0 0⟩) (rowL width m i)
  | 0, _, _ => trivial
  | m + 1, i, h => by
    obtain ⟨hN, hW⟩ := rowName_ok i (by omega)
    have e1 : ((i : Int) + 1) * width ≤ n * width := Int.mul_le_mul_of_nonneg_right (by omega) (by omega)
    have e2 : ((i : Int) + 1) * width = i * width + width := by rw [Int.add_mul, Int.one_mul]
    have e3 : (0 : Int) ≤ i * width := Int.mul_nonneg (by omega) (by omega)
    refine ⟨⟨hN, hW, by decide, by decide, by decide, e3, by omega, h1, h2, by decide, by omega, by simp; omega, fun r hr => ?_⟩, trivial, ?_⟩
    · obtain ⟨j, hj, rfl⟩ := List.mem_map.1 hr
      have hj' : j < i := List.mem_range.1 hj
      have f1 : ((j : Int) + 1) * width ≤ i * width := Int.mul_le_mul_of_nonneg_right (by omega) (by omega)
      have f2 : ((j : Int) + 1) * width = j * width + width := by rw [Int.add_mul, Int.one_mul]
      have f3 : (0 : Int) ≤ j * width := Int.mul_nonneg (by omega) (by omega)
      refine ⟨⟨f3, ?_, h1, ?_⟩, ?_⟩
      · show (j : Int) * width ≤ 500; omega
      · show width ≤ 1000; omega
      · show lapB (0 + 0 + (j : Int) * width) width (0 + 0 + (i : Int) * width) width = false
        unfold lapB; simp; omega
    · have := rowSound width n hn h1 h2 h3 m (i + 1) (by omega)
      rw [List.range_succ, List.map_append] at this
      exact this
theorem rowSmall (width : Int) (n : Nat) (h1 : 1 ≤ width) (h2 : width ≤ 64) (h3 : (n : Int) * width ≤ 64) : ∀ m i, i + m ≤ n → (rowL width m i).small
  | 0, _, _ => trivial
  | m + 1, i, h => by
    have e1 : (i : Int) * width ≤ n * width := Int.mul_le_mul_of_nonneg_right (by omega) (by omega)
    have e3 : (0 : Int) ≤ i * width := Int.mul_nonneg (by omega) (by omega)
    exact ⟨⟨e3, by omega, h1, h2⟩, trivial, rowSmall width n h1 h2 h3 m (i + 1) (by omega)⟩
theorem spots_row (width : Int) (deep root aAt aW : Int) (sv : Value) : ∀ m i, (spotsIn deep root aAt aW sv i (rowL width m i)).map (fun x => (x.name, x.place)) = (List.range' i m).map fun j => (rowName j, root, aAt + (j : Int) * width, width)
  | 0, _ => rfl
  | m + 1, i => by
    have := spots_row width deep root aAt aW sv m (i + 1)
    simp only [rowL, spotsIn, List.nil_append, List.map_cons, List.range'_succ]
    rw [this]; rfl
theorem placeCells_get {ps : List (Int × Int × Int)} : ∀ {i : Nat} {p : Int × Int × Int}, ps[i]? = some p → (placeCells ps)[i * 3]? = some (.int .i64 p.1) ∧ (placeCells ps)[i * 3 + 1]? = some (.int .i64 p.2.1) ∧ (placeCells ps)[i * 3 + 2]? = some (.int .i64 p.2.2) := by
  induction ps with
  | nil => intro i p h; simp at h
  | cons a ps ih =>
    intro i p h
    have e : placeCells (a :: ps) = [.int .i64 a.1, .int .i64 a.2.1, .int .i64 a.2.2] ++ placeCells ps := by simp [placeCells]
    cases i with
    | zero =>
      obtain rfl : a = p := by simpa using h
      rw [e]; exact ⟨rfl, rfl, rfl⟩
    | succ i =>
      obtain ⟨x, y, z⟩ := ih (i := i) (p := p) (by simpa using h)
      rw [e]
      refine ⟨?_, ?_, ?_⟩
      · rw [List.getElem?_append_right (by simp; omega), ← x]; congr 1; simp; omega
      · rw [List.getElem?_append_right (by simp; omega), ← y]; congr 1; simp; omega
      · rw [List.getElem?_append_right (by simp; omega), ← z]; congr 1; simp; omega
end Go.Proofs.YtgnnipnnnebpiaaGreatDoor
