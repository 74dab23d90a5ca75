/-
  vir's Print: the text of a plain function.
-/
import Derived.Test.YtfnfijgknjnccaaGreatDoorVwU
import Derived.Test.YtfnfijgknjnccaaGreatDoorVwV
namespace Go.Proofs.YtfnfijgknjnccaaGreatDoor
open Go.RowKit Go.Sort
/-- The words of an instruction: those of its first form. -/
def wordsY (y : InsX) : List ByteArray := match formsV.find? (goodF y.1 y.2) with
  | some f => wordsX (partsOf f.line) y.1 y.2
  | none => []
theorem wordsY_at {y : InsX} {j : Nat} {f : FormV} (h1 : formsV[j]? = some f) (h2 : goodF y.1 y.2 f = true) (h3 : ∀ q, q ∈ formsV.take j → goodF y.1 y.2 q = false) : wordsY y = wordsX (partsOf f.line) y.1 y.2 := by
  have e : formsV.find? (goodF y.1 y.2) = some f := by
    rw [List.find?_eq_some_iff_append]
    obtain ⟨hlt, hj⟩ := List.getElem?_eq_some_iff.1 h1
    refine ⟨h2, formsV.take j, formsV.drop (j + 1), ?_, fun q hq => by rw [h3 q hq]; rfl⟩
    rw [← hj, List.getElem_cons_drop, List.take_append_drop]
  unfold wordsY
  rw [e]
def insT (y : InsX) : List UInt8 := match wordsY y with
  | [] => []
  | x :: r => lineB (⟨#[32, 32]⟩ ++ x) r
def blkT (b : BlkV) : List UInt8 := lineB ⟨#[98, 108, 111, 99, 107]⟩ [] ++ b.l.flatMap insT
def headT (f : FnV) : List UInt8 := lineB ⟨#[102, 117, 110, 99]⟩ [f.nm] ++ lineB ⟨#[114, 101, 103, 115]⟩ f.vr ++ lineB ⟨#[112, 97, 114, 97, 109, 115]⟩ (f.ps.map wordN) ++ lineB ⟨#[114, 101, 115, 117, 108, 116]⟩ [f.res]
def textF (f : FnV) : List UInt8 := headT f ++ f.bl.flatMap blkT ++ lineB ⟨#[101, 110, 100]⟩ []
theorem TxtAt.below {B b : Nat} {l : List UInt8} {w W : World} (h : TxtAt B b l w) (hb : Below w.heap.size w W) : TxtAt B b l W := by
  rcases h with ⟨h1, v, h2, h3, h4⟩ | ⟨h1, v, h2, h3, h4⟩
  · exact .inl ⟨h1, v, (hb.block b (Array.getElem?_eq_some_iff.1 h2).1).trans h2, row_below h3 hb, h4⟩
  · exact .inr ⟨h1, v, (hb.block b (Array.getElem?_eq_some_iff.1 h2).1).trans h2, row_below h3 hb, h4⟩
theorem TxtAt.lt {B b : Nat} {l : List UInt8} {w : World} (h : TxtAt B b l w) : b < w.heap.size := by
  rcases h with ⟨_, v, h2, _⟩ | ⟨_, v, h2, _⟩
  · exact (Array.getElem?_eq_some_iff.1 h2).1
  · exact (Array.getElem?_eq_some_iff.1 h2).1
theorem strs_cells {W : World} {k : Nat} {l : List ByteArray} (h : Cells W k 9 (l.map Value.string).toArray) : StrsL W (some ⟨k, 0, none⟩) l := fun j x hx =>
  ⟨k, 0, rfl, by rw [Nat.zero_add]; exact h.cell (by rw [List.getElem?_toArray, List.getElem?_map, hx]; rfl)⟩
theorem cells_txt {B b k : Nat} {w W : World} {t : TypeId} {cs : Array Value} (hC : Cells w k t cs) (ht : t ≠ 5) (hk : k ≠ b) (h : TxtKept B b w W) : Cells W k t cs :=
  h.2 k _ hC (fun e => hk (Option.some.inj e)) (fun c fz e => by cases e; exact ht rfl)
theorem strs_row_txt {base g n c B b : Nat} {w W : World} {l : List ByteArray} (h : w.ownsRow base 9 1 (.slice (some ⟨g, 0, none⟩) n c) n (l.map Value.string)) (hg : g ≠ b) (hk : TxtKept B b w W) : StrsL W (some ⟨g, 0, none⟩) l := fun j x hx => by
  obtain ⟨b1, o1, h1, h2⟩ := strsL_row h j x hx
  cases h1
  refine ⟨g, 0, rfl, ?_⟩
  rcases h.2 with ⟨hv, _⟩ | ⟨g', cap, cur, hv, _, hg', _⟩
  · cases hv
  · cases hv
    rw [World.cell?_of_block (w := w) (w' := W) ((hk.2 g _ hg' (fun e => hg (Option.some.inj e)) (fun c fz e => by cases e)).trans hg'.symm)]
    exact h2
theorem strs_tail {W : World} {b o : Nat} {x : ByteArray} {l : List ByteArray} (h : StrsL W (some ⟨b, o, none⟩) (x :: l)) : StrsL W (some ⟨b, o + 1, none⟩) l := fun j y hy => by
  obtain ⟨b1, o1, h1, h2⟩ := h (j + 1) y (by simpa using hy)
  cases h1
  exact ⟨b, o + 1, rfl, by rw [show o + 1 + j = o + (j + 1) by omega]; exact h2⟩
theorem flat_take {α : Type} (g : α → List UInt8) (l : List α) (k : Nat) (x : α) (h : l[k]? = some x) : (l.take (k + 1)).flatMap g = (l.take k).flatMap g ++ g x := by
  rw [List.take_add_one, h, List.flatMap_append]
  simp
theorem flat_le {α : Type} (g : α → List UInt8) (l : List α) (k : Nat) : ((l.take k).flatMap g).length ≤ (l.flatMap g).length := by
  have h : l.flatMap g = (l.take k).flatMap g ++ (l.drop k).flatMap g := by rw [← List.flatMap_append, List.take_append_drop]
  rw [h, List.length_append]
  omega
theorem kept_below {T : Nat} {w W V : World} (hB : Below w.heap.size w W) (hT : w.heap.size ≤ T) (h : TxtKept T T W V) : Below w.heap.size w V := hB.trans (h.1.mono hT)
theorem insB_ok {y : InsX} {w w' : World} {e : Ending} (hb : insB y = true) (h : WordsP w y.1 y.2 e w') : Below w.heap.size w w' ∧ ∃ x r g c, wordsY y = x :: r ∧ e = .returned (.slice (some ⟨g, 0, none⟩) (r.length + 1) c) ∧ r.length + 1 ≤ c ∧ w'.ownsRow w.heap.size 9 1 (.slice (some ⟨g, 0, none⟩) (r.length + 1) c) (r.length + 1) ((x :: r).map Value.string) := by
  obtain ⟨h1, h2⟩ := h
  refine ⟨h1, ?_⟩
  rcases h2 with ⟨j, f, a', c', hf, hg, hno, rfl, hrow⟩ | ⟨hno, _⟩
  · have hw := wordsY_at hf hg hno
    have hl := words_len (partsOf f.line) y.1 y.2
    have hp := (forms_name f (List.mem_of_getElem? hf)).2.2.2.2
    obtain ⟨g, rfl, _, hc⟩ := row_some hrow (by omega)
    cases hx : wordsX (partsOf f.line) y.1 y.2 with
    | nil => rw [hx] at hl; simp at hl; omega
    | cons x r =>
      rw [hx] at hl hrow hw
      rw [← hl] at hrow hc ⊢
      exact ⟨x, r, g, c', hw, rfl, hc, hrow⟩
  · unfold insB at hb
    rw [List.any_eq_true] at hb
    obtain ⟨q, hq, hg⟩ := hb
    rw [hno q hq] at hg
    cases hg
theorem insT_at {y : InsX} {x : ByteArray} {r : List ByteArray} (h : wordsY y = x :: r) : insT y = lineB (⟨#[32, 32]⟩ ++ x) r := by
  unfold insT
  rw [h]
theorem line_len (first : ByteArray) (more : List ByteArray) : (lineB first more).length = first.size + (moreB more).length + 1 := by
  unfold lineB
  rw [List.length_append, List.length_append, List.length_singleton, Array.length_toList]
  rfl
end Go.Proofs.YtfnfijgknjnccaaGreatDoor
