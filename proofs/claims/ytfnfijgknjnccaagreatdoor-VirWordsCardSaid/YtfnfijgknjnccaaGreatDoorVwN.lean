/-
  vir's read of its own words.
-/
import Derived.Test.YtfnfijgknjnccaaGreatDoorVwM
namespace Go.Proofs.YtfnfijgknjnccaaGreatDoor
open Go.RowKit Go.Sort
theorem row_below {W W' : World} {base : Nat} {e : TypeId} {size : Nat} {v : Value} {k : Nat} {xs : List Value} (h : W.ownsRow base e size v k xs) (hb : Below W.heap.size W W') : W'.ownsRow base e size v k xs :=
  h.kept (grownBy_of_below hb) (by cases hv : v.ownBlock with | none => exact .inl rfl | some b => exact .inr (by simp))
theorem strsL_row {W : World} {base : Nat} {e : TypeId} {a : Option Addr} {c n : Nat} {l : List ByteArray} (h : W.ownsRow base e 1 (.slice a n c) n (l.map Value.string)) : StrsL W a l := fun j x hx => by
  have hj : j < l.length := (List.getElem?_eq_some_iff.1 hx).1
  have hl := h.1
  rw [List.length_map] at hl
  rcases h.2 with ⟨_, h0⟩ | ⟨g, cap, cur, hv, _⟩
  · omega
  · injection hv with ha _ _
    subst ha
    refine ⟨g, 0, rfl, ?_⟩
    rw [Nat.zero_add, h.cellAt j (by omega), List.getElem?_map, hx]
    rfl
theorem row_some {W : World} {base : Nat} {e : TypeId} {a : Option Addr} {c n : Nat} {xs : List Value} (h : W.ownsRow base e 1 (.slice a n c) n xs) (hn : 1 ≤ n) : ∃ g, a = some ⟨g, 0, none⟩ ∧ g < W.heap.size ∧ n ≤ c := by
  rcases h.2 with ⟨_, h0⟩ | ⟨g, cap, cur, hv, _, hg, hc, _⟩
  · omega
  · injection hv with ha _ h3
    subst ha
    subst h3
    exact ⟨g, rfl, (Array.getElem?_eq_some_iff.1 hg).1, hc⟩
def d0F (k : Int) : Int := if k = 6 then -1 else 0
theorem d0F_ok (k : Int) : k = 6 ∧ d0F k = -1 ∨ ¬ k = 6 ∧ d0F k = 0 := by
  unfold d0F
  by_cases h : k = 6
  · exact .inl ⟨h, by rw [if_pos h]⟩
  · exact .inr ⟨h, by rw [if_neg h]⟩
/-- What is read of an instruction's own words. -/
def yF (f : FormV) (x : InsV) (L : List Int) : InsV := foldX (insZ f.k (d0F f.k)) (partsOf f.line) (wordsX (partsOf f.line) x L)
def rdF (f : FormV) (x : InsV) (L : List Int) : Bool := readOk (partsOf f.line) (wordsX (partsOf f.line) x L) f.least f.most
/-- Is the instruction written down in that form? -/
def goodF (x : InsV) (L : List Int) (f : FormV) : Bool := decide (f.k = x.k) && (rdF f x L && sameB x L (yF f x L) L)
theorem read_own (f : FormV) (hf : f ∈ formsV) (x : InsV) (L : List Int) (hx : InsOk x L) (hk : f.k = x.k) {base g c : Nat} {W : World} (hE : EnvV W) (hrow : W.ownsRow base 9 1 (.slice (some ⟨g, 0, none⟩) ((partsOf f.line).length + L.length) c) ((partsOf f.line).length + L.length) ((wordsX (partsOf f.line) x L).map Value.string)) :
    Calls Tryz.prog 41 #[f.v, .slice (some ⟨g, 0, none⟩) ((partsOf f.line).length + L.length) c] W (ReadP W (rdF f x L) (yF f x L) (L.map wordN)) := by
  obtain ⟨n1, n2, n3, n4, n5⟩ := forms_name f hf
  have hlen := words_len (partsOf f.line) x L
  have hfew := hx.few
  obtain ⟨g', hg', hgs, hc⟩ := row_some hrow (by omega)
  cases hg'
  have hl := strsL_row hrow
  unfold rdF readOk yF
  rw [← words_drop (partsOf f.line) x L]
  rw [← hlen] at hc ⊢
  by_cases har : f.least ≤ ((wordsX (partsOf f.line) x L).length : Int) - (partsOf f.line).length ∧ ((wordsX (partsOf f.line) x L).length : Int) - (partsOf f.line).length ≤ f.most
  · rw [decide_eq_true har.1, decide_eq_true har.2, Bool.true_and, Bool.true_and]
    refine read_fits f (forms_asc f hf) (d0F_ok f.k) hE hl hgs hc (words_size hf hx) (by omega) (by omega) (fun j p hp _ hpn => ?_) (fun j p hp _ hpn hb => ?_) har (fun _ => ⟨fun y hy => ?_, ?_⟩)
    · obtain ⟨h1, h2⟩ := words_zip hp
      rw [h2, putX_nm (.inl hpn)]
      exact hx.name (by rw [← hk]; exact n1 _ h1 hpn)
    · obtain ⟨h1, h2⟩ := words_zip hp
      rw [h2, putX_nm (.inr hpn)] at hb ⊢
      exact hx.op (by rw [← hk]; exact n2 _ h1 hpn) hb
    · rw [words_drop] at hy
      obtain ⟨n, hn, rfl⟩ := List.mem_map.1 hy
      exact numB_word n (hx.args n hn)
    · rw [words_drop, List.length_map]
      exact hfew
  · have hfalse : (decide (f.least ≤ ((wordsX (partsOf f.line) x L).length : Int) - (partsOf f.line).length) && decide (((wordsX (partsOf f.line) x L).length : Int) - (partsOf f.line).length ≤ f.most)) = false := by
      rw [Bool.and_eq_false_iff, decide_eq_false_iff_not, decide_eq_false_iff_not]
      omega
    rw [hfalse, Bool.false_and]
    exact read_short f (forms_asc f hf) (d0F_ok f.k) hE (by omega) (by omega) (by omega)
end Go.Proofs.YtfnfijgknjnccaaGreatDoor
