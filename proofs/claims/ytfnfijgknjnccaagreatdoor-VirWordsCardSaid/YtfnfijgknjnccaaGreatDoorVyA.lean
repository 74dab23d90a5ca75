/-
  vir: the words of instructions of every kind (text only).
-/
import Derived.Test.YtfnfijgknjnccaaGreatDoorVxN
namespace Go.Proofs.YtfnfijgknjnccaaGreatDoor
open Go.RowKit Go.Sort
set_option maxRecDepth 100000
set_option maxHeartbeats 1000000
/-- A word: itself, or a number's. -/
abbrev SW := ByteArray ⊕ Int
def SW.val : SW → ByteArray
  | .inl b => b
  | .inr n => wordN n
def SW.val0 : SW → ByteArray
  | .inl b => b
  | .inr _ => ⟨#[48]⟩
theorem word_ne (n : Int) (hn : 0 ≤ n ∧ n ≤ 99999) (p : ByteArray) (h : numB p = false) : decide (wordN n = p) = decide ((⟨#[48]⟩ : ByteArray) = p) := by
  rw [decide_eq_false (fun e => by rw [← e, numB_word n hn] at h; cases h), decide_eq_false (fun e => by rw [← e] at h; revert h; decide +kernel)]
theorem opBad_word (n : Int) (hn : 0 ≤ n ∧ n ≤ 99999) : opBad (wordN n) = false := by
  have h := numB_word n hn
  have h2 : ∀ b : ByteArray, numB b = false → ((wordN n).toList == b.toList) = false := fun b hb => by
    rw [list_eq_dec, decide_eq_false]
    intro e
    rw [← e, h] at hb
    cases hb
  unfold opBad
  have e1 := h2 ⟨#[99, 111, 110, 115, 116]⟩ (by decide +kernel)
  have e2 := h2 ⟨#[99, 111, 112, 121]⟩ (by decide +kernel)
  have e3 := h2 ⟨#[108, 111, 97, 100]⟩ (by decide +kernel)
  have e4 := h2 ⟨#[99, 97, 108, 108]⟩ (by decide +kernel)
  rw [show (⟨#[99, 111, 110, 115, 116]⟩ : ByteArray).toList = [99, 111, 110, 115, 116] by decide +kernel] at e1
  rw [show (⟨#[99, 111, 112, 121]⟩ : ByteArray).toList = [99, 111, 112, 121] by decide +kernel] at e2
  rw [show (⟨#[108, 111, 97, 100]⟩ : ByteArray).toList = [108, 111, 97, 100] by decide +kernel] at e3
  rw [show (⟨#[99, 97, 108, 108]⟩ : ByteArray).toList = [99, 97, 108, 108] by decide +kernel] at e4
  rw [e1, e2, e3, e4]
  rfl
/-- To a part each number is as good as naught. -/
theorem getOk_num (p : ByteArray) (hp : (placeI p).isSome = true ∨ numB p = false) (n : Int) (hn : 0 ≤ n ∧ n ≤ 99999) : getOk p (wordN n) = getOk p ⟨#[48]⟩ := by
  have hi : In64 n := by unfold In64; omega
  unfold getOk
  by_cases h1 : p.toList = [78]
  · rw [if_pos h1, if_pos h1, intV_word n hi, decide_eq_true rfl]
    decide +kernel
  rw [if_neg h1, if_neg h1]
  by_cases h2 : p.toList = [78, 65, 77, 69]
  · rw [if_pos h2, if_pos h2]
  rw [if_neg h2, if_neg h2]
  by_cases h3 : p.toList = [79, 80]
  · rw [if_pos h3, if_pos h3, opBad_word n hn]
    decide +kernel
  rw [if_neg h3, if_neg h3]
  cases hs : (placeI p).isSome
  · rw [if_neg (by decide), if_neg (by decide)]
    exact word_ne n hn p (hp.resolve_left (by rw [hs]; decide))
  · rw [if_pos rfl, if_pos rfl, numB_word n hn]
    decide +kernel
theorem parts_num : ∀ f, f ∈ formsV → ∀ p, p ∈ partsOf f.line → (placeI p).isSome = true ∨ numB p = false := by decide +kernel
theorem getOk_val (f : FormV) (hf : f ∈ formsV) (p : ByteArray) (hp : p ∈ partsOf f.line) (s : SW) (hs : ∀ n, s = .inr n → 0 ≤ n ∧ n ≤ 99999) : getOk p s.val = getOk p s.val0 := by
  cases s with
  | inl b => rfl
  | inr n => exact getOk_num p (parts_num f hf p hp) n (hs n rfl)
def Fine (S : List SW) : Prop := ∀ n, Sum.inr n ∈ S → 0 ≤ n ∧ n ≤ 99999
theorem all_val (P : List ByteArray) (S : List SW) (h : ∀ p, p ∈ P → ∀ s, s ∈ S → getOk p s.val = getOk p s.val0) : ((P.zip (S.map SW.val)).all fun p => getOk p.1 p.2) = (P.zip (S.map SW.val0)).all fun p => getOk p.1 p.2 := by
  induction P generalizing S with
  | nil => simp
  | cons p P ih =>
    cases S with
    | nil => simp
    | cons s S =>
      simp only [List.map_cons, List.zip_cons_cons, List.all_cons]
      rw [h p (by simp) s (by simp), ih S (fun q hq t ht => h q (by simp [hq]) t (by simp [ht]))]
theorem rdW_val (S : List SW) (hS : Fine S) (q : FormV) (hq : q ∈ formsV) : rdW (S.map SW.val) q = rdW (S.map SW.val0) q := by
  unfold rdW readOk
  rw [all_val (partsOf q.line) S (fun p hp s hs => getOk_val q hq p hp s (fun n e => hS n (e ▸ hs)))]
  simp
/-- The test of a form that may fit, over words. -/
def sideB (ws : List ByteArray) (f : FormV) : Bool :=
  ((List.range (min (partsOf f.line).length ws.length)).all fun j => match (partsOf f.line)[j]?, ws[j]? with
    | some p, some x => !((((partsOf f.line).zip ws).take j).all fun p => getOk p.1 p.2) || (!(p.toList == [78, 65, 77, 69]) || decide (x = ⟨#[103, 111]⟩)) && (!(p.toList == [79, 80]) || (opBad x || decide (x = ⟨#[115, 104, 108]⟩) || decide (x = ⟨#[110, 111, 116]⟩)))
    | _, _ => true) && (!(((partsOf f.line).zip ws).all fun p => getOk p.1 p.2) || ((ws.drop (partsOf f.line).length).all numB && decide ((ws.drop (partsOf f.line).length).length ≤ 16)))
def fitsB (ws : List ByteArray) (f : FormV) : Bool := decide (f.least ≤ (ws.length : Int) - (partsOf f.line).length) && decide ((ws.length : Int) - (partsOf f.line).length ≤ f.most)
theorem val_of_val0 (s : SW) (b : ByteArray) (h : s.val0 = b) (hb : b ≠ ⟨#[48]⟩) : s.val = b := by
  cases s with
  | inl c => exact h
  | inr n => exact absurd h.symm hb
theorem nmGo_ok : IsName ⟨#[103, 111]⟩ := isName_of (by decide) (by decide) (by decide)
theorem nmShl_ok : IsName ⟨#[115, 104, 108]⟩ := isName_of (by decide) (by decide) (by decide)
theorem nmNot_ok : IsName ⟨#[110, 111, 116]⟩ := isName_of (by decide) (by decide) (by decide)
theorem take_zip_val (P : List ByteArray) (S : List SW) (j : Nat) (h : ∀ p, p ∈ P → ∀ s, s ∈ S → getOk p s.val = getOk p s.val0) : (((P.zip (S.map SW.val)).take j).all fun p => getOk p.1 p.2) = ((P.zip (S.map SW.val0)).take j).all fun p => getOk p.1 p.2 := by
  have e1 : (P.zip (S.map SW.val)).take j = (P.take j).zip ((S.take j).map SW.val) := by unfold List.zip; rw [List.take_zipWith, List.map_take]
  have e2 : (P.zip (S.map SW.val0)).take j = (P.take j).zip ((S.take j).map SW.val0) := by unfold List.zip; rw [List.take_zipWith, List.map_take]
  rw [e1, e2]
  exact all_val _ _ fun p hp s hs => h p (List.mem_of_mem_take hp) s (List.mem_of_mem_take hs)
theorem side_val (S : List SW) (hS : Fine S) (q : FormV) (hq : q ∈ formsV) (h : sideB (S.map SW.val0) q = true) : SideOk (S.map SW.val) q := by
  have hval : ∀ p, p ∈ partsOf q.line → ∀ s, s ∈ S → getOk p s.val = getOk p s.val0 := fun p hp s hs => getOk_val q hq p hp s (fun n e => hS n (e ▸ hs))
  unfold sideB at h
  rw [Bool.and_eq_true] at h
  obtain ⟨h1, h2⟩ := h
  rw [List.all_eq_true] at h1
  have hget : ∀ (j : Nat) (p : ByteArray × ByteArray), ((partsOf q.line).zip (S.map SW.val))[j]? = some p → (∀ r, r ∈ ((partsOf q.line).zip (S.map SW.val)).take j → getOk r.1 r.2 = true) → ∃ s : SW, p.2 = s.val ∧ ((!(p.1.toList == [78, 65, 77, 69]) || decide (s.val0 = ⟨#[103, 111]⟩)) && (!(p.1.toList == [79, 80]) || (opBad s.val0 || decide (s.val0 = ⟨#[115, 104, 108]⟩) || decide (s.val0 = ⟨#[110, 111, 116]⟩)))) = true ∧ s ∈ S := fun j p hj hall => by
    rw [List.getElem?_zip_eq_some] at hj
    obtain ⟨hj1, hj2⟩ := hj
    rw [List.getElem?_map] at hj2
    cases hs : S[j]? with
    | none => rw [hs] at hj2; cases hj2
    | some s =>
      rw [hs] at hj2
      have hp2 : s.val = p.2 := Option.some.inj hj2
      have hl1 := (List.getElem?_eq_some_iff.1 hj1).1
      have hl2 := (List.getElem?_eq_some_iff.1 hs).1
      have h3 := h1 j (List.mem_range.2 (by rw [List.length_map]; omega))
      rw [hj1, List.getElem?_map, hs] at h3
      simp only [Option.map_some] at h3
      have hall' : ((((partsOf q.line).zip (S.map SW.val0)).take j).all fun p => getOk p.1 p.2) = true := by
        rw [← take_zip_val _ _ _ hval, List.all_eq_true]
        exact hall
      rw [hall'] at h3
      exact ⟨s, hp2.symm, by simpa using h3, List.mem_of_getElem? hs⟩
  refine ⟨fun j p hj hall hp => ?_, fun j p hj hall hp hop => ?_, fun hall => ?_⟩
  · obtain ⟨s, e, h3, _⟩ := hget j p hj hall
    rw [hp] at h3
    have h4 : s.val0 = ⟨#[103, 111]⟩ := by simpa using h3
    rw [e, val_of_val0 s _ h4 (by decide)]
    exact nmGo_ok
  · obtain ⟨s, e, h3, hm⟩ := hget j p hj hall
    rw [hp] at h3
    have hb : opBad s.val0 = false := by
      cases s with
      | inl b => rw [e] at hop; exact hop
      | inr n => exact (by decide +kernel : opBad ⟨#[48]⟩ = false)
    rw [hb] at h3
    have h4 : s.val0 = ⟨#[115, 104, 108]⟩ ∨ s.val0 = ⟨#[110, 111, 116]⟩ := by simpa using h3
    rcases h4 with h4 | h4
    · rw [e, val_of_val0 s _ h4 (by decide)]
      exact nmShl_ok
    · rw [e, val_of_val0 s _ h4 (by decide)]
      exact nmNot_ok
  · rw [all_val _ _ hval] at hall
    rw [hall] at h2
    simp only [Bool.not_true, Bool.false_or, Bool.and_eq_true, List.all_eq_true, decide_eq_true_eq] at h2
    obtain ⟨h5, h6⟩ := h2
    rw [← List.map_drop] at h5 h6 ⊢
    refine ⟨fun x hx => ?_, by rw [List.length_map] at h6 ⊢; exact h6⟩
    obtain ⟨s, hs, rfl⟩ := List.mem_map.1 hx
    have h7 := h5 s.val0 (List.mem_map.2 ⟨s, hs, rfl⟩)
    cases s with
    | inl b => exact h7
    | inr n => exact numB_word n (hS n (List.mem_of_mem_drop hs))
def chkW (ws : List ByteArray) (j : Nat) (f : FormV) : Bool :=
  rdW ws f && ((formsV.take j).all fun q => !rdW ws q) && ((formsV.take (j + 1)).all fun q => !fitsB ws q || sideB ws q)
theorem ws_ok (S : List SW) (hS : Fine S) (j : Nat) (f : FormV) (hf : formsV[j]? = some f) (h : chkW (S.map SW.val0) j f = true) (hb : ∀ b, Sum.inl b ∈ S → b.size ≤ 65536) (hl : S.length ≤ 100000) : WsOk (S.map SW.val) j f := by
  unfold chkW at h
  simp only [Bool.and_eq_true, List.all_eq_true] at h
  obtain ⟨⟨h1, h2⟩, h3⟩ := h
  refine ⟨hf, by rw [rdW_val S hS f (List.mem_of_getElem? hf)]; exact h1, fun q hq => ?_, fun q hq hfit => ?_, fun x hx => ?_, by rw [List.length_map]; exact hl⟩
  · have := h2 q hq
    rw [rdW_val S hS q (List.mem_of_mem_take hq)]
    simpa using this
  · have := h3 q hq
    have hfb : fitsB (S.map SW.val0) q = true := by
      unfold fitsB
      unfold fitsC at hfit
      rw [List.length_map] at hfit ⊢
      rw [decide_eq_true hfit.1, decide_eq_true hfit.2]
      rfl
    rw [hfb] at this
    exact side_val S hS q (List.mem_of_mem_take hq) (by simpa using this)
  · obtain ⟨s, hs, rfl⟩ := List.mem_map.1 hx
    cases s with
    | inl b => exact hb b hs
    | inr n =>
      have hn := hS n hs
      have := word_size n (by unfold In64; omega)
      show (wordN n).size ≤ 65536
      omega
/-- A text of such words. -/
theorem tx_ok (S : List SW) (hS : Fine S) (j : Nat) (f : FormV) (hf : formsV[j]? = some f) (h : chkW (S.map SW.val0) j f = true) (hb : ∀ b, Sum.inl b ∈ S → b.size ≤ 20 ∧ NoB 32 b ∧ NoB 10 b) (hl : S.length ≤ 10) (h0 : S ≠ []) : TxOk ⟨⟨#[102]⟩, [], [], ⟨#[103]⟩, S.map SW.val, j, f⟩ := by
  refine ⟨nmF_ok, nmG_ok, fun x hx => (by cases hx), fun x hx => (by cases hx), by show 0 ≤ 500; omega, by show 0 ≤ 16; omega, ws_ok S hS j f hf h (fun b hb' => by have := (hb b hb').1; omega) (by omega), by simpa using h0, fun x hx => ?_, ?_⟩
  · obtain ⟨s, hs, rfl⟩ := List.mem_map.1 hx
    cases s with
    | inl b => exact (hb b hs).2
    | inr n => exact word_nob n
  · have := join_len (S.map SW.val) 21 (fun x hx => by
      obtain ⟨s, hs, rfl⟩ := List.mem_map.1 hx
      cases s with
      | inl b => have := (hb b hs).1; show b.size ≤ 21; omega
      | inr n => exact word_size n (by have := hS n hs; unfold In64; omega))
    rw [List.length_map] at this
    show (joinSp (S.map SW.val)).length ≤ 40000
    have h2 : S.length * (21 + 1) ≤ 10 * (21 + 1) := Nat.mul_le_mul_right _ hl
    omega
/-- It is written down in the form that it is read in. -/
theorem good_of {y : InsX} {f : FormV} {ws : List ByteArray} (hk : f.k = y.1.k) (hw : wordsX (partsOf f.line) y.1 y.2 = ws) (hr : rdW ws f = true) (hs : strip y = yS ws f) : goodF y.1 y.2 f = true := by
  obtain ⟨⟨k, d, a, b, n, nm, sa, sn, sc, t, g⟩, l⟩ := y
  dsimp only at hk hw
  subst hk
  unfold goodF rdF yF
  dsimp only
  rw [hw]
  have hr' : readOk (partsOf f.line) ws f.least f.most = true := hr
  rw [hr']
  unfold yS yW at hs
  generalize foldX (insZ f.k (d0F f.k)) (partsOf f.line) ws = z at hs ⊢
  obtain ⟨k2, d2, a2, b2, n2, nm2, sa2, sn2, sc2, t2, g2⟩ := z
  simp only [strip, Prod.mk.injEq, InsV.mk.injEq, true_and] at hs
  obtain ⟨⟨rfl, rfl, rfl, rfl, rfl, rfl, rfl, rfl⟩, _⟩ := hs
  simp [sameB]
end Go.Proofs.YtfnfijgknjnccaaGreatDoor
