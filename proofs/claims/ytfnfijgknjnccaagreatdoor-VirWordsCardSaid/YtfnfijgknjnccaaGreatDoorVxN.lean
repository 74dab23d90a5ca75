/-
  The text of a function of one block of one instruction (text only); the two of the laws.
-/
import Derived.Test.YtfnfijgknjnccaaGreatDoorVwW
import Derived.Test.YtfnfijgknjnccaaGreatDoorVwQ
import Derived.Test.YtfnfijgknjnccaaGreatDoorVxL
import Derived.Test.YtfnfijgknjnccaaGreatDoorVxM
namespace Go.Proofs.YtfnfijgknjnccaaGreatDoor
open Go.RowKit Go.Sort
set_option maxRecDepth 100000
theorem join_more (x : ByteArray) : ∀ r : List ByteArray, joinSp (x :: r) = x.data.toList ++ moreB r := by
  intro r
  induction r generalizing x with
  | nil => simp [joinSp, moreB]
  | cons y r ih =>
    unfold joinSp
    rw [ih y]
    simp [moreB]
theorem line_more (x : ByteArray) (r : List ByteArray) : lineB x r = joinSp (x :: r) ++ [10] := by
  rw [join_more]
  rfl
/-- The text of such a function. -/
theorem textF_one {f : FnV} {b : BlkV} {y : InsX} {t : TxV} (h1 : f.nm = t.nm) (h2 : f.vr = t.vr) (h3 : f.ps = t.ps) (h4 : f.res = t.rs) (hb : f.bl = [b]) (hy : b.l = [y]) (hw : wordsY y = t.ws) (h0 : t.ws ≠ []) : textF f = textOf t.lines := by
  unfold textF headT
  rw [hb]
  simp only [List.flatMap_cons, List.flatMap_nil, List.append_nil]
  unfold blkT
  rw [hy]
  simp only [List.flatMap_cons, List.flatMap_nil, List.append_nil]
  have hi : insT y = 32 :: 32 :: joinSp t.ws ++ [10] := by
    cases hws : t.ws with
    | nil => exact absurd hws h0
    | cons x r =>
      rw [insT_at (hw.trans hws)]
      unfold lineB
      rw [join_more]
      rfl
  rw [hi]
  simp only [line_more]
  unfold TxV.lines textOf lineW wFunc wRegs wParams wResult
  simp only [List.flatMap_cons, List.flatMap_nil, List.append_nil, txt_list, h1, h2, h3, h4]
  simp [joinSp, blockL, endL]
/-- What is laid of such a function. -/
def oneF (nm : ByteArray) (va : Option Addr) (vc : Nat) (vr : List ByteArray) (pa : Option Addr) (pc : Nat) (ps : List Int) (res : ByteArray) (ba : Option Addr) (bc : Nat) (ia : Option Addr) (ic : Nat) (y : InsX) : FnV := ⟨nm, va, vc, vr, pa, pc, ps, res, ba, bc, [⟨ia, ic, [y]⟩]⟩
theorem sameF_of {f g : FnV} {t : TxV} {b : BlkV} {y : InsX} (h : FnIs g t) (h1 : f.nm = t.nm) (h2 : f.vr = t.vr) (h3 : f.ps = t.ps) (h4 : f.res = t.rs) (hb : f.bl = [b]) (hy : b.l = [y]) (hs : strip y = yS t.ws t.f) : SameF f g := by
  obtain ⟨e1, e2, e3, e4, b', y', e5, e6, e7⟩ := h
  refine ⟨h1.trans e1.symm, h2.trans e2.symm, h3.trans e3.symm, h4.trans e4.symm, by rw [hb, e5]; rfl, fun j u v hu hv => ?_⟩
  rw [hb] at hu
  rw [e5] at hv
  have hj : j < 1 := (List.getElem?_eq_some_iff.1 hu).1
  obtain rfl : j = 0 := by omega
  cases hu
  cases hv
  rw [hy, e6]
  refine ⟨rfl, fun j u v hu hv => ?_⟩
  have hj : j < 1 := (List.getElem?_eq_some_iff.1 hu).1
  obtain rfl : j = 0 := by omega
  cases hu
  cases hv
  exact hs.trans e7.symm
theorem isName_of {s : ByteArray} (h : decide (0 < s.size ∧ s.size ≤ 20) = true) (hf : letterB (s.data.toList.headD 0).toNat = true) (ha : (s.data.toList.all fun c => inNameB c.toNat) = true) : IsName s := by
  have hh := of_decide_eq_true h
  refine ⟨hh.1, hh.2, ?_, fun c hc => List.all_eq_true.1 ha c hc⟩
  have hd : s.data.toList.headD 0 = s[0]'hh.1 := by
    have := drop_at s 0 hh.1
    rw [List.drop_zero] at this
    rw [this]; rfl
  rw [← hd]; exact hf
theorem nmF_ok : IsName ⟨#[102]⟩ := isName_of (by decide) (by decide) (by decide)
theorem nmG_ok : IsName ⟨#[103]⟩ := isName_of (by decide) (by decide) (by decide)
/-! A const. -/
def fC : FormV := ⟨1, ⟨#[68, 32, 61, 32, 99, 111, 110, 115, 116, 32, 78]⟩, 0, 0⟩
def wsC (d n : Int) : List ByteArray := [wordN d, ⟨#[61]⟩, ⟨#[99, 111, 110, 115, 116]⟩, wordN n]
def yC (d n : Int) : InsX := (⟨1, d, 0, 0, n, ⟨#[]⟩, none, 0, 0, 0, 0⟩, [])
def tC (d n : Int) : TxV := ⟨⟨#[102]⟩, [], [], ⟨#[103]⟩, wsC d n, 0, fC⟩
theorem rdW_c (d n : Int) (hd : 0 ≤ d ∧ d ≤ 99999) (hn : In64 n) : rdW (wsC d n) fC = true := by
  unfold rdW readOk wsC fC
  dsimp only
  rw [parts_const]
  simp only [List.zip_cons_cons, List.zip_nil_right, List.all_cons, List.all_nil]
  rw [getOk_d, getOk_n, numB_word d hd, intV_word n hn]
  have e1 : getOk ⟨#[61]⟩ ⟨#[61]⟩ = true := by decide +kernel
  have e2 : getOk ⟨#[99, 111, 110, 115, 116]⟩ ⟨#[99, 111, 110, 115, 116]⟩ = true := by decide +kernel
  rw [e1, e2]
  simp
theorem yS_c (d n : Int) (hd : 0 ≤ d ∧ d ≤ 99999) (hn : In64 n) : strip (yC d n) = yS (wsC d n) fC := by
  have hdi : In64 d := by unfold In64; omega
  unfold yS yW foldX wsC fC yC
  dsimp only
  rw [parts_const]
  simp only [List.zip_cons_cons, List.zip_nil_right, List.foldl_cons, List.foldl_nil]
  rw [getX_d, getX_n, getX_self (by decide +kernel), getX_self (by decide +kernel), intV_word d hdi, intV_word n hn]
  simp [strip, insZ, d0F]
theorem side_c (d n : Int) : SideOk (wsC d n) fC := by
  have hp : ∀ p, p ∈ (partsOf fC.line).zip (wsC d n) → p.1.toList = [68] ∨ p.1.toList = [61] ∨ p.1.toList = [99, 111, 110, 115, 116] ∨ p.1.toList = [78] := by
    intro p hp
    unfold fC wsC at hp
    dsimp only at hp
    rw [parts_const] at hp
    simp only [List.zip_cons_cons, List.zip_nil_right, List.mem_cons, List.not_mem_nil, or_false] at hp
    rcases hp with rfl | rfl | rfl | rfl
    · exact .inl (by show (⟨#[68]⟩ : ByteArray).toList = [68]; decide +kernel)
    · exact .inr (.inl (by show (⟨#[61]⟩ : ByteArray).toList = [61]; decide +kernel))
    · exact .inr (.inr (.inl (by show (⟨#[99, 111, 110, 115, 116]⟩ : ByteArray).toList = [99, 111, 110, 115, 116]; decide +kernel)))
    · exact .inr (.inr (.inr (by show (⟨#[78]⟩ : ByteArray).toList = [78]; decide +kernel)))
  refine ⟨fun j p hj _ hq => ?_, fun j p hj _ hq => ?_, fun _ => ?_⟩
  · rcases hp p (List.mem_of_getElem? hj) with h | h | h | h <;> rw [h] at hq <;> exact absurd hq (by decide)
  · rcases hp p (List.mem_of_getElem? hj) with h | h | h | h <;> rw [h] at hq <;> exact absurd hq (by decide)
  · have e : (wsC d n).drop (partsOf fC.line).length = [] := by
      unfold fC wsC
      dsimp only
      rw [parts_const]
      rfl
    rw [e]
    exact ⟨fun x hx => by simp at hx, by simp⟩
theorem word_size (n : Int) (h : In64 n) : (wordN n).size ≤ 21 := wordN_size n h.1 h.2
theorem mem_wsC {d n : Int} {x : ByteArray} (h : x ∈ wsC d n) : x = wordN d ∨ x = wordN n ∨ x = ⟨#[61]⟩ ∨ x = ⟨#[99, 111, 110, 115, 116]⟩ := by
  unfold wsC at h
  simp only [List.mem_cons, List.not_mem_nil, or_false] at h
  rcases h with h | h | h | h
  · exact .inl h
  · exact .inr (.inr (.inl h))
  · exact .inr (.inr (.inr h))
  · exact .inr (.inl h)
theorem tC_ok (d n : Int) (hd : 0 ≤ d ∧ d ≤ 99999) (hn : In64 n) : TxOk (tC d n) := by
  have hdi : In64 d := by unfold In64; omega
  have hsz : ∀ x, x ∈ wsC d n → x.size ≤ 21 := fun x hx => by
    rcases mem_wsC hx with rfl | rfl | rfl | rfl
    · exact word_size d hdi
    · exact word_size n hn
    · decide
    · decide
  refine ⟨nmF_ok, nmG_ok, fun x hx => (by cases hx), fun x hx => (by cases hx), by show 0 ≤ 500; omega, by show 0 ≤ 16; omega, ⟨rfl, rdW_c d n hd hn, fun q hq => (by cases hq), fun q hq _ => ?_, fun x hx => (by have := hsz x hx; omega), by show 4 ≤ 100000; omega⟩, by unfold tC wsC; simp, fun x hx => ?_, ?_⟩
  · have : q = fC := by simpa [tC, formsV, fC] using hq
    rw [this]
    exact side_c d n
  · rcases mem_wsC hx with rfl | rfl | rfl | rfl
    · exact word_nob d
    · exact word_nob n
    · exact ⟨by intro b hb; revert b; decide, by intro b hb; revert b; decide⟩
    · exact ⟨by intro b hb; revert b; decide, by intro b hb; revert b; decide⟩
  · have := join_len (wsC d n) 21 hsz
    have h4 : (wsC d n).length = 4 := rfl
    rw [h4] at this
    show (joinSp (wsC d n)).length ≤ 40000
    omega
theorem good_c (d n : Int) (hd : 0 ≤ d ∧ d ≤ 99999) (hn : In64 n) : goodF (yC d n).1 (yC d n).2 fC = true := good_const d n hd hn none 0
theorem words_c (d n : Int) (hd : 0 ≤ d ∧ d ≤ 99999) (hn : In64 n) : wordsY (yC d n) = wsC d n := by
  rw [wordsY_at (j := 0) (f := fC) rfl (good_c d n hd hn) (fun q hq => by simp at hq)]
  exact words_const _
theorem insB_c (d n : Int) (hd : 0 ≤ d ∧ d ≤ 99999) (hn : In64 n) : insB (yC d n) = true := any_yes (k := 0) (x := fC) rfl (good_c d n hd hn)
theorem insOk_c (d n : Int) (hd : 0 ≤ d ∧ d ≤ 99999) (hn : In64 n) : InsOk (yC d n).1 (yC d n).2 := by
  have hdi : In64 d := by unfold In64; omega
  have h0 : In64 0 := by unfold In64; omega
  exact ⟨⟨hdi, h0, h0, hn, h0, h0⟩, fun y hy => (by cases hy), by show 0 ≤ 16; omega, by show 0 ≤ 65536; omega, fun h => absurd h (by show ¬ (1 : Int) = 6; decide), fun h => absurd h (by show ¬ (1 : Int) = 3; decide)⟩
/-! A ret. -/
def fR : FormV := ⟨9, ⟨#[114, 101, 116, 32, 65]⟩, 0, 0⟩
def wsR : List ByteArray := [⟨#[114, 101, 116]⟩, ⟨#[48]⟩]
def yR : InsX := (⟨9, 0, 0, 0, 0, ⟨#[]⟩, none, 0, 0, 0, 0⟩, [])
def tR : TxV := ⟨⟨#[102]⟩, [⟨#[103]⟩], [0], ⟨#[103]⟩, wsR, 9, fR⟩
theorem text_r : textOf tR.lines = [102, 117, 110, 99, 32, 102, 10, 114, 101, 103, 115, 32, 103, 10, 112, 97, 114, 97, 109, 115, 32, 48, 10, 114, 101, 115, 117, 108, 116, 32, 103, 10, 98, 108, 111, 99, 107, 10, 32, 32, 114, 101, 116, 32, 48, 10, 101, 110, 100, 10] := by decide +kernel
theorem side_none {f : FormV} {ws : List ByteArray} (h1 : ∀ p, p ∈ (partsOf f.line).zip ws → p.1.toList ≠ [78, 65, 77, 69] ∧ p.1.toList ≠ [79, 80]) (h2 : ws.drop (partsOf f.line).length = []) : SideOk ws f :=
  ⟨fun j p hj _ hq => absurd hq (h1 p (List.mem_of_getElem? hj)).1, fun j p hj _ hq => absurd hq (h1 p (List.mem_of_getElem? hj)).2, fun _ => by rw [h2]; exact ⟨fun x hx => by simp at hx, by simp⟩⟩
deriving instance DecidableEq for FormV
def callNm : FormV := ⟨6, ⟨#[99, 97, 108, 108, 32, 78, 65, 77, 69]⟩, 0, 65536⟩
theorem side_r : ∀ q, q ∈ formsV.take 10 → fitsC wsR q → SideOk wsR q := by
  intro q hq hfit
  have hb : ∀ q, q ∈ formsV.take 10 → (decide (q.least ≤ (2 : Int) - (partsOf q.line).length) && decide ((2 : Int) - (partsOf q.line).length ≤ q.most)) = true → (((partsOf q.line).zip wsR).all (fun p => !(p.1.toList == [78, 65, 77, 69]) && !(p.1.toList == [79, 80])) && decide (wsR.length ≤ (partsOf q.line).length)) = true ∨ q = callNm := by decide +kernel
  rcases hb q hq (by rw [decide_eq_true (show q.least ≤ (2 : Int) - (partsOf q.line).length from hfit.1), decide_eq_true (show (2 : Int) - (partsOf q.line).length ≤ q.most from hfit.2)]; rfl) with h | rfl
  · rw [Bool.and_eq_true, List.all_eq_true] at h
    obtain ⟨h1, h2⟩ := h
    refine side_none (fun p hp => ?_) (List.drop_eq_nil_of_le (of_decide_eq_true h2))
    have := h1 p hp
    simp only [Bool.and_eq_true, Bool.not_eq_true', beq_eq_false_iff_ne] at this
    exact this
  · have hz : (partsOf callNm.line).zip wsR = [(⟨#[99, 97, 108, 108]⟩, ⟨#[114, 101, 116]⟩), (⟨#[78, 65, 77, 69]⟩, ⟨#[48]⟩)] := by decide +kernel
    have hg : getOk ⟨#[99, 97, 108, 108]⟩ ⟨#[114, 101, 116]⟩ = false := by decide +kernel
    have hc : (⟨#[99, 97, 108, 108]⟩ : ByteArray).toList = [99, 97, 108, 108] := by decide +kernel
    have hn : (⟨#[78, 65, 77, 69]⟩ : ByteArray).toList = [78, 65, 77, 69] := by decide +kernel
    refine ⟨fun j p hj hall hp => ?_, fun j p hj _ hp => ?_, fun hall => ?_⟩
    · rw [hz] at hj hall
      have hj2 : j < 2 := (List.getElem?_eq_some_iff.1 hj).1
      rcases (show j = 0 ∨ j = 1 by omega) with rfl | rfl
      · cases hj
        rw [show ((⟨#[99, 97, 108, 108]⟩, ⟨#[114, 101, 116]⟩) : ByteArray × ByteArray).1.toList = [99, 97, 108, 108] from hc] at hp
        exact absurd hp (by decide)
      · have := hall (⟨#[99, 97, 108, 108]⟩, ⟨#[114, 101, 116]⟩) (by simp)
        rw [hg] at this
        cases this
    · rw [hz] at hj
      have hj2 : j < 2 := (List.getElem?_eq_some_iff.1 hj).1
      rcases (show j = 0 ∨ j = 1 by omega) with rfl | rfl
      · cases hj
        rw [show ((⟨#[99, 97, 108, 108]⟩, ⟨#[114, 101, 116]⟩) : ByteArray × ByteArray).1.toList = [99, 97, 108, 108] from hc] at hp
        exact absurd hp (by decide)
      · cases hj
        rw [show ((⟨#[78, 65, 77, 69]⟩, ⟨#[48]⟩) : ByteArray × ByteArray).1.toList = [78, 65, 77, 69] from hn] at hp
        exact absurd hp (by decide)
    · rw [hz] at hall
      simp [hg] at hall
theorem tR_ok : TxOk tR :=
  ⟨nmF_ok, nmG_ok, fun x hx => (by obtain rfl : x = ⟨#[103]⟩ := by simpa [tR] using hx
                                   exact nmG_ok), fun x hx => (by obtain rfl : x = 0 := by simpa [tR] using hx
                                                                  omega), by decide, by decide, ⟨rfl, by decide +kernel, by decide +kernel, side_r, by decide +kernel, by decide⟩, by decide +kernel, (by
    intro x hx
    have h : x = ⟨#[114, 101, 116]⟩ ∨ x = ⟨#[48]⟩ := by simpa [tR, wsR] using hx
    rcases h with rfl | rfl
    · exact ⟨by intro b hb; revert b; decide, by intro b hb; revert b; decide⟩
    · exact ⟨by intro b hb; revert b; decide, by intro b hb; revert b; decide⟩), by decide +kernel⟩
theorem words_r : wordsY yR = wsR := by decide +kernel
theorem insB_r : insB yR = true := by decide +kernel
theorem insOk_r : InsOk yR.1 yR.2 := by
  have h0 : In64 0 := by unfold In64; omega
  exact ⟨⟨h0, h0, h0, h0, h0, h0⟩, fun y hy => (by cases hy), by decide, by decide, fun h => absurd h (by show ¬ (9 : Int) = 6; decide), fun h => absurd h (by show ¬ (9 : Int) = 3; decide)⟩
theorem yS_r : strip yR = yS wsR fR := by
  have h : yW wsR fR = ⟨9, 0, 0, 0, 0, ⟨#[]⟩, none, 0, 0, 0, 0⟩ := by
    unfold yW foldX
    have hz : (partsOf fR.line).zip wsR = [(⟨#[114, 101, 116]⟩, ⟨#[114, 101, 116]⟩), (⟨#[65]⟩, ⟨#[48]⟩)] := by decide +kernel
    rw [hz]
    simp only [List.foldl_cons, List.foldl_nil]
    rw [getX_self (p := ⟨#[114, 101, 116]⟩) (by decide +kernel)]
    have h0 : intV ⟨#[48]⟩ = 0 := by decide +kernel
    unfold getX
    rw [if_neg (by decide +kernel), if_neg (by decide +kernel), if_neg (by decide +kernel), if_neg (by decide +kernel), if_pos (by decide +kernel), h0]
    rfl
  have hd : wsR.drop (partsOf fR.line).length = [] := by decide +kernel
  unfold yS
  rw [h, hd]
  rfl
end Go.Proofs.YtfnfijgknjnccaaGreatDoor
