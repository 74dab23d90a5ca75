/-
  vir's words of a const (text only).
-/
import Derived.Test.YtfnfijgknjnccaaGreatDoorVwP
namespace Go.Proofs.YtfnfijgknjnccaaGreatDoor
open Go.RowKit Go.Sort
theorem parts_const : partsOf ⟨#[68, 32, 61, 32, 99, 111, 110, 115, 116, 32, 78]⟩ = [⟨#[68]⟩, ⟨#[61]⟩, ⟨#[99, 111, 110, 115, 116]⟩, ⟨#[78]⟩] := by decide +kernel
theorem getOk_d (s : ByteArray) : getOk ⟨#[68]⟩ s = numB s := by
  unfold getOk
  rw [if_neg (by decide +kernel), if_neg (by decide +kernel), if_neg (by decide +kernel), if_pos (by decide +kernel)]
theorem getOk_n (s : ByteArray) : getOk ⟨#[78]⟩ s = decide (wordN (intV s) = s) := by
  unfold getOk
  rw [if_pos (by decide +kernel)]
theorem getX_d (x : InsV) (s : ByteArray) : getX x ⟨#[68]⟩ s = { x with d := intV s } := by
  unfold getX
  rw [if_neg (by decide +kernel), if_neg (by decide +kernel), if_neg (by decide +kernel), if_pos (by decide +kernel)]
theorem getX_n (x : InsV) (s : ByteArray) : getX x ⟨#[78]⟩ s = { x with n := intV s } := by
  unfold getX
  rw [if_pos (by decide +kernel)]
theorem putX_at {x : InsV} {p : ByteArray} {i : Nat} (h : placeI p = some i) : putX x p = wordN (x.num i) := by
  unfold putX
  rw [h]
theorem putX_self {x : InsV} {p : ByteArray} (h : placeI p = none) (h2 : (p.toList == [78, 65, 77, 69] || p.toList == [79, 80]) = false) : putX x p = p := by
  unfold putX
  rw [h]
  dsimp only
  rw [h2]
  rfl
theorem getX_self {x : InsV} {p s : ByteArray} (h : (p.toList = [78] ∨ p.toList = [78, 65, 77, 69] ∨ p.toList = [79, 80] ∨ p.toList = [68] ∨ p.toList = [65] ∨ p.toList = [66] ∨ p.toList = [84] ∨ p.toList = [70]) → False) : getX x p s = x := by
  simp only [not_or, imp_false] at h
  obtain ⟨h1, h2, h3, h4, h5, h6, h7, h8⟩ := h
  unfold getX
  rw [if_neg h1, if_neg h2, if_neg h3, if_neg h4, if_neg h5, if_neg h6, if_neg h7, if_neg h8]
/-- The words of a const. -/
theorem words_const (x : InsV) : wordsX (partsOf ⟨#[68, 32, 61, 32, 99, 111, 110, 115, 116, 32, 78]⟩) x [] = [wordN x.d, ⟨#[61]⟩, ⟨#[99, 111, 110, 115, 116]⟩, wordN x.n] := by
  rw [parts_const]
  unfold wordsX
  simp only [List.map_cons, List.map_nil, List.append_nil]
  rw [putX_at (p := ⟨#[68]⟩) (i := 1) (by decide +kernel), putX_at (p := ⟨#[78]⟩) (i := 4) (by decide +kernel), putX_self (p := ⟨#[61]⟩) (by decide +kernel) (by decide +kernel), putX_self (p := ⟨#[99, 111, 110, 115, 116]⟩) (by decide +kernel) (by decide +kernel)]
  rfl
/-- A const of a number is written down in its form. -/
theorem good_const (d n : Int) (hd : 0 ≤ d ∧ d ≤ 99999) (hn : In64 n) (a : Option Addr) (c : Nat) : goodF ⟨1, d, 0, 0, n, ⟨#[]⟩, a, 0, c, 0, 0⟩ [] ⟨1, ⟨#[68, 32, 61, 32, 99, 111, 110, 115, 116, 32, 78]⟩, 0, 0⟩ = true := by
  have hdi : In64 d := by unfold In64; omega
  unfold goodF rdF yF readOk foldX
  dsimp only
  rw [words_const, parts_const]
  simp only [List.zip_cons_cons, List.zip_nil_right, List.all_cons, List.all_nil, List.foldl_cons, List.foldl_nil]
  rw [getOk_d, getOk_n, numB_word d hd, intV_word n hn, getX_d, getX_n, getX_self (by decide +kernel), getX_self (by decide +kernel), intV_word d hdi, intV_word n hn]
  have e1 : getOk ⟨#[61]⟩ ⟨#[61]⟩ = true := by decide +kernel
  have e2 : getOk ⟨#[99, 111, 110, 115, 116]⟩ ⟨#[99, 111, 110, 115, 116]⟩ = true := by decide +kernel
  rw [e1, e2]
  simp [sameB, insZ, d0F]
end Go.Proofs.YtfnfijgknjnccaaGreatDoor
