/-
  VirWords: its instructions and its texts, one by one.
-/
import Derived.Test.YtfnfijgknjnccaaGreatDoorVyC
import Derived.Test.YtfnfijgknjnccaaGreatDoorVxO
namespace Go.Proofs.YtfnfijgknjnccaaGreatDoor
open Go.RowKit Go.Sort
set_option maxHeartbeats 4000000
set_option maxRecDepth 100000
theorem flat9 : ∀ (l : List InsX) (k i : Nat) (y : InsX), l[k]? = some y → i < 9 → (l.flatMap fun y => y.1.cells.toList)[k * 9 + i]? = y.1.cells[i]?
  | [], k, i, y, h, _ => by simp at h
  | y0 :: l, 0, i, y, h, hi => by
    simp only [List.getElem?_cons_zero, Option.some.injEq] at h
    subst h
    rw [List.flatMap_cons, List.getElem?_append_left (by show 0 * 9 + i < 9; omega), Nat.zero_mul, Nat.zero_add, Array.getElem?_toList]
  | y0 :: l, k + 1, i, y, h, hi => by
    rw [List.getElem?_cons_succ] at h
    have h9 : y0.1.cells.toList.length = 9 := rfl
    rw [List.flatMap_cons, List.getElem?_append_right (by rw [h9]; omega), h9, show (k + 1) * 9 + i - 9 = k * 9 + i by omega]
    exact flat9 l k i y h hi
/-- The law's instructions; N: where their arguments begin. -/
def ysW (N : Nat) (d a b : Int) : List InsX := [(⟨1, d, 0, 0, -a, ⟨#[]⟩, none, 0, 0, 0, 0⟩, []), (⟨2, d, a, 0, 0, ⟨#[]⟩, none, 0, 0, 0, 0⟩, []), (⟨3, d, 0, 0, 0, ⟨#[115, 104, 108]⟩, some ⟨N, 0, none⟩, 2, 2, 0, 0⟩, [a, b]), (⟨3, d, 0, 0, 0, ⟨#[110, 111, 116]⟩, some ⟨N + 1, 0, none⟩, 1, 1, 0, 0⟩, [a]), (⟨4, d, a, 0, 0, ⟨#[]⟩, none, 0, 0, 0, 0⟩, []), (⟨5, 0, a, b, 0, ⟨#[]⟩, none, 0, 0, 0, 0⟩, []), (⟨6, -1, 0, 0, 0, ⟨#[103, 111]⟩, none, 0, 0, 0, 0⟩, []), (⟨6, d, 0, 0, 0, ⟨#[103, 111]⟩, some ⟨N + 1 + 1, 0, none⟩, 3, 3, 0, 0⟩, [a, b, a]), (⟨7, 0, d, 0, 0, ⟨#[]⟩, none, 0, 0, a, b⟩, []), (⟨8, 0, 0, 0, 0, ⟨#[]⟩, none, 0, 0, a, 0⟩, []), (⟨9, 0, a, 0, 0, ⟨#[]⟩, none, 0, 0, 0, 0⟩, [])]
/-- The law's texts. -/
def wsW (m d a b : ByteArray) : List ByteArray := [d ++ ⟨#[32, 61, 32, 99, 111, 110, 115, 116, 32]⟩ ++ m, d ++ ⟨#[32, 61, 32, 99, 111, 112, 121, 32]⟩ ++ a, d ++ ⟨#[32, 61, 32, 115, 104, 108, 32]⟩ ++ a ++ ⟨#[32]⟩ ++ b, d ++ ⟨#[32, 61, 32, 110, 111, 116, 32]⟩ ++ a, d ++ ⟨#[32, 61, 32, 108, 111, 97, 100, 32]⟩ ++ a, ⟨#[115, 116, 111, 114, 101, 32]⟩ ++ a ++ ⟨#[32]⟩ ++ b, ⟨#[99, 97, 108, 108, 32, 103, 111]⟩, d ++ ⟨#[32, 61, 32, 99, 97, 108, 108, 32, 103, 111, 32]⟩ ++ a ++ ⟨#[32]⟩ ++ b ++ ⟨#[32]⟩ ++ a, ⟨#[98, 114, 32]⟩ ++ d ++ ⟨#[32]⟩ ++ a ++ ⟨#[32]⟩ ++ b, ⟨#[106, 117, 109, 112, 32]⟩ ++ a, ⟨#[114, 101, 116, 32]⟩ ++ a]
theorem pick_word {k d a b N : Nat} (hk : k < 11) (hd : d ≤ 99999) (ha : a ≤ 99999) (hb : b ≤ 99999) {X : World} (i1 : IntsL X (some ⟨N, 0, none⟩) [(a : Int), (b : Int)]) (i2 : IntsL X (some ⟨N + 1, 0, none⟩) [(a : Int)]) (i3 : IntsL X (some ⟨N + 1 + 1, 0, none⟩) [(a : Int), (b : Int), (a : Int)]) :
    ∃ (y : InsX) (s : ByteArray) (t : TxV), (ysW N d a b)[k]? = some y ∧ (wsW (wordN (-(a : Int))) (wordN d) (wordN a) (wordN b))[k]? = some s ∧ ShapeOk y t ∧ s.data.toList = joinSp t.ws ∧ IntsL X y.1.sa y.2 ∧ y.1.sn = y.2.length ∧ y.2.length ≤ 3 := by
  have hd' : (0 : Int) ≤ (d : Int) ∧ (d : Int) ≤ 99999 := by omega
  have ha' : (0 : Int) ≤ (a : Int) ∧ (a : Int) ≤ 99999 := by omega
  have hb' : (0 : Int) ≤ (b : Int) ∧ (b : Int) ≤ 99999 := by omega
  have hnil : ∀ o, IntsL X o [] := fun o j x hx => (by cases hx)
  have h11 : k = 0 ∨ k = 1 ∨ k = 2 ∨ k = 3 ∨ k = 4 ∨ k = 5 ∨ k = 6 ∨ k = 7 ∨ k = 8 ∨ k = 9 ∨ k = 10 := by omega
  rcases h11 with rfl | rfl | rfl | rfl | rfl | rfl | rfl | rfl | rfl | rfl | rfl
  · exact ⟨_, _, _, rfl, rfl, shape_c d (-(a : Int)) hd' (by unfold In64; omega), by simp [tC, wsC, joinSp], hnil _, rfl, by simp⟩
  · exact ⟨_, _, _, rfl, rfl, shape_1 hd' ha' hb' _ _ _, by simp [joinSp, SW.val], hnil _, rfl, by simp⟩
  · exact ⟨_, _, _, rfl, rfl, shape_2 hd' ha' hb' _ _ _, by simp [joinSp, SW.val], i1, rfl, by simp⟩
  · exact ⟨_, _, _, rfl, rfl, shape_3 hd' ha' hb' _ _ _, by simp [joinSp, SW.val], i2, rfl, by simp⟩
  · exact ⟨_, _, _, rfl, rfl, shape_4 hd' ha' hb' _ _ _, by simp [joinSp, SW.val], hnil _, rfl, by simp⟩
  · exact ⟨_, _, _, rfl, rfl, shape_5 hd' ha' hb' _ _ _, by simp [joinSp, SW.val], hnil _, rfl, by simp⟩
  · exact ⟨_, _, _, rfl, rfl, shape_6 hd' ha' hb' _ _ _, by simp [joinSp, SW.val], hnil _, rfl, by simp⟩
  · exact ⟨_, _, _, rfl, rfl, shape_7 hd' ha' hb' _ _ _, by simp [joinSp, SW.val], i3, rfl, by simp⟩
  · exact ⟨_, _, _, rfl, rfl, shape_8 hd' ha' hb' _ _ _, by simp [joinSp, SW.val], hnil _, rfl, by simp⟩
  · exact ⟨_, _, _, rfl, rfl, shape_9 hd' ha' hb' _ _ _, by simp [joinSp, SW.val], hnil _, rfl, by simp⟩
  · exact ⟨_, _, _, rfl, rfl, shape_10 hd' ha' hb' _ _ _, by simp [joinSp, SW.val], hnil _, rfl, by simp⟩
theorem word_neg (a : Nat) (h : a ≠ 0) : wordN (-(a : Int)) = ⟨#[45]⟩ ++ wordN (a : Int) := by
  apply txt_ext
  rw [wordN_list, Lib.itoa_neg a (by omega)]
  have e : (wordN (a : Int)).data.toList = Lib.decDigits a := by rw [wordN_list, Lib.itoa_nonneg]
  rw [← e]
  simp
theorem word_nil : wordN (-((0 : Nat) : Int)) = ⟨#[48]⟩ := by decide +kernel
def preW : ByteArray := ⟨#[102, 117, 110, 99, 32, 102, 10, 114, 101, 103, 115, 10, 112, 97, 114, 97, 109, 115, 10, 114, 101, 115, 117, 108, 116, 32, 103, 10, 98, 108, 111, 99, 107, 10, 32, 32]⟩
def postW : ByteArray := ⟨#[10, 101, 110, 100, 10]⟩
theorem text_w {t : TxV} {y : InsX} {s : ByteArray} (h : ShapeOk y t) (hs : s.data.toList = joinSp t.ws) : preW ++ s ++ postW = txt (textOf t.lines) := by
  apply txt_ext
  rw [txt_list]
  unfold TxV.lines textOf lineW wFunc wRegs wParams wResult preW postW
  rw [h.nm, h.vr, h.ps, h.rs]
  simp [joinSp, blockL, endL, txt_list, hs]
theorem size_w {t : TxV} {y : InsX} {s : ByteArray} (h : ShapeOk y t) (hs : s.data.toList = joinSp t.ws) : s.size ≤ 40000 := by
  have h1 := h.ok.lw
  rw [← hs, Array.length_toList] at h1
  exact h1
end Go.Proofs.YtfnfijgknjnccaaGreatDoor
