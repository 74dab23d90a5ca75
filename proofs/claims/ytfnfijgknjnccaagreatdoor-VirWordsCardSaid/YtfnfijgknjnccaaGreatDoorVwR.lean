/-
  Words in a line, lines in a text (text only).
-/
import Derived.Lib.SplitLaws
import Derived.Lib.IndexBytes
namespace Go.Proofs.YtfnfijgknjnccaaGreatDoor
open Go.Lib
/-- Words with a blank between. -/
def joinSp : List ByteArray → List UInt8
  | [] => []
  | [x] => x.data.toList
  | x :: y :: r => x.data.toList ++ 32 :: joinSp (y :: r)
def NoB (c : UInt8) (s : ByteArray) : Prop := ∀ b, b ∈ s.data.toList → b ≠ c
theorem index_word (c : UInt8) : ∀ (l : List UInt8) (r : List UInt8), (∀ b, b ∈ l → b ≠ c) → index (l ++ c :: r) [c] = l.length
  | [], r, _ => by unfold index; simp
  | b :: l, r, h => by
    have hb := h b (by simp)
    have ih := index_word c l r (fun d hd => h d (by simp [hd]))
    rw [List.cons_append]
    unfold index
    rw [ih, if_neg (by simp [List.isPrefixOf]; exact fun e => hb e.symm), if_neg (by simp)]
    simp
theorem index_noword (c : UInt8) : ∀ (l : List UInt8), (∀ b, b ∈ l → b ≠ c) → index l [c] = -1
  | [], _ => by unfold index; simp
  | b :: l, h => by
    have hb := h b (by simp)
    have ih := index_noword c l (fun d hd => h d (by simp [hd]))
    unfold index
    rw [ih, if_neg (by simp [List.isPrefixOf]; exact fun e => hb e.symm), if_pos (by simp)]
theorem count_join : ∀ (ws : List ByteArray), (∀ x, x ∈ ws → NoB 32 x) → (joinSp ws).count 32 = ws.length - 1
  | [], _ => rfl
  | [x], h => by
    unfold joinSp
    exact List.count_eq_zero.2 fun hm => h x (by simp) _ hm rfl
  | x :: y :: r, h => by
    have ih := count_join (y :: r) (fun z hz => h z (by simp at hz ⊢; exact .inr hz))
    have h0 : x.data.toList.count 32 = 0 := List.count_eq_zero.2 fun hm => h x (by simp) _ hm rfl
    unfold joinSp
    rw [List.count_append, List.count_cons, h0, ih]
    simp
theorem splitK_join : ∀ (ws : List ByteArray), ws ≠ [] → (∀ x, x ∈ ws → NoB 32 x) → splitK [32] 0 (ws.length - 1) (joinSp ws) = ws.map (·.data.toList)
  | [], h, _ => absurd rfl h
  | [x], _, _ => rfl
  | x :: y :: r, _, h => by
    have ih := splitK_join (y :: r) (by simp) (fun z hz => h z (by simp at hz ⊢; exact .inr hz))
    have hi := index_word 32 x.data.toList (joinSp (y :: r)) (h x (by simp))
    unfold joinSp
    show splitK [32] 0 (r.length + 1) _ = _
    unfold splitK
    rw [hi, if_neg (by simp)]
    simp only [Int.toNat_natCast, Nat.add_zero, List.take_left', List.length_singleton]
    rw [List.drop_append, List.drop_of_length_le (by omega), List.nil_append, show x.data.toList.length + 1 - x.data.toList.length = 1 by omega]
    simp only [List.drop_succ_cons, List.drop_zero, List.map_cons]
    simp only [List.length_cons, Nat.add_sub_cancel, List.map_cons] at ih
    rw [ih]
theorem bytes_back (b : ByteArray) : (⟨b.data.toList.toArray⟩ : ByteArray) = b := by
  obtain ⟨⟨a⟩⟩ := b
  rfl
theorem split_join (ws : List ByteArray) (h0 : ws ≠ []) (h : ∀ x, x ∈ ws → NoB 32 x) : splitB ⟨#[32]⟩ 0 (countB ⟨(joinSp ws).toArray⟩ ⟨#[32]⟩) ⟨(joinSp ws).toArray⟩ = ws := by
  have hc : countB ⟨(joinSp ws).toArray⟩ ⟨#[32]⟩ = ws.length - 1 := by
    show count _ _ = _
    rw [show (⟨#[32]⟩ : ByteArray).data.toList = [32] from rfl, count_one]
    simpa using count_join ws h
  rw [hc]
  have e := splitB_data ⟨#[32]⟩ 0 (ws.length - 1) ⟨(joinSp ws).toArray⟩
  rw [show (⟨#[32]⟩ : ByteArray).data.toList = [32] from rfl, show (⟨(joinSp ws).toArray⟩ : ByteArray).data.toList = joinSp ws by simp, splitK_join ws h0 h] at e
  have e2 := congrArg (List.map fun l : List UInt8 => (⟨l.toArray⟩ : ByteArray)) e
  rw [List.map_map, List.map_map] at e2
  simpa [Function.comp_def, bytes_back] using e2
theorem count_words (ws : List ByteArray) (h : ∀ x, x ∈ ws → NoB 32 x) : countB ⟨(joinSp ws).toArray⟩ ⟨#[32]⟩ = ws.length - 1 := by
  show count _ _ = _
  rw [show (⟨#[32]⟩ : ByteArray).data.toList = [32] from rfl, count_one]
  simpa using count_join ws h
/-- A line: what it says, and its end. -/
structure LineOk (x : ByteArray) : Prop where
  ends : ∃ l, x.data.toList = l ++ [10] ∧ ∀ b, b ∈ l → b ≠ 10
def textOf (ls : List ByteArray) : List UInt8 := ls.flatMap (·.data.toList)
theorem textOf_cons (x : ByteArray) (r : List ByteArray) : textOf (x :: r) = x.data.toList ++ textOf r := by simp [textOf]
theorem LineOk.index {x : ByteArray} (h : LineOk x) (r : List UInt8) : Go.Lib.indexByte (x.data.toList ++ r) 10 = (x.size : Int) - 1 := by
  obtain ⟨l, h1, h2⟩ := h.ends
  rw [← index_one, h1, List.append_assoc, List.singleton_append, index_word 10 l r h2]
  have : x.size = l.length + 1 := by
    show x.data.size = _
    rw [← Array.length_toList, h1]
    simp
  omega
theorem LineOk.pos {x : ByteArray} (h : LineOk x) : 1 ≤ x.size := by
  obtain ⟨l, h1, _⟩ := h.ends
  show 1 ≤ x.data.size
  rw [← Array.length_toList, h1]
  simp
end Go.Proofs.YtfnfijgknjnccaaGreatDoor
