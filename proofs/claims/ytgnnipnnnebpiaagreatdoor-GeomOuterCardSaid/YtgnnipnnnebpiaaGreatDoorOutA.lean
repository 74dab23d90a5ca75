/-
  GeomOuter: outer registers side by side, as a list in memory; which error there is.
-/
import Derived.Test.YtgnnipnnnebpiaaGreatDoorRowB
import Derived.Test.YtgnnipnnnebpiaaGreatDoorPanF
namespace Go.Proofs.YtgnnipnnnebpiaaGreatDoor
open Go.RowKit Go.Shelf

def digs3 : ByteArray := ⟨#[48, 49, 50, 51, 52, 53, 54, 55, 56, 57]⟩
/-- The name of the k-th register: 'r' and three digits. -/
def oname (k : Nat) : ByteArray := ((⟨#[114]⟩ ++ digs3.extract (k / 100) (k / 100 + 1)) ++ digs3.extract (k / 10 % 10) (k / 10 % 10 + 1)) ++ digs3.extract (k % 10) (k % 10 + 1)
def oCell (k : Nat) (a : Int) : List Value := [.string (oname k), .int .i64 a, .int .i64 0, .slice none 0 0]
/-- The cells of the registers of these widths, the first of which is the k-th. -/
def oCells : Nat → List Int → List Value
  | _, [] => []
  | k, a :: r => oCell k a ++ oCells (k + 1) r
theorem oCells_append : ∀ (A B : List Int) (k : Nat), oCells k (A ++ B) = oCells k A ++ oCells (k + A.length) B
  | [], B, k => by simp [oCells]
  | a :: A, B, k => by
    simp only [List.cons_append, oCells, oCells_append A B (k + 1), List.append_assoc, List.length_cons]
    rw [show k + 1 + A.length = k + (A.length + 1) by omega]
theorem oCells_succ {ws : List Int} {k : Nat} {a : Int} (h : ws[k]? = some a) : oCells 0 (ws.take (k + 1)) = oCells 0 (ws.take k) ++ oCell k a := by
  have hk : k < ws.length := (List.getElem?_eq_some_iff.1 h).1
  rw [List.take_add_one, h, oCells_append]
  simp [oCells, Nat.min_eq_left (Nat.le_of_lt hk)]

/-- The same as a tree. -/
def outL : Nat → List Int → RegL
  | _, [] => .nil
  | k, a :: r => .cons (oname k) a 0 (.slice none 0 0) .nil (outL (k + 1) r)
theorem outL_length : ∀ (ws : List Int) (k : Nat), (outL k ws).length = ws.length
  | [], _ => rfl
  | a :: r, k => by simp [outL, RegL.length, outL_length r (k + 1)]
theorem outL_height : ∀ (ws : List Int) (k : Nat), (outL k ws).height ≤ 1
  | [], _ => Nat.zero_le _
  | a :: r, k => by have := outL_height r (k + 1); simp only [outL, RegL.height]; omega
theorem outL_app : ∀ (A B : List Int) (a : Int) (k : Nat), outL k (A ++ a :: B) = (outL k A).app (.cons (oname (k + A.length)) a 0 (.slice none 0 0) .nil (outL (k + A.length + 1) B))
  | [], B, a, k => rfl
  | x :: A, B, a, k => by
    simp only [List.cons_append, outL, RegL.app, outL_app A B a (k + 1), List.length_cons]
    rw [show k + 1 + A.length = k + (A.length + 1) by omega]
theorem out_holds {W : World} {g n₀ : Nat} (hg : g < n₀) : ∀ (ws : List Int) (k o : Nat), (∀ j v, (oCells k ws)[j]? = some v → W.cell? ⟨g, o + j, none⟩ = some v) → HoldsAt n₀ W g o (outL k ws)
  | [], _, _, _ => trivial
  | a :: r, k, o, hc => by
    refine ⟨hg, ⟨hc 0 _ rfl, hc 1 _ rfl, hc 2 _ rfl, hc 3 _ rfl⟩, out_holds hg r (k + 1) (o + 4) (fun j v hj => ?_), .inl ⟨rfl, rfl⟩⟩
    have := hc (4 + j) v (by
      show (oCell k a ++ oCells (k + 1) r)[4 + j]? = some v
      rw [List.getElem?_append_right (by simp [oCell])]
      simpa [oCell] using hj)
    rw [show o + 4 + j = o + (4 + j) by omega]; exact this

/-- Widths that may be. -/
def RightW (ws : List Int) : Prop := ∀ a, a ∈ ws → 1 ≤ a ∧ a ≤ 64
theorem RightW.head {a : Int} {r : List Int} (h : RightW (a :: r)) : 1 ≤ a ∧ a ≤ 64 := h a (by simp)
theorem RightW.tail {a : Int} {r : List Int} (h : RightW (a :: r)) : RightW r := fun x hx => h x (by simp [hx])

theorem oname_ok : ∀ k, k < 220 → IsName (oname k) ∧ NotWord (oname k) := by
  have h : ∀ k : Fin 220, decide (0 < (oname k).size ∧ (oname k).size ≤ 20) = true ∧ letterB ((oname k).data.toList.headD 0).toNat = true ∧ ((oname k).data.toList.all fun c => inNameB c.toNat) = true ∧ (words.all fun x => !((oname k).toList == x)) = true := by decide +kernel
  intro k hk
  obtain ⟨a, b, c, d⟩ := h ⟨k, hk⟩
  exact ⟨isName_of a b c, notWord_of d⟩
theorem onames_nodup (n : Nat) (hn : n ≤ 220) : ((List.range n).map oname).Nodup := by
  have h : ((List.range 220).map oname).Nodup := by decide +kernel
  refine List.Sublist.nodup (List.Sublist.map _ ?_) h
  have : List.range n = (List.range 220).take n := by rw [List.take_range, Nat.min_eq_left hn]
  rw [this]; exact List.take_sublist _ _

theorem outSmall : ∀ (ws : List Int) (k : Nat), RightW ws → (outL k ws).small
  | [], _, _ => trivial
  | a :: r, k, h => ⟨⟨by decide, by decide, h.head.1, h.head.2⟩, trivial, outSmall r (k + 1) h.tail⟩
theorem outSound : ∀ (ws : List Int) (k : Nat), RightW ws → k + ws.length ≤ 220 → SoundOut (outL k ws)
  | [], _, _, _ => trivial
  | a :: r, k, h, hk => by
    simp only [List.length_cons] at hk
    obtain ⟨hN, hW⟩ := oname_ok k (by omega)
    have ha := h.head
    exact ⟨lap_none hN hW ⟨by decide, by decide, by decide, by decide, by decide, ha.1, ha.2, by omega, by omega⟩, trivial, outSound r (k + 1) h.tail (by omega)⟩

/-- What is told of the registers. -/
def outSpots : Nat → List Int → List Spot
  | _, [] => []
  | k, a :: r => ⟨oname k, a, 0, .slice none 0 0, 1, k, 0, a, .slice none 0 0⟩ :: outSpots (k + 1) r
theorem spots_outL : ∀ (ws : List Int) (k : Nat), spotsOut k (outL k ws) = outSpots k ws
  | [], _ => rfl
  | a :: r, k => by simp only [outL, spotsOut, spotsIn, outSpots, spots_outL r (k + 1), List.cons_append, List.nil_append]
theorem outSpots_length : ∀ (ws : List Int) (k : Nat), (outSpots k ws).length = ws.length
  | [], _ => rfl
  | a :: r, k => by simp [outSpots, outSpots_length r (k + 1)]
theorem outSpots_names : ∀ (ws : List Int) (k : Nat), (outSpots k ws).map (·.name) = (List.range' k ws.length).map oname
  | [], _ => rfl
  | a :: r, k => by simp only [outSpots, List.map_cons, outSpots_names r (k + 1), List.length_cons, List.range'_succ]
theorem outSpots_get : ∀ (ws : List Int) (k i : Nat) (a : Int), ws[i]? = some a → ((outSpots k ws).map Spot.place)[i]? = some (((k + i : Nat) : Int), 0, a)
  | [], _, _, _, h => by simp at h
  | x :: r, k, i, a, h => by
    cases i with
    | zero =>
      obtain rfl : x = a := by simpa using h
      rfl
    | succ i =>
      have := outSpots_get r (k + 1) i a (by simpa using h)
      rw [show k + 1 + i = k + (i + 1) by omega] at this
      simpa [outSpots] using this
theorem oname_new (ws : List Int) (h : ws.length < 220) : oname ws.length ∉ (outSpots 0 ws).map (·.name) := by
  have := onames_nodup (ws.length + 1) (by omega)
  rw [List.range_succ, List.map_append, List.nodup_append] at this
  rw [outSpots_names, ← List.range_eq_range']
  exact fun hm => this.2.2 _ hm _ (by simp) rfl

/-- The first error that there is. -/
def verdict : Nat → List Int → Int
  | _, [] => 0
  | k, a :: r => if 200 ≤ k then 2 else if a < 1 ∨ 64 < a then 6 else verdict (k + 1) r
theorem verdict_cases : ∀ (ws : List Int) (k : Nat), k ≤ 200 → (verdict k ws = 0 ∧ RightW ws ∧ k + ws.length ≤ 200) ∨
    ∃ A a B, ws = A ++ a :: B ∧ RightW A ∧ ((verdict k ws = 2 ∧ k + A.length = 200) ∨ (verdict k ws = 6 ∧ k + A.length < 200 ∧ (a < 1 ∨ (¬ a < 1 ∧ 64 < a))))
  | [], k, h => .inl ⟨rfl, fun a ha => (by simp at ha), by simpa using h⟩
  | x :: r, k, h => by
    by_cases hk : 200 ≤ k
    · exact .inr ⟨[], x, r, rfl, fun a ha => (by simp at ha), .inl ⟨by simp [verdict, hk], by simp; omega⟩⟩
    by_cases hx : x < 1 ∨ 64 < x
    · exact .inr ⟨[], x, r, rfl, fun a ha => (by simp at ha), .inr ⟨by simp [verdict, hk, hx], by simp; omega, by omega⟩⟩
    have hv : verdict k (x :: r) = verdict (k + 1) r := by simp [verdict, hk, hx]
    have hrx : 1 ≤ x ∧ x ≤ 64 := by omega
    rcases verdict_cases r (k + 1) (by omega) with ⟨h1, h2, h3⟩ | ⟨A, a, B, rfl, h2, h3⟩
    · refine .inl ⟨by rw [hv, h1], fun a ha => ?_, by simp; omega⟩
      rcases List.mem_cons.1 ha with rfl | ha
      · exact hrx
      · exact h2 a ha
    · refine .inr ⟨x :: A, a, B, rfl, fun y hy => ?_, ?_⟩
      · rcases List.mem_cons.1 hy with rfl | hy
        · exact hrx
        · exact h2 y hy
      · rw [hv]; simp only [List.length_cons]
        rcases h3 with ⟨h4, h5⟩ | ⟨h4, h5, h6⟩
        · exact .inl ⟨h4, by omega⟩
        · exact .inr ⟨h4, by omega, h6⟩
end Go.Proofs.YtgnnipnnnebpiaaGreatDoor
