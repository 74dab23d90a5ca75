/-
  'x.f = append(x.f, ..)' behind a step that lays memory: what it leaves as it was.
-/
import Derived.Test.YtgnnipnnnebpiaaGreatDoorKeep
namespace Go.Proofs.YtgnnipnnnebpiaaGreatDoor
open Go.RowKit

theorem ownsRow_form {W : World} {base : Nat} {e : TypeId} {size : Nat} {v : Value} {k : Nat} {xs : List Value} (h : W.ownsRow base e size v k xs) : ∃ a cap, v = .slice a k cap := by
  rcases h.2 with ⟨rfl, h0⟩ | ⟨g, cap, _, rfl, _⟩
  · exact ⟨none, 0, by rw [h0]⟩
  · exact ⟨_, cap, rfl⟩
theorem ownsRow_block {W : World} {base : Nat} {e : TypeId} {size : Nat} {v : Value} {k : Nat} {xs : List Value} (h : W.ownsRow base e size v k xs) {g : Nat} (hg : v.ownBlock = some g) : base ≤ g ∧ ∃ cur, Cells W g e cur := by
  rcases h.2 with ⟨rfl, _⟩ | ⟨g', cap, cur, rfl, hb, hh, _⟩
  · simp [Value.ownBlock] at hg
  · obtain rfl : g' = g := by simpa [Value.ownBlock] using hg
    exact ⟨hb, cur, hh⟩
theorem ownsRow_below {W W' : World} {base : Nat} {e : TypeId} {size : Nat} {v : Value} {k : Nat} {xs : List Value} (h : W.ownsRow base e size v k xs) (hb : Below W.heap.size W W') : W'.ownsRow base e size v k xs :=
  h.kept (grownBy_of_below hb) (by
    cases hv : v.ownBlock with
    | none => exact .inl rfl
    | some b => exact .inr (by simp))
theorem Cells.set {W : World} {T j : Nat} {t : TypeId} {cs : Array Value} (h : Cells W T t cs) (v : Value) : Cells (W.setCell ⟨T, j, none⟩ v) T t (cs.setIfInBounds j v) := by
  obtain ⟨hlt, hk⟩ := Array.getElem?_eq_some_iff.1 h
  show (W.heap.modify T _)[T]? = _
  rw [Array.getElem?_eq_getElem (by rw [Array.size_modify]; exact hlt), Array.getElem_modify_self, hk]
  rfl
theorem grownBy_set (W : World) (b j : Nat) (v : Value) : W.grownBy (W.setCell ⟨b, j, none⟩ v) (some b) :=
  ⟨rfl, rfl, rfl, by rw [World.size_setCell]; exact Nat.le_refl _, fun k _ hk => Below.heap_setCell W ⟨b, j, none⟩ v k (fun e => hk (by rw [e]))⟩

structure Grown (base T j : Nat) (t e : TypeId) (size : Nat) (cs : Array Value) (v' : Value) (m : Nat) (ys : List Value) (W W7 : World) : Prop where
  cells : Cells W7 T t (cs.setIfInBounds j v')
  row : W7.ownsRow base e size v' m ys
  keeps : Keeps [T] W W7
  others : KeepsOthers W W7
  below : Below base W W7
  block : ∀ b t' cs', Cells W b t' cs' → b ≠ T → t' ≠ e → Cells W7 b t' cs'
  rows : ∀ e' size' v2 k2 xs2, W.ownsRow base e' size' v2 k2 xs2 → e' ≠ e → e' ≠ t → W7.ownsRow base e' size' v2 k2 xs2

theorem append_step {W W5 W6 : World} {T j : Nat} {t e : TypeId} {cs : Array Value} {size base k m : Nat} {v v' : Value} {xs ys : List Value} {tmp : Obj}
    (hT : Cells W T t cs) (hj : cs[j]? = some v) (hte : t ≠ e) (hbT : base ≤ T) (hB5 : Below W.heap.size W W5) (hrow : W.ownsRow base e size v k xs) (hown : W6.ownsRow base e size v' m ys)
    (hgrow : (W5.alloc tmp).grownBy W6 v.ownBlock) (hblk : v'.ownBlock = v.ownBlock ∨ v'.ownBlock = some (W5.alloc tmp).heap.size) : Grown base T j t e size cs v' m ys W (W6.setCell ⟨T, j, none⟩ v') := by
  have hT5 := hT.below hB5 hT.lt
  have hrow5 := ownsRow_below hrow hB5
  have hT6 : Cells W6 T t cs := (hT5.alloc tmp).kept hgrow (hT5.not_row hte hrow5)
  have hbase : base ≤ W.heap.size := Nat.le_trans hbT (Nat.le_of_lt hT.lt)
  have hgW : W.grownBy W6 v.ownBlock := by
    have h5 := grownBy_alloc_then hgrow
    exact ⟨h5.os.trans hB5.os, h5.tape.trans hB5.tape, h5.output.trans hB5.output, Nat.le_trans hB5.size h5.size, fun i hi hne => (h5.block i (Nat.lt_of_lt_of_le hi hB5.size) hne).trans (hB5.block i hi)⟩
  refine ⟨hT6.set v', ?_, (Keeps.of_below hB5).trans (keeps_append hT5 hj hte hrow5 hown hgrow hblk), ?_, ?_, ?_, ?_⟩
  · refine hown.kept (grownBy_set W6 T j v') ?_
    exact .inr (fun e' => (hT6.not_row hte hown) e'.symm)
  · refine ⟨by rw [World.size_setCell]; exact hgW.size, fun i o hi ho => ?_⟩
    have hne : i ≠ T := fun e' => by subst e'; rw [show W.heap[i]? = _ from hT] at hi; cases hi; cases ho
    rw [Below.heap_setCell W6 ⟨T, j, none⟩ v' i hne]
    refine (hgW.block i (lt_of_heap hi) (fun e' => ?_)).trans hi
    obtain ⟨_, cur, hc⟩ := ownsRow_block hrow e'.symm
    rw [show W.heap[i]? = _ from hc] at hi; cases hi; cases ho
  · exact ((Below.refl base W).grown hgW hbase (fun i e' => (ownsRow_block hrow e').1)).setCell (p := ⟨T, j, none⟩) hbT v'
  · intro b t' cs' hb hne hte'
    exact (hb.kept hgW (hb.not_row hte' hrow)).other hne v'
  · intro e' size' v2 k2 xs2 h2 hne1 hne2
    have h6 : W6.ownsRow base e' size' v2 k2 xs2 := by
      refine h2.kept hgW ?_
      cases hv : v2.ownBlock with
      | none => exact .inl rfl
      | some g =>
        refine .inr (fun e1 => ?_)
        obtain ⟨_, c2, hc2⟩ := ownsRow_block h2 hv
        obtain ⟨_, c1, hc1⟩ := ownsRow_block hrow e1.symm
        have h3 := (show W.heap[g]? = _ from hc1).symm.trans (show W.heap[g]? = _ from hc2)
        cases h3; exact hne1 rfl
    refine h6.kept (grownBy_set W6 T j v') ?_
    exact .inr (fun e1 => (hT6.not_row (Ne.symm hne2) h6) e1.symm)
end Go.Proofs.YtgnnipnnnebpiaaGreatDoor
