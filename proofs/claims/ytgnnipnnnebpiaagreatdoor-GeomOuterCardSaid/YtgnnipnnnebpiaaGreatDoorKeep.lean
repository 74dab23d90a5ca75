/-
  What the body of a loop over an iterator leaves as it was: every block of cells but those that the loop's owner holds (the blocks of Ts, and the arrays that slices in them stand over). Plain facts on worlds; nothing of the program.
-/
import Derived.RangeFuncNested
import Derived.RangeFuncBound
import Derived.RangeFuncCalls
import Derived.RangeFuncLeaves
import Derived.Below
import Derived.WalkSmall
namespace Go.Proofs.YtgnnipnnnebpiaaGreatDoor
open Go.RowKit

/-- The block holds just these cells, none of them frozen. -/
def Cells (W : World) (b : Nat) (t : TypeId) (cs : Array Value) : Prop := W.heap[b]? = some (.cells cs t (0, 0))
theorem Cells.new (W : World) (t : TypeId) (cs : Array Value) : Cells (W.alloc (.cells cs t)) W.heap.size t cs := World.alloc_heap_new W _
theorem Cells.cell {W : World} {b : Nat} {t : TypeId} {cs : Array Value} (h : Cells W b t cs) {j : Nat} {v : Value} (hj : cs[j]? = some v) : W.cell? ⟨b, j, none⟩ = some v := by
  unfold World.cell?; rw [show W.heap[b]? = _ from h]; exact hj
theorem Cells.frozen {W : World} {b : Nat} {t : TypeId} {cs : Array Value} (h : Cells W b t cs) (j : Nat) : W.frozen? ⟨b, j, none⟩ = false := by
  unfold World.frozen?; rw [show W.heap[b]? = _ from h]; simp
theorem Cells.lt {W : World} {b : Nat} {t : TypeId} {cs : Array Value} (h : Cells W b t cs) : b < W.heap.size := (Array.getElem?_eq_some_iff.1 h).1
theorem Cells.kept {W W' : World} {row : Option Nat} {b : Nat} {t : TypeId} {cs : Array Value} (h : Cells W b t cs) (hg : W.grownBy W' row) (hne : some b ≠ row) : Cells W' b t cs := (hg.block b h.lt hne).trans h
theorem Cells.alloc {W : World} {b : Nat} {t : TypeId} {cs : Array Value} (h : Cells W b t cs) (o : Obj) : Cells (W.alloc o) b t cs := h.kept (World.grownBy_alloc W o none) (by simp)
theorem Cells.below {W W' : World} {B b : Nat} {t : TypeId} {cs : Array Value} (h : Cells W b t cs) (hb : Below B W W') (hlt : b < B) : Cells W' b t cs := (hb.block b hlt).trans h
theorem Cells.other {W : World} {b T j : Nat} {t : TypeId} {cs : Array Value} (h : Cells W b t cs) (hne : b ≠ T) (v : Value) : Cells (W.setCell ⟨T, j, none⟩ v) b t cs := (Below.heap_setCell W ⟨T, j, none⟩ v b hne).trans h
theorem cells_own {β : Type} (b : Nat) (t : TypeId) (f : β → Array Value) : Own (fun s W => Cells W b t (f s)) := fun s X Y row hs hg hrow =>
  hs.kept hg (fun e' => by obtain ⟨o, ho, hc⟩ := hrow b e'.symm; rw [show X.heap[b]? = _ from hs] at ho; cases ho; cases hc)
theorem new_cell (W : World) (cs : Array Value) (t : TypeId) {j : Nat} {v : Value} (h : cs[j]? = some v) : (W.alloc (.cells cs t)).cell? ⟨W.heap.size, j, none⟩ = some v := (Cells.new W t cs).cell h
theorem new_cells (W : World) (cs : Array Value) (t : TypeId) (l : List Value) (h : cs.toList = l) : ∀ j u, l[j]? = some u → (W.alloc (.cells cs t)).cell? ((⟨W.heap.size, 0, none⟩ : Addr).add j) = some u := by
  intro j u hj
  have : ((⟨W.heap.size, 0, none⟩ : Addr).add j) = ⟨W.heap.size, j, none⟩ := by
    simp [Addr.add]; exact fun e => e.symm
  rw [this]
  exact new_cell W cs t (by rw [← hj, ← h]; simp)
theorem cell_alloc {W : World} {a : Addr} {v : Value} (o : Obj) (h : W.cell? a = some v) : (W.alloc o).cell? a = some v := cell_kept h (World.grownBy_alloc W o none) (fun r e => by cases e)

theorem cell_drewN (W : World) (n : Nat) (a : Addr) : (W.drewN n).cell? a = W.cell? a := rfl

theorem cell_below {W W' : World} {p : Addr} {v : Value} (hb : Below W.heap.size W W') (h : W.cell? p = some v) : W'.cell? p = some v := (hb.cell (World.block_lt_of_cell? _ _ h)).trans h

/-- The blocks that the owner of the blocks Ts may turn. -/
def Owned (Ts : List Nat) (W : World) (b : Nat) : Prop :=
  b ∈ Ts ∨ ∃ t, t ∈ Ts ∧ ∃ (o : Nat) (a : Addr) (n c : Nat), W.cell? ⟨t, o, none⟩ = some (.slice (some a) n c) ∧ a.block = b
def OwnedOk (Ts : List Nat) (W : World) : Prop := ∀ b, Owned Ts W b → b < W.heap.size

structure Keeps (Ts : List Nat) (A B : World) : Prop where
  size : A.heap.size ≤ B.heap.size
  ok : OwnedOk Ts A → OwnedOk Ts B
  own : OwnedOk Ts A → ∀ b, b < A.heap.size → ¬ Owned Ts A b → ¬ Owned Ts B b
  keep : OwnedOk Ts A → ∀ b o, A.heap[b]? = some o → o.isCells = true → ¬ Owned Ts A b → B.heap[b]? = some o

theorem lt_of_heap {W : World} {b : Nat} {o : Obj} (h : W.heap[b]? = some o) : b < W.heap.size := (Array.getElem?_eq_some_iff.1 h).1

theorem Keeps.refl (Ts : List Nat) (A : World) : Keeps Ts A A := ⟨Nat.le_refl _, id, fun _ _ _ h => h, fun _ _ _ h _ _ => h⟩
theorem Keeps.trans {Ts : List Nat} {A B C : World} (h : Keeps Ts A B) (k : Keeps Ts B C) : Keeps Ts A C :=
  ⟨Nat.le_trans h.size k.size, fun ok => k.ok (h.ok ok),
   fun ok b hb ho => k.own (h.ok ok) b (Nat.lt_of_lt_of_le hb h.size) (h.own ok b hb ho),
   fun ok b o hb hc ho => k.keep (h.ok ok) b o (h.keep ok b o hb hc ho) hc (h.own ok b (lt_of_heap hb) ho)⟩

/-- Where the owner's blocks lie as they lay, he owns the same. -/
theorem owned_same {Ts : List Nat} {A B : World} (h : ∀ t, t ∈ Ts → B.heap[t]? = A.heap[t]?) (b : Nat) : Owned Ts B b ↔ Owned Ts A b := by
  unfold Owned
  constructor
  · rintro (h1 | ⟨t, ht, o, a, n, c, hc, ha⟩)
    · exact .inl h1
    · exact .inr ⟨t, ht, o, a, n, c, by rw [← World.cell?_of_block (a := ⟨t, o, none⟩) (h t ht)]; exact hc, ha⟩
  · rintro (h1 | ⟨t, ht, o, a, n, c, hc, ha⟩)
    · exact .inl h1
    · exact .inr ⟨t, ht, o, a, n, c, by rw [World.cell?_of_block (a := ⟨t, o, none⟩) (h t ht)]; exact hc, ha⟩

theorem OwnedOk.lt {Ts : List Nat} {W : World} (h : OwnedOk Ts W) {t : Nat} (ht : t ∈ Ts) : t < W.heap.size := h t (.inl ht)

theorem OwnedOk.below {Ts : List Nat} {A B : World} (h : OwnedOk Ts A) (hb : Below A.heap.size A B) : OwnedOk Ts B :=
  fun b ho => Nat.lt_of_lt_of_le (h b ((owned_same (fun t ht => hb.block t (h.lt ht)) b).1 ho)) hb.size
theorem owned_below {Ts : List Nat} {A B : World} (h : OwnedOk Ts A) (hb : Below A.heap.size A B) (b : Nat) : Owned Ts B b ↔ Owned Ts A b :=
  owned_same (fun t ht => hb.block t (h.lt ht)) b
/-- What was laid behind A is not the owner's. -/
theorem fresh_not_owned {Ts : List Nat} {A B : World} (h : OwnedOk Ts A) (hb : Below A.heap.size A B) {b : Nat} (hge : A.heap.size ≤ b) : ¬ Owned Ts B b :=
  fun ho => absurd (h b ((owned_below h hb b).1 ho)) (by omega)
theorem Keeps.of_below {Ts : List Nat} {A B : World} (hb : Below A.heap.size A B) : Keeps Ts A B :=
  ⟨hb.size, fun h => h.below hb, fun h b _ ho => fun h' => ho ((owned_below h hb b).1 h'), fun _ b _ ho _ _ => (hb.block b (lt_of_heap ho)).trans ho⟩

theorem keepsK_t {Ts : List Nat} : ∀ {A B C : World}, Keeps Ts A B → Keeps Ts B C → Keeps Ts A C := fun h k => h.trans k
theorem keepsK_b {Ts : List Nat} {B0 : Nat} (hT : ∀ t, t ∈ Ts → t < B0) (W : World) (l : Nat) (o o' : Obj) (hl : B0 ≤ l) (ho : W.heap[l]? = some o) (hc : o.isCells = false) (_ : o.isWalk = false) : Keeps Ts W (W.putObj l o') := by
  have hne : ∀ t, t ∈ Ts → (W.putObj l o').heap[t]? = W.heap[t]? := fun t ht => World.putObj_heap_other (by have := hT t ht; omega)
  have hs : (W.putObj l o').heap.size = W.heap.size := by simp
  refine ⟨by omega, fun h b hb => by rw [hs]; exact h b ((owned_same hne b).1 hb), fun _ b _ h h' => h ((owned_same hne b).1 h'), fun _ b p hp hpc _ => ?_⟩
  have : b ≠ l := fun e => by subst e; rw [hp] at ho; cases ho; rw [hc] at hpc; cases hpc
  exact (World.putObj_heap_other this).trans hp

/-- A cell of a block that is not the owner's reads as it read. -/
theorem Keeps.cell {Ts : List Nat} {A B : World} (h : Keeps Ts A B) (ok : OwnedOk Ts A) {p : Addr} {v : Value} (hc : A.cell? p = some v) (ho : ¬ Owned Ts A p.block) : B.cell? p = some v := by
  have hex : ∃ o, A.heap[p.block]? = some o ∧ o.isCells = true := by
    cases hh : A.heap[p.block]? with
    | none => simp [World.cell?, hh] at hc
    | some o => cases o <;> simp [World.cell?, hh, Obj.isCells] at hc ⊢
  obtain ⟨o, ho1, ho2⟩ := hex
  rw [World.cell?_of_block (w := A) ((h.keep ok _ o ho1 ho2 ho).trans ho1.symm)]; exact hc

theorem grownBy_of_below {W W' : World} (hb : Below W.heap.size W W') : W.grownBy W' none := ⟨hb.os, hb.tape, hb.output, hb.size, fun k hk _ => hb.block k hk⟩
theorem abides_below {β : Type} {B : Nat} {J : β → World → Prop} (h : AbidesFrom B J) {s : β} {W W' : World} (hj : J s W) (hb : Below W.heap.size W W') : J s W' :=
  h s W W' none hj (grownBy_of_below hb) (fun r e => by cases e)

theorem boxed_owned {W : World} {T : Nat} {t : TypeId} {v : Value} (h : Boxed W T t v) {b : Nat} (ho : Owned [T] W b) : b = T ∨ ∃ (a : Addr) (n c : Nat), v = .slice (some a) n c ∧ a.block = b := by
  rcases ho with h1 | ⟨t', ht, o, a, n, c, hc, ha⟩
  · exact .inl (by simpa using h1)
  · obtain rfl : t' = T := by simpa using ht
    unfold World.cell? at hc; rw [show W.heap[t']? = _ from h] at hc
    have hj : (#[v] : Array Value)[o]? = some (.slice (some a) n c) := hc
    match o, hj with
    | 0, hj => exact .inr ⟨a, n, c, by simpa using hj, ha⟩
    | o + 1, hj => simp at hj

theorem cell_set {B : World} {p q : Addr} {v x : Value} (h : (B.setCell p v).cell? q = some x) : (q = p ∧ x = v) ∨ B.cell? q = some x := by
  by_cases e : p = q
  · subst e
    cases hc : B.cell? p with
    | none =>
      have : (B.setCell p v).cell? p = none := by
        unfold World.cell? at hc ⊢
        simp only [World.setCell, Array.getElem?_modify, if_true]
        cases hh : B.heap[p.block]? with
        | none => rfl
        | some o => rw [hh] at hc; cases o <;> simp_all
      rw [this] at h; cases h
    | some u =>
      rw [World.cell?_setCell_same _ _ _ hc] at h
      exact .inl ⟨rfl, (Option.some.inj h).symm⟩
  · rw [World.cell?_setCell_other _ _ _ _ e] at h
    exact .inr h

/-- A step that turns a block of the owner's (an array that a slice of his stands over), lays new blocks, and then stores into a block of Ts what stands over a block of his, over a new one, or is no slice. -/
theorem keeps_store {Ts : List Nat} {A B : World} {row : Option Nat} {T j : Nat} {v : Value} (hg : A.grownBy B row) (hrow : ∀ r, row = some r → Owned Ts A r ∧ r ∉ Ts) (hT : T ∈ Ts)
    (hv : ∀ a n c, v = .slice (some a) n c → (Owned Ts A a.block ∨ A.heap.size ≤ a.block) ∧ a.block < B.heap.size) : Keeps Ts A (B.setCell ⟨T, j, none⟩ v) := by
  have hs : (B.setCell ⟨T, j, none⟩ v).heap.size = B.heap.size := World.size_setCell _ _ _
  have hsame : OwnedOk Ts A → ∀ t, t ∈ Ts → B.heap[t]? = A.heap[t]? := fun ok t ht => hg.block t (ok.lt ht) (fun e => (hrow t e.symm).2 ht)
  have key : OwnedOk Ts A → ∀ b, Owned Ts (B.setCell ⟨T, j, none⟩ v) b → (Owned Ts A b ∨ A.heap.size ≤ b) ∧ b < B.heap.size := by
    rintro ok b (h1 | ⟨t, ht, o, a, n, c, hc, ha⟩)
    · exact ⟨.inl (.inl h1), Nat.lt_of_lt_of_le (ok.lt h1) hg.size⟩
    · rcases cell_set hc with ⟨_, e⟩ | hc'
      · have := hv a n c e.symm; rw [ha] at this; exact this
      · have hA : Owned Ts A b := (owned_same (hsame ok) b).1 (.inr ⟨t, ht, o, a, n, c, hc', ha⟩)
        exact ⟨.inl hA, Nat.lt_of_lt_of_le (ok b hA) hg.size⟩
  refine ⟨by rw [hs]; exact hg.size, fun ok b hb => by rw [hs]; exact (key ok b hb).2, fun ok b hb ho h' => ?_, fun ok b o hb _ ho => ?_⟩
  · rcases (key ok b h').1 with h1 | h1
    · exact ho h1
    · omega
  · have hne : b ≠ T := fun e => ho (.inl (e ▸ hT))
    have h1 : (B.setCell ⟨T, j, none⟩ v).heap[b]? = B.heap[b]? := Below.heap_setCell B ⟨T, j, none⟩ v b hne
    rw [h1, hg.block b (lt_of_heap hb) (fun e => ho (hrow b e.symm).1)]
    exact hb

theorem grownBy_alloc_then {W w1 : World} {o : Obj} {row : Option Nat} (h : (W.alloc o).grownBy w1 row) : W.grownBy w1 row :=
  ⟨h.os, h.tape, h.output, Nat.le_trans (by simp) h.size, fun k hk hne => (h.block k (by simp; omega) hne).trans (Below.heap_alloc W o k hk)⟩
theorem Cells.not_row {W : World} {T : Nat} {t e : TypeId} {cs : Array Value} (h : Cells W T t cs) (hte : t ≠ e) {base size k : Nat} {v : Value} {xs : List Value} (hr : W.ownsRow base e size v k xs) : some T ≠ v.ownBlock := by
  rcases hr.2 with ⟨rfl, _⟩ | ⟨g, cap, cur, rfl, _, hgb, _⟩
  · simp [Value.ownBlock]
  · intro e'
    obtain rfl : T = g := by simpa [Value.ownBlock] using e'
    rw [show W.heap[T]? = _ from h] at hgb
    cases hgb; exact hte rfl
theorem ownsRow_cell {W : World} {base : Nat} {e : TypeId} {size n g cap k : Nat} {xs : List Value} (h : W.ownsRow base e size (.slice (some ⟨g, 0, none⟩) n cap) k xs) {j : Nat} {v : Value} (hj : xs[j]? = some v) : W.cell? ⟨g, j, none⟩ = some v := by
  rcases h.2 with ⟨h0, _⟩ | ⟨g', cap', cur, h1, _, hgb, _, _, _, ht⟩
  · cases h0
  · cases h1
    unfold World.cell?; rw [hgb]
    show cur[j]? = some v
    rw [← ht, List.getElem?_take] at hj
    split at hj
    · simpa using hj
    · cases hj
/-- 'x.f = append(x.f, ..)' where x's cells lie in block T. -/
theorem keeps_append {W w1 : World} {T j : Nat} {t e : TypeId} {size base : Nat} {cs : Array Value} {v v' : Value} {k m : Nat} {xs ys : List Value} {tmp : Obj}
    (hv : Cells W T t cs) (hj : cs[j]? = some v) (hte : t ≠ e) (hrow : W.ownsRow base e size v k xs) (hown' : w1.ownsRow base e size v' m ys) (hgrow : (W.alloc tmp).grownBy w1 v.ownBlock)
    (hblk : v'.ownBlock = v.ownBlock ∨ v'.ownBlock = some (W.alloc tmp).heap.size) : Keeps [T] W (w1.setCell ⟨T, j, none⟩ v') := by
  have hOw : ∀ r, v.ownBlock = some r → Owned [T] W r := fun r hr => by
    rcases hrow.2 with ⟨rfl, _⟩ | ⟨g, cap, cur, rfl, _, hgb, _⟩
    · simp [Value.ownBlock] at hr
    · obtain rfl : g = r := by simpa [Value.ownBlock] using hr
      exact .inr ⟨T, by simp, j, _, _, _, hv.cell hj, rfl⟩
  refine keeps_store (grownBy_alloc_then hgrow) (fun r hr => ⟨hOw r hr, ?_⟩) (by simp) ?_
  · have := hv.not_row hte hrow
    intro hm
    obtain rfl : r = T := by simpa using hm
    exact this hr.symm
  · intro a n c e'
    have hlt : a.block < w1.heap.size := by
      rcases hown'.2 with ⟨h, _⟩ | ⟨g, cap, cur, h, _, hgb, _⟩
      · rw [e'] at h; cases h
      · rw [e'] at h; cases h; exact lt_of_heap hgb
    refine ⟨?_, hlt⟩
    have hb : v'.ownBlock = some a.block := by rw [e']; rfl
    rcases hblk with h | h
    · exact .inl (hOw _ (by rw [← h, hb]))
    · refine .inr ?_
      rw [hb] at h
      have := Option.some.inj h
      simp at this; omega
end Go.Proofs.YtgnnipnnnebpiaaGreatDoor
