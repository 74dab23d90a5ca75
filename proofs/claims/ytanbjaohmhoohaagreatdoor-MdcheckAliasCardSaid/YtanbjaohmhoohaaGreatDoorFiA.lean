/-
  MdcheckFirst: what lies in memory of a machine of four registers in which up to six things are wrong; what Check says of it.
-/
import Derived.Test.YtanbjaohmhoohaaGreatDoorSmI
namespace Go.Proofs.YtanbjaohmhoohaaGreatDoor
open Go.RowKit

theorem Tryz.infoClsS : (Tryz.prog.info? 46).map (fun i => (i.zero, i.size, i.bytes)) = some (some (.agg #[.string ⟨#[]⟩, .slice none 0 0]), 2, 40) := by kernel_rfl
theorem ownsRow_of_cells {W : World} {g base n : Nat} {t : TypeId} {size : Nat} {cs : Array Value} (hC : Cells W g t cs) (hb : base ≤ g) (hs : cs.size = n * size) (hm : n ≤ maxLen) : W.ownsRow base t size (.slice (some ⟨g, 0, none⟩) n n) n cs.toList :=
  ⟨by rw [Array.length_toList]; exact hs, .inr ⟨g, n, cs, rfl, hb, hC, Nat.le_refl _, hm, hs, by rw [← hs, ← Array.length_toList, List.take_length]⟩⟩

def nmH : ByteArray := ⟨#[104]⟩
def nmX : ByteArray := ⟨#[120]⟩
def nmR1 : ByteArray := ⟨#[114, 48, 49]⟩
def fiNames (x : Bool) : List ByteArray := cond x (nmX :: sNames 4) (sNames 4)
def fiCls (x h : Bool) : List ClassD := ⟨nmG, fiNames x⟩ :: cond h [⟨nmH, [nmR1]⟩] []
def fiOp (tie : Int) : OpD := ⟨⟨#[97, 100, 100]⟩, opG, [opG, opG], tie, []⟩
def fiD (x h : Bool) (tie sl : Int) : MachD := ⟨⟨#[109]⟩, fiCls x h, [fiOp tie, opNot, opDiv], [nmR], nmR, [], sl⟩
def fiTie (b : Bool) : Int := cond b 2 (-1)
def fiSl (b : Bool) : Int := cond b (-1) 100

theorem fi_check : ∀ x b3 b4 h : Bool, checkS (fun _ => true) (fiD x h (fiTie b3) (fiSl b4)) 0 (sNames 4) (plN 4) = cond x 8 (cond b3 9 (cond b4 10 (cond h 11 0))) := by decide +kernel

theorem nmH_ok : IsName nmH ∧ NotWord nmH := ⟨isName_of (by decide +kernel) (by decide +kernel) (by decide +kernel), notWord_of (by decide +kernel)⟩

/-- The three operations; the first one's tie is that. -/
def fiOps (N : Nat) (tie : Int) : Array Value := #[.string ⟨#[97, 100, 100]⟩, .string ⟨#[103]⟩, .string ⟨#[]⟩, .slice (some ⟨N + 1 + 1, 0, none⟩) 2 2, .int .i64 tie, .slice none 0 0,
  .string ⟨#[110, 111, 116]⟩, .string ⟨#[103]⟩, .string ⟨#[]⟩, .slice (some ⟨N + 1 + 1 + 1, 0, none⟩) 1 1, .int .i64 (-1), .slice none 0 0,
  .string ⟨#[100, 105, 118]⟩, .string ⟨#[103]⟩, .string ⟨#[]⟩, .slice (some ⟨N + 1 + 1 + 1 + 1, 0, none⟩) 2 2, .int .i64 (-1), .slice none 0 0]
def fiRegs (wd : Int) : List Value := (sCells 4).set 13 (.int .i64 wd)

/-- All blocks but those of type t stay. -/
structure KeepsT (t : TypeId) (W W' : World) : Prop where
  size : W.heap.size ≤ W'.heap.size
  block : ∀ b t' cs, t' ≠ t → Cells W b t' cs → Cells W' b t' cs
theorem KeepsT.trans {t : TypeId} {A B C : World} (h : KeepsT t A B) (h2 : KeepsT t B C) : KeepsT t A C := ⟨Nat.le_trans h.size h2.size, fun b t' cs ht hc => h2.block b t' cs ht (h.block b t' cs ht hc)⟩
theorem KeepsT.of_set {W : World} {T : Nat} {t : TypeId} {cs : Array Value} (h : Cells W T t cs) (j : Nat) (v : Value) : KeepsT t W (W.setCell ⟨T, j, none⟩ v) :=
  ⟨by rw [World.size_setCell]; exact Nat.le_refl _, fun b t' cs' ht hc => hc.other (fun e => by
    rw [e] at hc
    have h2 := Option.some.inj ((show W.heap[T]? = _ from hc).symm.trans (show W.heap[T]? = _ from h))
    injection h2 with _ ht2 _
    exact ht ht2) v⟩
theorem KeepsT.of_grown {W W' : World} {base : Nat} {e : TypeId} {size k : Nat} {v : Value} {xs : List Value} (h : W.ownsRow base e size v k xs) (hg : W.grownBy W' v.ownBlock) : KeepsT e W W' :=
  ⟨hg.size, fun _ _ _ ht hc => hc.kept_row h hg ht⟩
theorem KeepsT.alloc (t : TypeId) (W : World) (o : Obj) : KeepsT t W (W.alloc o) := ⟨by simp, fun _ _ _ _ hc => hc.alloc o⟩
theorem KeepsT.of_below {t : TypeId} {W W' : World} (h : Below W.heap.size W W') : KeepsT t W W' := ⟨h.size, fun _ _ _ _ hc => hc.below h hc.lt⟩
theorem KeepsT.row {t : TypeId} {W W' : World} (h : KeepsT t W W') {base : Nat} {e : TypeId} {size k : Nat} {v : Value} {xs : List Value} (hr : W.ownsRow base e size v k xs) (he : e ≠ t) : W'.ownsRow base e size v k xs := by
  refine ⟨hr.1, ?_⟩
  rcases hr.2 with h3 | ⟨g, cap, cur, e1, e2, e3, e4⟩
  · exact .inl h3
  · exact .inr ⟨g, cap, cur, e1, e2, h.block g e cur he e3, e4⟩

/-- What lies in memory. -/
structure FMem (w : World) (B N : Nat) (v k : SlV) (nm : ByteArray) (sl tie wd : Int) (x h : Bool) (W : World) : Prop where
  below : Below w.heap.size w W
  hB : w.heap.size ≤ B
  hN : w.heap.size ≤ N
  m : Cells W B 27 #[.string nm, .slice v.a v.n v.c, .slice k.a k.n k.c, .slice (some ⟨N + 1 + 1 + 1 + 1 + 1, 0, none⟩) 3 3, .slice (some ⟨N + 1 + 1 + 1 + 1 + 1 + 1, 0, none⟩) 1 1, .string ⟨#[114, 48, 48]⟩, .slice none 0 0, .int .i64 sl]
  regs : W.ownsRow w.heap.size 44 4 (.slice v.a v.n v.c) 4 (fiRegs wd)
  cls : ∃ u s : SlV, W.ownsRow w.heap.size 46 2 (.slice k.a k.n k.c) (cond h 2 1) (.string nmG :: .slice u.a u.n u.c :: cond h [.string nmH, .slice s.a s.n s.c] []) ∧ W.ownsRow w.heap.size 9 1 (.slice u.a u.n u.c) (cond x 5 4) ((fiNames x).map Value.string) ∧ W.ownsRow w.heap.size 9 1 (.slice s.a s.n s.c) (cond h 1 0) ((cond h [nmR1] []).map Value.string)
  u0 : Cells W (N + 1 + 1) 48 #[.string ⟨#[103]⟩, .string ⟨#[]⟩, .string ⟨#[103]⟩, .string ⟨#[]⟩]
  u1 : Cells W (N + 1 + 1 + 1) 48 #[.string ⟨#[103]⟩, .string ⟨#[]⟩]
  u2 : Cells W (N + 1 + 1 + 1 + 1) 48 #[.string ⟨#[103]⟩, .string ⟨#[]⟩, .string ⟨#[103]⟩, .string ⟨#[]⟩]
  o : Cells W (N + 1 + 1 + 1 + 1 + 1) 51 (fiOps N tie)
  a : Cells W (N + 1 + 1 + 1 + 1 + 1 + 1) 9 #[.string ⟨#[114, 48, 48]⟩]

theorem FMem.step {w A A' : World} {B N : Nat} {v k : SlV} {nm : ByteArray} {sl tie wd : Int} {x h : Bool} (H : FMem w B N v k nm sl tie wd x h A) (hb : Below A.heap.size A A') : FMem w B N v k nm sl tie wd x h A' := by
  obtain ⟨u, s, h1, h2, h3⟩ := H.cls
  exact ⟨H.below.trans (hb.mono H.below.size), H.hB, H.hN, H.m.below hb H.m.lt, ownsRow_below H.regs hb, ⟨u, s, ownsRow_below h1 hb, ownsRow_below h2 hb, ownsRow_below h3 hb⟩, H.u0.below hb H.u0.lt, H.u1.below hb H.u1.lt, H.u2.below hb H.u2.lt, H.o.below hb H.o.lt, H.a.below hb H.a.lt⟩

/-- Where it begins. -/
theorem FMem.first {w W1 W2 : World} {N : Nat} {v u : SlV} (hb : Below w.heap.size w W1) (hS : SmallAt W1 4 N v u W2) (W3 : World) (hb3 : Below W2.heap.size W2 W3)
    (hm : Cells W3 W2.heap.size 27 #[.string ⟨#[109]⟩, .slice v.a v.n v.c, .slice (some ⟨N, 0, none⟩) 1 1, .slice (some ⟨N + 1 + 1 + 1 + 1 + 1, 0, none⟩) 3 3, .slice (some ⟨N + 1 + 1 + 1 + 1 + 1 + 1, 0, none⟩) 1 1, .string ⟨#[114, 48, 48]⟩, .slice none 0 0, .int .i64 100]) :
    FMem w W2.heap.size N v ⟨some ⟨N, 0, none⟩, 1, 1⟩ ⟨#[109]⟩ 100 (-1) 8 false false W3 := by
  have hB2 := hb.trans (hS.below.mono hb.size)
  have hNw : w.heap.size ≤ N := by have := hS.base; have := hb.size; omega
  exact {
    below := hB2.trans (hb3.mono hB2.size)
    hB := hB2.size
    hN := hNw
    m := hm
    regs := ownsRow_mono (ownsRow_below hS.regs hb3) hb.size
    cls := ⟨u, ⟨none, 0, 0⟩, ownsRow_of_cells (n := 1) (hS.c.below hb3 hS.c.lt) hNw rfl (by decide), ownsRow_mono (ownsRow_below hS.names hb3) hb.size, World.ownsRow_nil _ _ _ _⟩
    u0 := hS.u0.below hb3 hS.u0.lt
    u1 := hS.u1.below hb3 hS.u1.lt
    u2 := hS.u2.below hb3 hS.u2.lt
    o := hS.o.below hb3 hS.o.lt
    a := hS.a.below hb3 hS.a.lt }

section
variable {w W : World} {B N : Nat} {v k : SlV} {nm : ByteArray} {sl tie wd : Int} {x h : Bool}
theorem FMem.setSlots (H : FMem w B N v k nm sl tie wd x h W) (sl' : Int) : FMem w B N v k nm sl' tie wd x h (W.setCell ⟨B, 7, none⟩ (.int .i64 sl')) := by
  have K := KeepsT.of_set H.m 7 (.int .i64 sl')
  obtain ⟨u, s, h1, h2, h3⟩ := H.cls
  exact ⟨H.below.setCell (p := ⟨B, 7, none⟩) H.hB _, H.hB, H.hN, H.m.set (j := 7) _, K.row H.regs (by decide), ⟨u, s, K.row h1 (by decide), K.row h2 (by decide), K.row h3 (by decide)⟩, K.block _ _ _ (by decide) H.u0, K.block _ _ _ (by decide) H.u1, K.block _ _ _ (by decide) H.u2, K.block _ _ _ (by decide) H.o, K.block _ _ _ (by decide) H.a⟩
theorem FMem.setTie (H : FMem w B N v k nm sl tie wd x h W) (t' : Int) : FMem w B N v k nm sl t' wd x h (W.setCell ⟨N + 1 + 1 + 1 + 1 + 1, 4, none⟩ (.int .i64 t')) := by
  have K := KeepsT.of_set H.o 4 (.int .i64 t')
  obtain ⟨u, s, h1, h2, h3⟩ := H.cls
  exact ⟨H.below.setCell (p := ⟨N + 1 + 1 + 1 + 1 + 1, 4, none⟩) (by have := H.hN; dsimp only; omega) _, H.hB, H.hN, K.block _ _ _ (by decide) H.m, K.row H.regs (by decide), ⟨u, s, K.row h1 (by decide), K.row h2 (by decide), K.row h3 (by decide)⟩, K.block _ _ _ (by decide) H.u0, K.block _ _ _ (by decide) H.u1, K.block _ _ _ (by decide) H.u2, H.o.set (j := 4) _, K.block _ _ _ (by decide) H.a⟩
theorem FMem.setWidth {g n c : Nat} (H : FMem w B N ⟨some ⟨g, 0, none⟩, n, c⟩ k nm sl tie wd x h W) (wd' : Int) : FMem w B N ⟨some ⟨g, 0, none⟩, n, c⟩ k nm sl tie wd' x h (W.setCell ⟨g, 13, none⟩ (.int .i64 wd')) := by
  have hr := H.regs
  dsimp only at hr
  obtain ⟨rfl, _⟩ : n = 4 ∧ True := ⟨by obtain ⟨_, _, e⟩ := ownsRow_form hr; injection e, trivial⟩
  obtain ⟨hs, hg⟩ := hr.stored 13 (.int .i64 wd')
  have K : KeepsT 44 W (W.setCell ⟨g, 13, none⟩ (.int .i64 wd')) := KeepsT.of_grown hr hg
  have hgb : w.heap.size ≤ g := (ownsRow_block hr rfl).1
  obtain ⟨u, s, h1, h2, h3⟩ := H.cls
  refine ⟨H.below.setCell (p := ⟨g, 13, none⟩) hgb _, H.hB, H.hN, K.block _ _ _ (by decide) H.m, ?_, ⟨u, s, K.row h1 (by decide), K.row h2 (by decide), K.row h3 (by decide)⟩, K.block _ _ _ (by decide) H.u0, K.block _ _ _ (by decide) H.u1, K.block _ _ _ (by decide) H.u2, K.block _ _ _ (by decide) H.o, K.block _ _ _ (by decide) H.a⟩
  unfold fiRegs at hs ⊢
  rw [List.set_set] at hs
  exact hs
/-- The first class' list is another one. -/
theorem FMem.setNames {g n c : Nat} {W' : World} {u' : SlV} (H : FMem w B N v ⟨some ⟨g, 0, none⟩, n, c⟩ nm sl tie wd false h W) (hb : Below W.heap.size W W') (hu : W'.ownsRow w.heap.size 9 1 (.slice u'.a u'.n u'.c) 5 ((fiNames true).map Value.string)) :
    FMem w B N v ⟨some ⟨g, 0, none⟩, n, c⟩ nm sl tie wd true h (W'.setCell ⟨g, 1, none⟩ (.slice u'.a u'.n u'.c)) := by
  replace H := H.step hb
  obtain ⟨u, s, h1, h2, h3⟩ := H.cls
  dsimp only at h1
  obtain ⟨rfl, _⟩ : n = cond h 2 1 ∧ True := ⟨by obtain ⟨_, _, e⟩ := ownsRow_form h1; injection e, trivial⟩
  obtain ⟨hs, hg⟩ := h1.stored 1 (.slice u'.a u'.n u'.c)
  have K : KeepsT 46 W' (W'.setCell ⟨g, 1, none⟩ (.slice u'.a u'.n u'.c)) := KeepsT.of_grown h1 hg
  have hgb : w.heap.size ≤ g := (ownsRow_block h1 rfl).1
  exact ⟨H.below.setCell (p := ⟨g, 1, none⟩) hgb _, H.hB, H.hN, K.block _ _ _ (by decide) H.m, K.row H.regs (by decide), ⟨u', s, hs, K.row hu (by decide), K.row h3 (by decide)⟩, K.block _ _ _ (by decide) H.u0, K.block _ _ _ (by decide) H.u1, K.block _ _ _ (by decide) H.u2, K.block _ _ _ (by decide) H.o, K.block _ _ _ (by decide) H.a⟩
/-- A second class is there. -/
theorem FMem.setClasses {W5 W' : World} {k' s' : SlV} (H : FMem w B N v k nm sl tie wd false false W) (hb : Below W.heap.size W W5)
    (hs' : W5.ownsRow w.heap.size 9 1 (.slice s'.a s'.n s'.c) 1 [.string nmR1]) (u : SlV) (hg : W5.grownBy W' (Value.slice k.a k.n k.c).ownBlock)
    (hu : W.ownsRow w.heap.size 9 1 (.slice u.a u.n u.c) 4 ((fiNames false).map Value.string))
    (hk : W'.ownsRow w.heap.size 46 2 (.slice k'.a k'.n k'.c) 2 [.string nmG, .slice u.a u.n u.c, .string nmH, .slice s'.a s'.n s'.c]) :
    FMem w B N v k' nm sl tie wd false true (W'.setCell ⟨B, 2, none⟩ (.slice k'.a k'.n k'.c)) := by
  have H5 := H.step hb
  obtain ⟨u2, s2, h1, h2, h3⟩ := H5.cls
  have K1 : KeepsT 46 W5 W' := KeepsT.of_grown h1 hg
  have hm := K1.block _ _ _ (by decide) H5.m
  have K2 := KeepsT.of_set hm 2 (.slice k'.a k'.n k'.c)
  have hB' : Below w.heap.size w W' := H5.below.grown hg H5.below.size (fun b e => (ownsRow_block h1 e).1)
  have hu' := K2.row (K1.row (ownsRow_below hu hb) (by decide)) (by decide)
  exact ⟨hB'.setCell (p := ⟨B, 2, none⟩) H.hB _, H.hB, H.hN, hm.set (j := 2) _, K2.row (K1.row H5.regs (by decide)) (by decide), ⟨u, s', K2.row hk (by decide), hu', K2.row (K1.row hs' (by decide)) (by decide)⟩, K2.block _ _ _ (by decide) (K1.block _ _ _ (by decide) H5.u0), K2.block _ _ _ (by decide) (K1.block _ _ _ (by decide) H5.u1), K2.block _ _ _ (by decide) (K1.block _ _ _ (by decide) H5.u2), K2.block _ _ _ (by decide) (K1.block _ _ _ (by decide) H5.o), K2.block _ _ _ (by decide) (K1.block _ _ _ (by decide) H5.a)⟩
end

/-- The machine as it is handed on. -/
def fiMV (N : Nat) (v k : SlV) (nm : ByteArray) (sl : Int) : MV := ⟨nm, v, k, ⟨some ⟨N + 1 + 1 + 1 + 1 + 1, 0, none⟩, 3, 3⟩, ⟨some ⟨N + 1 + 1 + 1 + 1 + 1 + 1, 0, none⟩, 1, 1⟩, ⟨#[114, 48, 48]⟩, ⟨none, 0, 0⟩, sl⟩

theorem fi_nice : ∀ x h b3 : Bool, OpNice (sNames 4) (plN 4) (fiCls x h) (fiOp (fiTie b3)) := by
  intro x h b3
  cases b3
  · refine .inl ?_
    revert x h
    decide +kernel
  · refine .inr (.inr ⟨?_, ?_⟩) <;> decide +kernel
theorem fi_nice1 : ∀ x h : Bool, opFine (sNames 4) (plN 4) (fiCls x h) opNot = true := by decide +kernel
theorem fi_nice2 : ∀ x h : Bool, opFine (sNames 4) (plN 4) (fiCls x h) opDiv = true := by decide +kernel
end Go.Proofs.YtanbjaohmhoohaaGreatDoor
