/-
  A range over a function whose body goes on, where the iterator writes its own blocks, and where ranges lie within one another.
-/
import Derived.Test.YtfnfijgknjnccaaGreatDoorVwE
import Derived.RangeFuncCalls
namespace Go.Proofs.YtfnfijgknjnccaaGreatDoor
open Go.RowKit
/-- All blocks but those of some types stay. -/
structure Stays (ts : List TypeId) (W W' : World) : Prop where
  size : W.heap.size ≤ W'.heap.size
  block : ∀ b t' cs, t' ∉ ts → Cells W b t' cs → Cells W' b t' cs
theorem Stays.refl (ts : List TypeId) (W : World) : Stays ts W W := ⟨Nat.le_refl _, fun _ _ _ _ h => h⟩
theorem Stays.trans {ts : List TypeId} {A B C : World} (h : Stays ts A B) (k : Stays ts B C) : Stays ts A C := ⟨Nat.le_trans h.size k.size, fun b t' cs ht hc => k.block b t' cs ht (h.block b t' cs ht hc)⟩
theorem Stays.mono {ts us : List TypeId} {A B : World} (h : Stays ts A B) (hs : ∀ t, t ∈ ts → t ∈ us) : Stays us A B := ⟨h.size, fun b t' cs ht hc => h.block b t' cs (fun hm => ht (hs _ hm)) hc⟩
theorem Stays.of_set {ts : List TypeId} {W : World} {T : Nat} {t : TypeId} {cs : Array Value} (h : Cells W T t cs) (ht : t ∈ ts) (j : Nat) (v : Value) : Stays ts W (W.setCell ⟨T, j, none⟩ v) :=
  ⟨by rw [World.size_setCell]; exact Nat.le_refl _, fun b t' cs' ht' hc => hc.other (fun e => by
    rw [e] at hc
    have h2 := Option.some.inj ((show W.heap[T]? = _ from hc).symm.trans (show W.heap[T]? = _ from h))
    injection h2 with _ ht2 _
    exact ht' (ht2 ▸ ht)) v⟩
theorem Stays.of_grown {ts : List TypeId} {W W' : World} {base : Nat} {e : TypeId} {size k : Nat} {v : Value} {xs : List Value} (h : W.ownsRow base e size v k xs) (he : e ∈ ts) (hg : W.grownBy W' v.ownBlock) : Stays ts W W' :=
  ⟨hg.size, fun _ _ _ ht hc => hc.kept hg (hc.not_row (fun e' => ht (e' ▸ he)) h)⟩
theorem Stays.alloc (ts : List TypeId) (W : World) (o : Obj) : Stays ts W (W.alloc o) := ⟨by simp, fun _ _ _ _ hc => hc.alloc o⟩
theorem Stays.of_below {ts : List TypeId} {W W' : World} (h : Below W.heap.size W W') : Stays ts W W' := ⟨h.size, fun _ _ _ _ hc => hc.below h hc.lt⟩
theorem Stays.put {ts : List TypeId} {A : World} {l : Nat} {o o' : Obj} (h : A.heap[l]? = some o) (hc : o.isCells = false) : Stays ts A (A.putObj l o') :=
  ⟨by simp, fun b t cs _ hb => (World.putObj_heap_other (by
    rintro rfl
    rw [show A.heap[_]? = _ from hb] at h
    cases h
    cases hc)).trans hb⟩
/-- All blocks of cells but those of which q holds stay. -/
structure StaysQ (q : Nat → TypeId → Prop) (W W' : World) : Prop where
  size : W.heap.size ≤ W'.heap.size
  block : ∀ b t' cs, ¬ q b t' → Cells W b t' cs → Cells W' b t' cs
theorem StaysQ.trans {q : Nat → TypeId → Prop} {A B C : World} (h : StaysQ q A B) (k : StaysQ q B C) : StaysQ q A C := ⟨Nat.le_trans h.size k.size, fun b t' cs ht hc => k.block b t' cs ht (h.block b t' cs ht hc)⟩
theorem StaysQ.mono {q p : Nat → TypeId → Prop} {A B : World} (h : StaysQ q A B) (hs : ∀ b t, q b t → p b t) : StaysQ p A B := ⟨h.size, fun b t' cs ht hc => h.block b t' cs (fun hm => ht (hs _ _ hm)) hc⟩
theorem Stays.toQ {ts : List TypeId} {q : Nat → TypeId → Prop} {A B : World} (h : Stays ts A B) (hs : ∀ b t, t ∈ ts → q b t) : StaysQ q A B := ⟨h.size, fun b t' cs ht hc => h.block b t' cs (fun hm => ht (hs _ _ hm)) hc⟩
theorem StaysQ.of_set {q : Nat → TypeId → Prop} {W : World} {T j : Nat} {v : Value} (hq : ∀ t, q T t) : StaysQ q W (W.setCell ⟨T, j, none⟩ v) :=
  ⟨by rw [World.size_setCell]; exact Nat.le_refl _, fun b t' _ ht hc => hc.other (fun e => ht (e ▸ hq t')) v⟩
theorem StaysQ.put {q : Nat → TypeId → Prop} {A : World} {l : Nat} {o o' : Obj} (h : A.heap[l]? = some o) (hc : o.isCells = false) : StaysQ q A (A.putObj l o') :=
  ⟨by simp, fun b t cs _ hb => (World.putObj_heap_other (by
    rintro rfl
    rw [show A.heap[_]? = _ from hb] at h
    cases h
    cases hc)).trans hb⟩
theorem KeepsOthers.of_below' {W W' : World} (h : Below W.heap.size W W') : KeepsOthers W W' := ⟨h.size, fun k _ hk _ => (h.block k (Array.getElem?_eq_some_iff.1 hk).1).trans hk⟩
/-- Only blocks of which S holds, and new ones, are other than they were. -/
structure Only (S : Nat → Prop) (A B : World) : Prop where
  low : Below 0 A B
  same : ∀ k, k < A.heap.size → ¬ S k → B.heap[k]? = A.heap[k]?
theorem Only.refl (S : Nat → Prop) (A : World) : Only S A A := ⟨Below.refl _ _, fun _ _ _ => rfl⟩
theorem Only.trans {S : Nat → Prop} {A B C : World} (h : Only S A B) (k : Only S B C) : Only S A C := ⟨h.low.trans k.low, fun i hi hs => (k.same i (Nat.lt_of_lt_of_le hi h.low.size) hs).trans (h.same i hi hs)⟩
theorem Only.mono {S S' : Nat → Prop} {A B : World} (h : Only S A B) (hs : ∀ k, S k → S' k) : Only S' A B := ⟨h.low, fun i hi hn => h.same i hi (fun x => hn (hs i x))⟩
theorem Only.of_below {S : Nat → Prop} {A B : World} (h : Below A.heap.size A B) : Only S A B := ⟨h.mono (Nat.zero_le _), fun k hk _ => h.block k hk⟩
theorem Only.set {S : Nat → Prop} {A : World} {T j : Nat} {v : Value} (h : S T) : Only S A (A.setCell ⟨T, j, none⟩ v) := ⟨(Below.refl 0 A).setCell (Nat.zero_le _) _, fun k _ hs => Below.heap_setCell A ⟨T, j, none⟩ v k (fun e => hs (e ▸ h))⟩
theorem Only.drew {S : Nat → Prop} {A B : World} (h : Only S A B) : Only S A B.drew := ⟨h.low.drew, h.same⟩
theorem Only.put {S : Nat → Prop} {A : World} {l : Nat} {o' : Obj} (h : S l) : Only S A (A.putObj l o') :=
  ⟨(Below.refl 0 A).grown (grownBy_putObj' A l o') (Nat.zero_le _) (fun _ _ => Nat.zero_le _), fun _ _ hs => World.putObj_heap_other (fun e => hs (e ▸ h))⟩
theorem Only.cells {S : Nat → Prop} {A B : World} (h : Only S A B) {b : Nat} {t : TypeId} {cs : Array Value} (hc : Cells A b t cs) (hn : ¬ S b) : Cells B b t cs := (h.same b hc.lt hn).trans hc
theorem Only.row {S : Nat → Prop} {A B : World} (h : Only S A B) {base : Nat} {e : TypeId} {size k : Nat} {v : Value} {xs : List Value} (hr : A.ownsRow base e size v k xs) (hn : ∀ g, base ≤ g → ¬ S g) : B.ownsRow base e size v k xs := by
  refine ⟨hr.1, ?_⟩
  rcases hr.2 with h0 | ⟨g, cap, cur, hv, hb, hg, rest⟩
  · exact .inl h0
  · exact .inr ⟨g, cap, cur, hv, hb, (h.same g (Array.getElem?_eq_some_iff.1 hg).1 (hn g hb)).trans hg, rest⟩
/-- The blocks that an iterator may write: its own. -/
def Win (S : Nat → Prop) (b c : Nat) (k : Nat) : Prop := S k ∨ (b ≤ k ∧ k < b + c)
/-- Calling the iterator value tells just E; between rounds it writes only blocks of its own; a round turns only blocks of which q holds. -/
def TellsO {α : Type} (S : Nat → Prop) (c : Nat) (q : Nat → TypeId → Prop) (n : Nat) (P : Program) (gf : Nat) (lb : Array Value) (encs : α → Array Value) (E : List α) (w0 : World) : Prop :=
  ∀ (l : Nat) (J : List α → World → Prop) (W : World), Below w0.heap.size w0 W →
    (∀ pre A B, J pre A → Only (Win S W.heap.size c) A B → J pre B) →
    (∀ pre x A, J pre A → pre ++ [x] <+: E → W.heap.size + c ≤ A.heap.size → YieldAt Fence.wide (n - 1) P l (encs x) A fun e B => e = .returned (.bool true) ∧ J (pre ++ [x]) B ∧ StaysQ q A B ∧ KeepsOthers A B) →
    J [] W → CallsIn Fence.wide n P gf (#[.func (.yield l) #[] #[]] ++ lb) W fun e B => (∃ v, e = .returned v) ∧ J E B
/-- How a round's body is left: it goes on. -/
def goesOnS {α : Type} (q : Nat → TypeId → Prop) (I : List α → World → Prop) (xs : List α) (W : World) : Exit → Act → World → Prop
  | .normal, _, W' => KeepsOthers W W' ∧ StaysQ q W W' ∧ I xs W'
  | _, _, _ => False
theorem put_back {A B C : World} {l : Nat} {o o' : Obj} (h : A.heap[l]? = some o) (hk : KeepsOthers (A.putObj l o') B) (hC : C = B.putObj l o) (ho : o'.isCells = false) : KeepsOthers A C := by
  subst hC
  have hl := lt_of_heap h
  have h1 : (A.putObj l o').heap[l]? = some o' := World.putObj_heap_same hl
  have h2 := hk.same l o' h1 ho
  refine ⟨by have := hk.size; simp at this ⊢; exact this, fun k p hp hpc => ?_⟩
  by_cases e : k = l
  · subst e
    rw [h] at hp
    cases hp
    exact World.putObj_heap_same (lt_of_heap h2)
  · exact (World.putObj_heap_other e).trans (hk.same k p ((World.putObj_heap_other e).trans hp) hpc)
theorem range_only {α : Type} {S : Nat → Prop} {c : Nat} {q : Nat → TypeId → Prop} {n : Nat} {P : Program} {g : Operand} {ps : Array Tmp} {assign body : Code} {Q : Exit → Act → World → Prop} {a : Act} {w : World} {gf : Nat} {lb : Array Value}
    (h1 : 1 ≤ n) (hg : a.eval g = .func (.func gf) #[] lb) (eg : ∀ args w, (callFunc gf args).run P w = .ok (.enter gf args) w)
    {encs : α → Array Value} {E : List α} (hit : TellsO S c q (n - 1) P gf lb encs E w) (hps : ∀ x, (encs x).size = ps.size) (hS : ∀ k, S k → k < w.heap.size)
    (I : List α → World → Prop) (hIo : ∀ pre A B, I pre A → Only (Win S w.heap.size (2 + c)) A B → I pre B) (hI0 : I [] w) (Ax : α → Act → Prop)
    (hassign : ∀ (l : Nat) (pre : List α) (x : α) (W : World) (K : Act → World → Prop), I pre W → (∀ a', Ax x a' → K a' W) →
      assign.wpIn (Fence.wide.inRound l) (n - 1 - 1) P (Exit.then K (fun _ _ _ => False)) { tmps := (ps.zip (encs x)).foldl (fun t (p, v) => t.setIfInBounds p v) a.tmps, defers := [] } W)
    (hbody : ∀ (l : Nat) (pre : List α) (x : α) (a' : Act) (W : World), I pre W → pre ++ [x] <+: E → Ax x a' → w.heap.size + (2 + c) ≤ W.heap.size → body.wpIn (Fence.wide.inRound l) (n - 1 - 1) P (goesOnS q I (pre ++ [x]) W) a' W)
    (hdone : ∀ (D : Nat) (W : World), D = w.heap.size → I E W → W.heap[D]? = some (.deferred (some [])) → Q .normal { a with defers := { target := .collected D, args := #[] } :: a.defers } W) :
    (Code.rangeFunc g ps assign body).wpIn Fence.wide n P Q a w := by
  refine wpIn_rangeFunc ?_
  intro fn hfn
  obtain ⟨rc, hrc⟩ : ∃ rc : LoopState → Loop, rc = fun st => { state := st, pending := none, fn, tmps := a.tmps, params := ps, assign, body, defers := w.heap.size } := ⟨_, rfl⟩
  obtain ⟨X, hX⟩ : ∃ X, X = (w.alloc (.deferred (some []))).alloc (.loop (rc .ready)) := ⟨_, rfl⟩
  have hXz : X.heap.size = w.heap.size + 2 := by rw [hX]; simp
  have hXb : Below w.heap.size w X := by rw [hX]; exact ((Below.refl _ w).alloc (Nat.le_refl _) _).alloc (by simp) _
  have hXl : X.heap[w.heap.size + 1]? = some (.loop (rc .ready)) := by
    have := World.alloc_heap_new (w.alloc (.deferred (some []))) (.loop (rc .ready))
    rw [World.size_alloc] at this; rw [hX]; exact this
  have hXd : X.heap[w.heap.size]? = some (.deferred (some [])) := by
    rw [hX]; exact (Below.heap_alloc _ _ _ (by simp)).trans (World.alloc_heap_new w _)
  have hwl : Win S w.heap.size (2 + c) (w.heap.size + 1) := .inr ⟨by omega, by omega⟩
  have hsub : ∀ k, Win S X.heap.size c k → Win S w.heap.size (2 + c) k := fun _ hk => hk.imp id (fun ⟨p, q⟩ => ⟨by omega, by omega⟩)
  have hnl : ¬ Win S X.heap.size c (w.heap.size + 1) := fun h => h.elim (fun x => by have := hS _ x; omega) (fun x => by have := x.1; omega)
  have hnd : ¬ Win S X.heap.size c w.heap.size := fun h => h.elim (fun x => by have := hS _ x; omega) (fun x => by have := x.1; omega)
  refine ⟨w.heap.size + 1, [{ target := .collected w.heap.size, args := #[] }], X, { target := .fn (.func gf) lb, args := #[.func (.yield (w.heap.size + 1)) #[] #[]] }, X, gf, #[.func (.yield (w.heap.size + 1)) #[] #[]] ++ lb, X, ?_, ?_, fun _ _ => trivial, ?_, fun _ => h1, ?_⟩
  · rw [hX, hrc]; exact run_enterLoop_outer _ _ _ _ _
  · simp only [resolve, hg]; simp [go_sem]
  · simp [invoke, go_sem, eg]
  refine (hit (w.heap.size + 1) (fun pre W => I pre W ∧ W.heap[w.heap.size + 1]? = some (.loop (rc .ready)) ∧ W.heap[w.heap.size]? = some (.deferred (some []))) X hXb ?_ ?_ ?_).mono ?_
  · rintro pre A B ⟨hi, hl, hd⟩ ho
    exact ⟨hIo pre A B hi (ho.mono hsub), (ho.same _ (lt_of_heap hl) hnl).trans hl, (ho.same _ (lt_of_heap hd) hnd).trans hd⟩
  · rintro pre x A ⟨hi, hl, hd⟩ hE hAz
    have hy := run_yield (P := P) (args := encs x) hl (by rw [hrc]; exact hps x)
    rw [hrc] at hy
    refine ⟨fn, _, assign, body, hy, roundIn_of_wpIn hfn (hassign (w.heap.size + 1) pre x A _ hi ?_)⟩
    intro a' hax
    refine ⟨_, run_beginRound hl (by rw [hrc]), ?_⟩
    have hl1 : (A.putObj (w.heap.size + 1) (.loop { rc .ready with state := .busy })).heap[w.heap.size + 1]? = some (.loop { rc .ready with state := .busy }) := World.putObj_heap_same (lt_of_heap hl)
    have hd1 : (A.putObj (w.heap.size + 1) (.loop { rc .ready with state := .busy })).heap[w.heap.size]? = some (.deferred (some [])) := (World.putObj_heap_other (by omega)).trans hd
    have hk1 : StaysQ q A (A.putObj (w.heap.size + 1) (.loop { rc .ready with state := .busy })) := StaysQ.put hl rfl
    refine wpIn_mono (hbody (w.heap.size + 1) pre x a' _ (hIo pre A _ hi (Only.put hwl)) hE hax (by simp; omega)) ?_
    intro e a2 W2 hp
    cases e with
    | normal =>
      obtain ⟨ho2, hk2, hi2⟩ := hp
      have hl2 := ho2.same _ _ hl1 rfl
      have hd2 := ho2.same _ _ hd1 rfl
      have he := run_endRound (P := P) none hl2
      refine ⟨_, _, he, rfl, ⟨hIo _ _ _ hi2 (Only.put hwl), ?_, (World.putObj_heap_other (by omega)).trans hd2⟩, (hk1.trans hk2).trans (StaysQ.put hl2 rfl), put_back hl ho2 ?_ rfl⟩
      · rw [World.putObj_heap_same (lt_of_heap hl2), hrc]; rfl
      · rw [hrc]; rfl
    | ret => exact hp.elim
    | exit id => exact hp.elim
    | goto t => exact hp.elim
    | panic ch => exact hp.elim
    | outgrown => exact hp.elim
  · exact ⟨hIo _ _ _ hI0 (Only.of_below hXb), hXl, hXd⟩
  · rintro e W ⟨⟨v, rfl⟩, hi, hl, hd⟩
    have he := run_endLoop (P := P) hl (by rw [hrc]; simp)
    have hp : (rc .ready).pending = none := by rw [hrc]
    rw [hp] at he
    exact ⟨none, _, he, hdone w.heap.size _ rfl (hIo E W _ hi (Only.put hwl)) ((World.putObj_heap_other (by omega)).trans hd)⟩
end Go.Proofs.YtfnfijgknjnccaaGreatDoor
