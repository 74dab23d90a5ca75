/-
  A range over a function whose body always goes on: the iterator tells the elements of E, one behind the other; a round is walked knowing which elements came ahead of it ('Ok').
-/
import Derived.Test.YtgnnipnnnebpiaaGreatDoorKeep
import Derived.RangeFuncSeq
import Derived.WalkKit
namespace Go.Proofs.YtgnnipnnnebpiaaGreatDoor
open Go.RowKit

/-- Calling the iterator value 'gf with lb' from w0 on tells just E, whatever the loop's owner holds in between. -/
def Tells {α : Type} (n : Nat) (P : Program) (gf : Nat) (lb : Array Value) (encs : α → Array Value) (Ts : List Nat) (Ok : List α → α → Prop) (E : List α) (w0 : World) : Prop :=
  ∀ (l : Nat) (J : List α → World → Prop) (W : World), Below w0.heap.size w0 W → (∀ pre A B, J pre A → Below A.heap.size A B → J pre B) →
    (∀ pre x A, J pre A → Ok pre x → YieldAt Fence.wide (n - 1) P l (encs x) A fun e B => e = .returned (.bool true) ∧ J (pre ++ [x]) B ∧ Keeps Ts A B) →
    J [] W → CallsIn Fence.wide n P gf (#[.func (.yield l) #[] #[]] ++ lb) W fun e B => (∃ v, e = .returned v) ∧ J E B

/-- How a round's body is left: it goes on. -/
def goesOn {α : Type} (B : Nat) (Ts : List Nat) (I : List α → World → Prop) (xs : List α) (W : World) : Exit → Act → World → Prop
  | .normal, _, W' => KeepsFrom B W W' ∧ Keeps Ts W W' ∧ I xs W'
  | _, _, _ => False

theorem range_on {α : Type} {n : Nat} {P : Program} {g : Operand} {ps : Array Tmp} {assign body : Code} {Q : Exit → Act → World → Prop} {a : Act} {w w0 : World} {gf : Nat} {lb : Array Value}
    (h1 : 1 ≤ n) (hg : a.eval g = .func (.func gf) #[] lb) (eg : ∀ args w, (callFunc gf args).run P w = .ok (.enter gf args) w)
    {encs : α → Array Value} {Ts : List Nat} {Ok : List α → α → Prop} {E : List α} (hit : Tells (n - 1) P gf lb encs Ts Ok E w0) (hb0 : Below w0.heap.size w0 w) (hTs : ∀ t, t ∈ Ts → t < w.heap.size) (hps : ∀ x, (encs x).size = ps.size)
    (I : List α → World → Prop) (hI : OwnFrom w.heap.size I) (h0 : I [] w) (Ax : α → Act → World → Prop) (hAx : ∀ x a', OwnFrom w.heap.size (fun (_ : Unit) W => Ax x a' W))
    (hassign : ∀ (l : Nat) (pre : List α) (x : α) (W : World) (K : Act → World → Prop), I pre W → Ok pre x → (∀ a' W', KeepsFrom w.heap.size W W' → Keeps Ts W W' → I pre W' → Ax x a' W' → K a' W') →
      assign.wpIn (Fence.wide.inRound l) (n - 1 - 1) P (Exit.then K (fun _ _ _ => False)) { tmps := (ps.zip (encs x)).foldl (fun t (p, v) => t.setIfInBounds p v) a.tmps, defers := [] } W)
    (hbody : ∀ (l : Nat) (pre : List α) (x : α) (a' : Act) (W : World), I pre W → Ax x a' W → Ok pre x → body.wpIn (Fence.wide.inRound l) (n - 1 - 1) P (goesOn w.heap.size Ts I (pre ++ [x]) W) a' W)
    (hdone : ∀ (D : Nat) (W : World), w.heap.size ≤ D → I E W → W.heap[D]? = some (.deferred (some [])) → Q .normal { a with defers := { target := .collected D, args := #[] } :: a.defers } W) :
    (Code.rangeFunc g ps assign body).wpIn Fence.wide n P Q a w := by
  refine wpIn_rangeFunc ?_
  intro fn hfn
  -- the loop's record
  obtain ⟨rc, hrc⟩ : ∃ rc : LoopState → Loop, rc = fun st => { state := st, pending := none, fn, tmps := a.tmps, params := ps, assign, body, defers := w.heap.size } := ⟨_, rfl⟩
  obtain ⟨S, hS⟩ : ∃ S, S = (w.alloc (.deferred (some []))).alloc (.loop (rc .ready)) := ⟨_, rfl⟩
  have hSz : S.heap.size = w.heap.size + 2 := by rw [hS]; simp
  have hSb : Below w.heap.size w S := by rw [hS]; exact ((Below.refl _ w).alloc (Nat.le_refl _) _).alloc (by simp) _
  have hSl : S.heap[w.heap.size + 1]? = some (.loop (rc .ready)) := by
    have := World.alloc_heap_new (w.alloc (.deferred (some []))) (.loop (rc .ready))
    rw [World.size_alloc] at this; rw [hS]; exact this
  have hSd : S.heap[w.heap.size]? = some (.deferred (some [])) := by
    rw [hS]; exact (Below.heap_alloc _ _ _ (by simp)).trans (World.alloc_heap_new w _)
  refine ⟨w.heap.size + 1, [{ target := .collected w.heap.size, args := #[] }], S, { target := .fn (.func gf) lb, args := #[.func (.yield (w.heap.size + 1)) #[] #[]] }, S, gf, #[.func (.yield (w.heap.size + 1)) #[] #[]] ++ lb, S, ?_, ?_, fun _ _ => trivial, ?_, fun _ => h1, ?_⟩
  · rw [hS, hrc]; exact run_enterLoop_outer _ _ _ _ _
  · simp only [resolve, hg]; simp [go_sem]
  · simp [invoke, go_sem, eg]
  -- what holds between two rounds
  refine (hit (w.heap.size + 1) (fun pre W => I pre W ∧ W.heap[w.heap.size + 1]? = some (.loop (rc .ready)) ∧ W.heap[w.heap.size]? = some (.deferred (some []))) S (hb0.trans (hSb.mono hb0.size)) ?_ ?_ ?_).mono ?_
  · rintro pre A B ⟨hi, hl, hd⟩ hb
    exact ⟨hI pre A B none hi (grownBy_of_below hb) (fun r e => by cases e), (hb.block _ (lt_of_heap hl)).trans hl, (hb.block _ (lt_of_heap hd)).trans hd⟩
  · rintro pre x A ⟨hi, hl, hd⟩ hok
    have hy := run_yield (P := P) (args := encs x) hl (by rw [hrc]; exact hps x)
    rw [hrc] at hy
    refine ⟨fn, _, assign, body, hy, roundIn_of_wpIn hfn (hassign (w.heap.size + 1) pre x A _ hi hok ?_)⟩
    intro a' W hkf hk hiW hax
    have hlW := hkf.same _ _ (by omega) hl rfl
    have hdW := hkf.same _ _ (Nat.le_refl _) hd rfl
    refine ⟨_, run_beginRound hlW (by rw [hrc]), ?_⟩
    have hl1 : (W.putObj (w.heap.size + 1) (.loop { rc .ready with state := .busy })).heap[w.heap.size + 1]? = some (.loop { rc .ready with state := .busy }) := World.putObj_heap_same (lt_of_heap hlW)
    have hd1 : (W.putObj (w.heap.size + 1) (.loop { rc .ready with state := .busy })).heap[w.heap.size]? = some (.deferred (some [])) := (World.putObj_heap_other (by omega)).trans hdW
    have hk1 : Keeps Ts W (W.putObj (w.heap.size + 1) (.loop { rc .ready with state := .busy })) := keepsK_b hTs _ _ _ _ (by omega) hlW rfl rfl
    refine wpIn_mono (hbody (w.heap.size + 1) pre x a' _ (hI.putObj _ hiW (by omega) hlW rfl) ((hAx x a').putObj (s := ()) _ hax (by omega) hlW rfl) hok) ?_
    intro e a2 W2 hp
    cases e with
    | normal =>
      obtain ⟨hkf2, hk2, hi2⟩ := hp
      have hl2 := hkf2.same _ _ (by omega) hl1 rfl
      have hd2 := hkf2.same _ _ (Nat.le_refl _) hd1 rfl
      have he := run_endRound (P := P) none hl2
      refine ⟨_, _, he, rfl, ⟨hI.putObj _ hi2 (by omega) hl2 rfl, ?_, (World.putObj_heap_other (by omega)).trans hd2⟩, ((hk.trans hk1).trans hk2).trans (keepsK_b hTs _ _ _ _ (by omega) hl2 rfl rfl)⟩
      rw [World.putObj_heap_same (lt_of_heap hl2), hrc]; rfl
    | ret => exact hp.elim
    | exit id => exact hp.elim
    | goto t => exact hp.elim
    | panic ch => exact hp.elim
    | outgrown => exact hp.elim
  · exact ⟨hI [] w S none h0 (grownBy_of_below hSb) (fun r e => by cases e), hSl, hSd⟩
  · rintro e W ⟨⟨v, rfl⟩, hi, hl, hd⟩
    have he := run_endLoop (P := P) hl (by rw [hrc]; simp)
    have hp : (rc .ready).pending = none := by rw [hrc]
    rw [hp] at he
    exact ⟨none, _, he, hdone w.heap.size _ (Nat.le_refl _) (hI.putObj _ hi (by omega) hl rfl) ((World.putObj_heap_other (by omega)).trans hd)⟩
end Go.Proofs.YtgnnipnnnebpiaaGreatDoor
