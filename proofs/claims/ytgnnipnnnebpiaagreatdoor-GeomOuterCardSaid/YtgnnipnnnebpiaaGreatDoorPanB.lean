/-
  A range over a function that tells the elements of E, and then one at which the loop's body panics.
-/
import Derived.Test.YtgnnipnnnebpiaaGreatDoorPanA
namespace Go.Proofs.YtgnnipnnnebpiaaGreatDoor
open Go.RowKit

/-- Calling the iterator value tells just E and then x0, and passes on the panic in which that round ends. -/
def TellsP {α : Type} (n : Nat) (P : Program) (gf : Nat) (lb : Array Value) (encs : α → Array Value) (Ts : List Nat) (Ok : List α → α → Prop) (E : List α) (x0 : α) (chain : List PanicEntry) (w0 : World) : Prop :=
  ∀ (l : Nat) (J : List α → World → Prop) (R : World → Prop) (W : World), Below w0.heap.size w0 W → (∀ pre A B, J pre A → Below A.heap.size A B → J pre B) →
    (∀ pre x A, J pre A → Ok pre x → YieldAt Fence.wide (n - 1) P l (encs x) A fun e B => e = .returned (.bool true) ∧ J (pre ++ [x]) B ∧ Keeps Ts A B) →
    (∀ A, J E A → YieldAt Fence.wide (n - 1) P l (encs x0) A fun e B => e = .panicked chain ∧ R B) →
    J [] W → CallsIn Fence.wide n P gf (#[.func (.yield l) #[] #[]] ++ lb) W fun e B => e = .panicked chain ∧ R B

theorem range_panics {α : Type} {n : Nat} {P : Program} {f : FuncId} {fv : Func} {g : Operand} {ps : Array Tmp} {assign body : Code} {Q : Exit → Act → World → Prop} {a : Act} {w w0 : World} {gf : Nat} {lb : Array Value} (hf : P.funcs[f]? = some fv)
    (hg : a.eval g = .func (.func gf) #[] lb) (eg : ∀ args w, (callFunc gf args).run P w = .ok (.enter gf args) w)
    {encs : α → Array Value} {Ts : List Nat} {Ok : List α → α → Prop} {E : List α} {x0 : α} {chain : List PanicEntry} (hit : TellsP (n - 1) P gf lb encs Ts Ok E x0 chain w0) (hb0 : Below w0.heap.size w0 w) (hTs : ∀ t, t ∈ Ts → t < w.heap.size) (hps : ∀ x, (encs x).size = ps.size)
    (I : List α → World → Prop) (hI : OwnFrom w.heap.size I) (h0 : I [] w) (Ax : α → Act → World → Prop) (hAx : ∀ x a', OwnFrom w.heap.size (fun (_ : Unit) W => Ax x a' W)) (Rb : World → Prop)
    (hassign : ∀ (l : Nat) (pre : List α) (x : α) (W : World) (K : Act → World → Prop), I pre W → (Ok pre x ∨ (pre = E ∧ x = x0)) → (∀ a' W', KeepsFrom w.heap.size W W' → Keeps Ts W W' → I pre W' → Ax x a' W' → K a' W') →
      assign.wpIn (Fence.wide.inRound l) (n - 1 - 1) P (Exit.then K (fun _ _ _ => False)) { tmps := (ps.zip (encs x)).foldl (fun t (p, v) => t.setIfInBounds p v) a.tmps, defers := [] } W)
    (hbody : ∀ (l : Nat) (pre : List α) (x : α) (a' : Act) (W : World), I pre W → Ax x a' W → Ok pre x → body.wpIn (Fence.wide.inRound l) (n - 1 - 1) P (goesOn w.heap.size Ts I (pre ++ [x]) W) a' W)
    (hlast : ∀ (l : Nat) (a' : Act) (W : World), I E W → Ax x0 a' W → body.wpIn (Fence.wide.inRound l) (n - 1 - 1) P (fun e a'' W' => e = .panic chain ∧ a''.defers = [] ∧ KeepsFrom w.heap.size W W' ∧ Rb W') a' W)
    (hdone : ∀ (D : Nat) (W : World), w.heap.size ≤ D → Rb W → W.heap[D]? = some (.deferred (some [])) → Q (.panic chain) { a with defers := { target := .collected D, args := #[] } :: a.defers } W) :
    WpAt f P (Code.rangeFunc g ps assign body) Q a w := by
  intro b k cs hro hb
  -- the loop's record
  obtain ⟨rc, hrc⟩ : ∃ rc : LoopState → Loop, rc = fun st => { state := st, pending := none, fn := f, tmps := a.tmps, params := ps, assign, body, defers := w.heap.size } := ⟨_, rfl⟩
  obtain ⟨S, hS⟩ : ∃ S, S = (w.alloc (.deferred (some []))).alloc (.loop (rc .ready)) := ⟨_, rfl⟩
  have hSb : Below w.heap.size w S := by rw [hS]; exact ((Below.refl _ w).alloc (Nat.le_refl _) _).alloc (by simp) _
  have hSl : S.heap[w.heap.size + 1]? = some (.loop (rc .ready)) := by
    have := World.alloc_heap_new (w.alloc (.deferred (some []))) (.loop (rc .ready))
    rw [World.size_alloc] at this; rw [hS]; exact this
  have hSd : S.heap[w.heap.size]? = some (.deferred (some [])) := by
    rw [hS]; exact (Below.heap_alloc _ _ _ (by simp)).trans (World.alloc_heap_new w _)
  have he : (Instr.enterLoop b.fn a.tmps ps assign body b.roundOf).run P w = .ok (w.heap.size + 1, [{ target := .collected w.heap.size, args := #[] }]) S := by
    rw [hro, hb, hS, hrc]; exact run_enterLoop_outer _ _ _ _ _
  have hres : (resolve a.eval (rangeCall g (w.heap.size + 1)) 0).run P S = .ok { target := .fn (.func gf) lb, args := #[.func (.yield (w.heap.size + 1)) #[] #[]] } S := by
    simp only [resolve, hg]; simp [go_sem]
  have hinv : (invoke (.fn (.func gf) lb) #[.func (.yield (w.heap.size + 1)) #[] #[]]).run P S = .ok (.enter gf (#[.func (.yield (w.heap.size + 1)) #[] #[]] ++ lb)) S := by
    simp [invoke, go_sem, eg]
  have henter := stepR_rangeFunc (P := P) (b := b) (a := a) (k := k) (cs := cs) (w := w) he hres hinv
  have hcall : CallsIn Fence.wide (n - 1) P gf (#[.func (.yield (w.heap.size + 1)) #[] #[]] ++ lb) S fun e B => e = .panicked chain ∧ (Rb B ∧ B.heap[w.heap.size]? = some (.deferred (some []))) := by
    refine hit (w.heap.size + 1) (fun pre W => I pre W ∧ W.heap[w.heap.size + 1]? = some (.loop (rc .ready)) ∧ W.heap[w.heap.size]? = some (.deferred (some []))) _ S (hb0.trans (hSb.mono hb0.size)) ?_ ?_ ?_ ?_
    · rintro pre A B ⟨hi, hl, hd⟩ hb
      exact ⟨hI pre A B none hi (grownBy_of_below hb) (fun r e => by cases e), (hb.block _ (lt_of_heap hl)).trans hl, (hb.block _ (lt_of_heap hd)).trans hd⟩
    · rintro pre x A ⟨hi, hl, hd⟩ hok
      have hy := run_yield (P := P) (args := encs x) hl (by rw [hrc]; exact hps x)
      rw [hrc] at hy
      refine ⟨f, _, assign, body, hy, roundIn_of_wpIn trivial (hassign (w.heap.size + 1) pre x A _ hi (.inl hok) ?_)⟩
      intro a' W hkf hk hiW hax
      have hlW := hkf.same _ _ (by omega) hl rfl
      have hdW := hkf.same _ _ (Nat.le_refl _) hd rfl
      refine ⟨_, run_beginRound hlW (by rw [hrc]), ?_⟩
      have hl1 : (W.putObj (w.heap.size + 1) (.loop { rc .ready with state := .busy })).heap[w.heap.size + 1]? = some (.loop { rc .ready with state := .busy }) := World.putObj_heap_same (lt_of_heap hlW)
      have hd1 : (W.putObj (w.heap.size + 1) (.loop { rc .ready with state := .busy })).heap[w.heap.size]? = some (.deferred (some [])) := (World.putObj_heap_other (by omega)).trans hdW
      have hk1 : Keeps Ts W (W.putObj (w.heap.size + 1) (.loop { rc .ready with state := .busy })) := keepsK_b hTs _ _ _ _ (by omega) hlW rfl rfl
      refine wpIn_mono (hbody (w.heap.size + 1) pre x a' _ (hI.putObj _ hiW (by omega) hlW rfl) ((hAx x a').putObj (s := ()) _ hax (by omega) hlW rfl) hok) ?_
      intro e a2 W2 hp
      cases e with
      | normal =>
        obtain ⟨hkf2, hk2, hi2⟩ := hp
        have hl2 := hkf2.same _ _ (by omega) hl1 rfl
        have hd2 := hkf2.same _ _ (Nat.le_refl _) hd1 rfl
        have he := run_endRound (P := P) none hl2
        refine ⟨_, _, he, rfl, ⟨hI.putObj _ hi2 (by omega) hl2 rfl, ?_, (World.putObj_heap_other (by omega)).trans hd2⟩, ((hk.trans hk1).trans hk2).trans (keepsK_b hTs _ _ _ _ (by omega) hl2 rfl rfl)⟩
        rw [World.putObj_heap_same (lt_of_heap hl2), hrc]; rfl
      | ret => exact hp.elim
      | exit id => exact hp.elim
      | goto t => exact hp.elim
      | panic ch => exact hp.elim
      | outgrown => exact hp.elim
    · rintro A ⟨hi, hl, hd⟩
      have hy := run_yield (P := P) (args := encs x0) hl (by rw [hrc]; exact hps x0)
      rw [hrc] at hy
      refine ⟨f, _, assign, body, hy, round_panics hf (hassign (w.heap.size + 1) E x0 A _ hi (.inr ⟨rfl, rfl⟩) ?_)⟩
      intro a' W hkf _ hiW hax
      have hlW := hkf.same _ _ (by omega) hl rfl
      have hdW := hkf.same _ _ (Nat.le_refl _) hd rfl
      refine ⟨_, run_beginRound hlW (by rw [hrc]), ?_⟩
      have hd1 : (W.putObj (w.heap.size + 1) (.loop { rc .ready with state := .busy })).heap[w.heap.size]? = some (.deferred (some [])) := (World.putObj_heap_other (by omega)).trans hdW
      refine wpIn_mono (hlast (w.heap.size + 1) a' _ (hI.putObj _ hiW (by omega) hlW rfl) ((hAx x0 a').putObj (s := ()) _ hax (by omega) hlW rfl)) ?_
      rintro e a2 W2 ⟨rfl, hd2, hkf2, hR⟩
      exact ⟨rfl, hd2, hR, hkf2.same _ _ (Nat.le_refl _) hd1 rfl⟩
    · exact ⟨hI [] w S none h0 (grownBy_of_below hSb) (fun r e => by cases e), hSl, hSd⟩
  obtain ⟨e, w₃, fr, ⟨rfl, hR, hd⟩, hsteps, _, hleave⟩ := hcall.2 (b.atR { a with defers := { target := .collected w.heap.size, args := #[] } :: a.defers } (.inRangeFunc (w.heap.size + 1) :: k) :: cs) (room_wide _)
  refine ⟨.panic chain, _, w₃, hdone w.heap.size w₃ (Nat.le_refl _) hR hd, .inRangeFunc (w.heap.size + 1) :: k, .head (fenced_wide _ _) henter (StepsIn.trans hsteps (.one (fenced_wide _ _) ?_))⟩
  rw [← Frame.raise_atR]; exact step_leave_panicked hleave
end Go.Proofs.YtgnnipnnnebpiaaGreatDoor
