/-
  A start that meets the rows' list; what the list gives a walk of vir.
-/
import Derived.Test.YtfnfijgknjnccaaGreatDoorRows
import Derived.Test.YtfnfijgknjnccaaGreatDoorVwX
import Derived.ProofKit
import Derived.LaidMore
import Derived.LaidLaws
import Derived.LaidHandle
import Derived.Handed
import Derived.SizedLaws
import Derived.Stop.Joined
import Derived.Shelf.Vars
import Derived.LaidSub
import Derived.OpenShut
import Derived.LaidOnce
/-! A start that meets what the rows list; the law by which a walk from such a start, whose world keeps the program's shape, becomes a row's proof. -/
namespace Go.Proofs.YtfnfijgknjnccaaGreatDoor
open Go.ChangeShapes Go.WideShapes Go.ChangeAt Go.RowKit

theorem own : ownKnob Tryz.prog.godebug = none := by kernel_rfl
theorem laidOut : laidOutB Tryz.prog = true := by kernel_rfl

theorem env_of_shaped (W : World) (h : W.ShapedOpen Tryz.prog) : Env W :=
  cell_of_shapedOpen_int (zero := #[.int .i64 0]) (t := 3) h (of_decide_eq_true (by kernel_rfl)) (by kernel_rfl) rfl (by kernel_rfl) (by kernel_rfl) Tryz.underlying3

/-- What a plain number or an array of such lies as. -/
def cellsOfLits (d : DataW Unit) : Array Value :=
  match d with
  | .agg parts => (parts.map fun
      | .lit (.int k n) => Value.int k n
      | _ => Value.bool false).toArray
  | _ => #[]

/-- A start: the program's variables laid as its text lays them, and Go's own table beside them. -/
noncomputable def start (os : Os) : World :=
  let w0 := World.doorLaid Tryz.prog 111 os
  { w0 with heap := w0.heap.modify 4 fun
      | .cells _ t frozen => .cells (cellsOfLits Rows.laid_unicode_utf8_first) t frozen
      | o => o }

/-- What each of the rows lists. -/
def listed : List (String × DataW Unit) := Rows.virConstsRow.laid

theorem laidMet_bits {P : Program} {w : World} {l : List (String × DataW Unit)} (fuel M : Nat) (h : ((DataW.laidRun P w fuel (l.map (·.1))).bind fun x => if nodupBits M x.2 0 && laidRowsB P w x.2 then some x.1 else none) = some l) : laidMet P l w := by
  cases hx : DataW.laidRun P w fuel (l.map (·.1)) with
  | none => simp [hx] at h
  | some x =>
    obtain ⟨l', ps⟩ := x
    simp only [hx, Option.bind_some] at h
    split at h
    · rename_i hb
      simp only [Option.some.injEq] at h
      subst h
      rw [Bool.and_eq_true] at hb
      exact laidMet_of_run fuel hx (decide_eq_true (nodupBits_sound hb.1).1) hb.2
    · cases h
set_option maxRecDepth 100000 in
theorem start_met (os : Os) (args : Array Value) : laidMetH Tryz.prog listed ((start os).forCall (fun _ _ => 0) ⟨#[], args, []⟩).memory :=
  laidMetH_of_parts (laidMet_bits 8 257 (by kernel_rfl)) (by kernel_rfl)

theorem listed_heap (w w' : World) (h : w.heap = w'.heap) (hl : laidMetH Tryz.prog listed w) : laidMetH Tryz.prog listed w' := hl.of_heap h

set_option maxRecDepth 100000 in
/-- A row's proof out of a walk from every world that fits and keeps the program's shape. -/
theorem handed {H : Type} {enc : TypeId × Value → H} {os : Os} {f : FuncId} {fn : Func} {s : ChangeSpec} (started : os.Started) (noInit : Tryz.prog.inits.idxOf? f = none) (hfn : Tryz.prog.funcs[f]? = some fn)
    (witness : ∃ (w : World) (tape : Tape) (i : Input), w.os = os ∧ (w.forCall tape i).Shaped Tryz.checked.prog ∧ i.vars = [] ∧ Input.okWide Tryz.checked.prog (w.forCall tape i) .any w.heap.size f i ∧
      ((s.pre enc Tryz.checked.prog fn [] false (w.forCall tape i).memory i.args ∧ laidMetH Tryz.prog listed (w.forCall tape i).memory) ∧ sizedMet enc Tryz.checked.prog fn (OpenSpec.ofChange s) false (w.forCall tape i).memory i.args) ∧
      ({} : Assume).holds Tryz.checked.prog (lone (Frame.enter Tryz.checked.prog f i.args .normal) [] (w.forCall tape i)))
    (walk : ∀ (W : World) (base : Nat) (args : Array Value) (ds gs : List (DataW H)) (before : List MemPlace),
      (∀ (j : Nat) t v, fn.params[j]? = some t → args[j]? = some v → Value.okWide Tryz.prog W .any base t v) →
      DataW.Whole enc Tryz.prog fn.params.toList s.vars false W args.toList ds gs before → (DataW.weightsEach Tryz.prog (fn.params.toList ++ s.plain.varTypes Tryz.prog) (ds ++ gs)).all (· ≤ reachBytes) = true → W.ShapedOpen Tryz.prog → laidMetH Tryz.prog listed W →
      Calls Tryz.prog f args W fun e W' => ∃ v, e = .returned v ∧ s.post enc Tryz.prog fn false true false false W args v W') :
    ReturnsInHanded {} Tryz.checked os f .any (fun w args => (s.pre enc Tryz.prog fn [] false w args ∧ laidMetH Tryz.prog listed w) ∧ sizedMet enc Tryz.prog fn (OpenSpec.ofChange s) false w args) (s.post enc Tryz.prog fn false true false false) := by
  refine returnsInHanded_of_calls (C := Tryz.checked) own started noInit witness fun w tape i _ hsh _ hok hpre _ => ?_
  obtain ⟨_, _, _, fn', hfn', _, _, _, _, hval⟩ := hok
  obtain rfl : fn' = fn := Option.some.inj (hfn'.symm.trans hfn)
  obtain ⟨⟨⟨ds, gs, before, hw, _⟩, hl⟩, hz⟩ := hpre
  have hl' : laidMetH Tryz.prog listed (w.forCall tape i) := listed_heap (w.forCall tape i).memory _ (by rfl) hl
  have hw' := DataW.Whole.of_heap (w' := w.forCall tape i) (by rfl) hw
  refine (walk (w.forCall tape i) w.heap.size i.args ds gs before hval hw' (hz.weights hw) hsh hl').mono fun e W' ⟨v, he, hp⟩ => ?_
  subst he
  exact ChangeSpec.post_blind hp
end Go.Proofs.YtfnfijgknjnccaaGreatDoor


