/-
  Instructions in memory; vir's place, and the two takes.
-/
import Derived.Test.YtfnfijgknjnccaaGreatDoorLexDesc
import Derived.Test.YtfnfijgknjnccaaGreatDoorVwA
import Derived.Laws.EntriesVeiled
namespace Go.Proofs.YtfnfijgknjnccaaGreatDoor
open Go.RowKit
/-- An instruction. -/
structure InsV where
  k : Int
  d : Int
  a : Int
  b : Int
  n : Int
  nm : ByteArray
  sa : Option Addr
  sn : Nat
  sc : Nat
  t : Int
  f : Int
def InsV.cells (x : InsV) : Array Value := #[.int .i64 x.k, .int .i64 x.d, .int .i64 x.a, .int .i64 x.b, .int .i64 x.n, .string x.nm, .slice x.sa x.sn x.sc, .int .i64 x.t, .int .i64 x.f]
/-- The part's place among an instruction's cells. -/
def placeI (s : ByteArray) : Option Nat :=
  if s.toList = [68] then some 1 else if s.toList = [65] then some 2 else if s.toList = [66] then some 3 else if s.toList = [84] then some 7 else if s.toList = [70] then some 8 else if s.toList = [78] then some 4 else none
set_option maxHeartbeats 1600000
set_option maxRecDepth 100000
theorem place_any (s : ByteArray) (B : Nat) (w : World) :
    Calls Tryz.prog 90 #[.pointer (some ⟨B, 0, none⟩), .string s] w fun e w' => e = .returned (.pointer ((placeI s).map fun i => ⟨B, i, none⟩)) ∧ w = w' := by
  by_cases h0 : s.toList = [68]
  · have e : placeI s = some 1 := by unfold placeI; rw [if_pos h0]
    rw [e]
    go_enter Tryz.func90, Tryz.ntmps90
    go_wp2
    go_ret
    exact ⟨rfl, rfl⟩
  by_cases h1 : s.toList = [65]
  · have e : placeI s = some 2 := by unfold placeI; rw [if_neg h0, if_pos h1]
    rw [e]
    clear h0
    go_enter Tryz.func90, Tryz.ntmps90
    go_wp2
    go_ret
    exact ⟨rfl, rfl⟩
  by_cases h2 : s.toList = [66]
  · have e : placeI s = some 3 := by unfold placeI; rw [if_neg h0, if_neg h1, if_pos h2]
    rw [e]
    clear h0 h1
    go_enter Tryz.func90, Tryz.ntmps90
    go_wp2
    go_ret
    exact ⟨rfl, rfl⟩
  by_cases h3 : s.toList = [84]
  · have e : placeI s = some 7 := by unfold placeI; rw [if_neg h0, if_neg h1, if_neg h2, if_pos h3]
    rw [e]
    clear h0 h1 h2
    go_enter Tryz.func90, Tryz.ntmps90
    go_wp2
    go_ret
    exact ⟨rfl, rfl⟩
  by_cases h4 : s.toList = [70]
  · have e : placeI s = some 8 := by unfold placeI; rw [if_neg h0, if_neg h1, if_neg h2, if_neg h3, if_pos h4]
    rw [e]
    clear h0 h1 h2 h3
    go_enter Tryz.func90, Tryz.ntmps90
    go_wp2
    go_ret
    exact ⟨rfl, rfl⟩
  by_cases h5 : s.toList = [78]
  · have e : placeI s = some 4 := by unfold placeI; rw [if_neg h0, if_neg h1, if_neg h2, if_neg h3, if_neg h4, if_pos h5]
    rw [e]
    clear h0 h1 h2 h3 h4
    go_enter Tryz.func90, Tryz.ntmps90
    go_wp2
    go_ret
    exact ⟨rfl, rfl⟩
  have e : placeI s = none := by unfold placeI; rw [if_neg h0, if_neg h1, if_neg h2, if_neg h3, if_neg h4, if_neg h5]
  rw [e]
  have g0 : (s.toList == [68]) = false := beq_eq_false_iff_ne.2 h0
  have g1 : (s.toList == [65]) = false := beq_eq_false_iff_ne.2 h1
  have g2 : (s.toList == [66]) = false := beq_eq_false_iff_ne.2 h2
  have g3 : (s.toList == [84]) = false := beq_eq_false_iff_ne.2 h3
  have g4 : (s.toList == [70]) = false := beq_eq_false_iff_ne.2 h4
  have g5 : (s.toList == [78]) = false := beq_eq_false_iff_ne.2 h5
  clear h0 h1 h2 h3 h4 h5
  go_enter Tryz.func90, Tryz.ntmps90
  go_wp2
  go_ret
  exact ⟨rfl, rfl⟩
/-- take: what is read is stored where it belongs. -/
theorem takeI_any {g : FuncId} {s : ByteArray} {p : Addr} {v : Int} {ok : Bool} {old : Value} {w : World} (eg : ∀ (args : Array Value) (w : World), (callFunc g args).run Tryz.prog w = .ok (.enter g args) w)
    (K : Calls Tryz.prog g #[.string s] w fun e w' => e = .returned (.tuple #[.int .i64 v, .bool ok]) ∧ Below w.heap.size w w') (hp : w.cell? p = some old) (hf : w.frozen? p = false) :
    Calls Tryz.prog 91 #[.string s, .func (.func g) #[] #[], .pointer (some p)] w fun e w' => e = .returned (.bool ok) ∧ ∃ W1, Below w.heap.size w W1 ∧ w' = W1.setCell p (.int .i64 v) := by
  have hlt := World.block_lt_of_cell? _ _ hp
  go_enter Tryz.func91, Tryz.ntmps91
  go_wp2_with (go_at_fn g; refine K.mono ?_; clear K; rintro e W1 ⟨rfl, hb⟩; have hc := cell_below hb hp; have hff := (hb.frozen hlt).trans hf)
  go_ret
  exact ⟨rfl, _, hb, rfl⟩
end Go.Proofs.YtfnfijgknjnccaaGreatDoor
