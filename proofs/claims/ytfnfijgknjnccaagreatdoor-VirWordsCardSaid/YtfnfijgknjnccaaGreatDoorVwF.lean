/-
  vir's form: its parts; what its read answers.
-/
import Derived.Test.YtfnfijgknjnccaaGreatDoorVwE
namespace Go.Proofs.YtfnfijgknjnccaaGreatDoor
open Go.RowKit Go.Sort
def partsOf (line : ByteArray) : List ByteArray := (Lib.fields line.data.toList).map fun l => ⟨l.toArray⟩
/-- A form. -/
structure FormV where
  k : Int
  line : ByteArray
  least : Int
  most : Int
def FormV.v (f : FormV) : Value := .agg #[.int .i64 f.k, .string f.line, .int .i64 f.least, .int .i64 f.most]
def Ascii (s : ByteArray) : Prop := s.size ≤ 65536 ∧ ∀ (j : Nat) b, s.data.toList[j]? = some b → b.toNat < 128
set_option maxHeartbeats 4000000
set_option maxRecDepth 100000
theorem parts_any (f : FormV) (hA : Ascii f.line) (w : World) (hE : EnvV w) :
    Calls Tryz.prog 67 #[f.v] w fun e w' => ∃ b, e = .returned (.slice (some ⟨b, 0, none⟩) (partsOf f.line).length (partsOf f.line).length) ∧ StrsL w' (some ⟨b, 0, none⟩) (partsOf f.line) ∧ w.heap.size ≤ b ∧ Below w.heap.size w w' := by
  obtain ⟨k, line, least, most⟩ := f
  simp only [FormV.v]
  dsimp only at hA
  have hb0 : Below w.heap.size w (w.alloc (.cells #[.int .i64 k, .string line, .int .i64 least, .int .i64 most] 89)) := (Below.refl _ _).alloc (Nat.le_refl _) _
  have K : Calls Tryz.prog 89 #[.string line] (w.alloc (.cells #[.int .i64 k, .string line, .int .i64 least, .int .i64 most] 89)) fun e w' => ∃ b, e = .returned (.slice (some ⟨b, 0, none⟩) (partsOf line).length (partsOf line).length) ∧ StrsL w' (some ⟨b, 0, none⟩) (partsOf line) ∧ w.heap.size ≤ b ∧ Below w.heap.size w w' :=
    (Tryz.strings_Fields line _ (by have := hA.1; omega) hA.2 (hE.below hb0).spc).mono fun e w' ⟨h1, h2⟩ => by
      have hl : (partsOf line).length = (Lib.fields line.data.toList).length := by unfold partsOf; rw [List.length_map]
      rw [hl]
      refine ⟨_, h1, fun j x hx => ?_, hb0.size, by rw [h2]; exact hb0.alloc hb0.size _⟩
      refine ⟨_, _, rfl, ?_⟩
      rw [h2, Nat.zero_add]
      have hj : (List.map (fun l : List UInt8 => Value.string ⟨l.toArray⟩) (Lib.fields line.data.toList))[j]? = some (.string x) := by
        have e : List.map (fun l : List UInt8 => Value.string ⟨l.toArray⟩) (Lib.fields line.data.toList) = (partsOf line).map Value.string := by unfold partsOf; rw [List.map_map]; rfl
        rw [e, List.getElem?_map, hx]
        rfl
      exact new_cell _ _ _ (by rw [← hj]; simp)
  clear hE hA
  generalize partsOf line = P at *
  go_enter Tryz.func67, Tryz.ntmps67
  go_wp2_with (go_at_call 89; refine K.mono ?_; clear K; rintro e W1 ⟨b, rfl, h1, h2, h3⟩)
  go_ret
  exact ⟨b, rfl, h1, h2, h3⟩
theorem Cells.set {W : World} {T j : Nat} {t : TypeId} {cs : Array Value} (h : Cells W T t cs) (v : Value) : Cells (W.setCell ⟨T, j, none⟩ v) T t (cs.setIfInBounds j v) := by
  obtain ⟨hlt, hk⟩ := Array.getElem?_eq_some_iff.1 h
  show (W.heap.modify T _)[T]? = _
  rw [Array.getElem?_eq_getElem (by rw [Array.size_modify]; exact hlt), Array.getElem_modify_self, hk]
  rfl
/-- An instruction when a word is read to where a part stands. -/
def getX (x : InsV) (part word : ByteArray) : InsV :=
  if part.toList = [78] then { x with n := intV word }
  else if part.toList = [78, 65, 77, 69] then { x with nm := word }
  else if part.toList = [79, 80] then { x with nm := if opBad word then ⟨#[]⟩ else word }
  else if part.toList = [68] then { x with d := intV word }
  else if part.toList = [65] then { x with a := intV word }
  else if part.toList = [66] then { x with b := intV word }
  else if part.toList = [84] then { x with t := intV word }
  else if part.toList = [70] then { x with f := intV word }
  else x
theorem getX_cells (x : InsV) (part word : ByteArray) : (match getCell part word with | some (i, v) => x.cells.setIfInBounds i v | none => x.cells) = (getX x part word).cells := by
  by_cases h0 : part.toList = [78]
  · have e1 : getCell part word = some (4, .int .i64 (intV word)) := by unfold getCell; rw [if_pos h0]
    have e2 : getX x part word = { x with n := intV word } := by unfold getX; rw [if_pos h0]
    rw [e1, e2]; rfl
  by_cases h1 : part.toList = [78, 65, 77, 69]
  · have e1 : getCell part word = some (5, .string word) := by unfold getCell; rw [if_neg h0, if_pos h1]
    have e2 : getX x part word = { x with nm := word } := by unfold getX; rw [if_neg h0, if_pos h1]
    rw [e1, e2]; rfl
  by_cases h2 : part.toList = [79, 80]
  · have e1 : getCell part word = some (5, .string (if opBad word then ⟨#[]⟩ else word)) := by unfold getCell; rw [if_neg h0, if_neg h1, if_pos h2]
    have e2 : getX x part word = { x with nm := if opBad word then ⟨#[]⟩ else word } := by unfold getX; rw [if_neg h0, if_neg h1, if_pos h2]
    rw [e1, e2]; rfl
  have e1 : getCell part word = (placeI part).map fun i => (i, .int .i64 (intV word)) := by unfold getCell; rw [if_neg h0, if_neg h1, if_neg h2]
  rw [e1]
  by_cases g1 : part.toList = [68]
  · have e2 : getX x part word = { x with d := intV word } := by unfold getX; rw [if_neg h0, if_neg h1, if_neg h2, if_pos g1]
    have e3 : placeI part = some 1 := by unfold placeI; rw [if_pos g1]
    rw [e2, e3]; rfl
  by_cases g2 : part.toList = [65]
  · have e2 : getX x part word = { x with a := intV word } := by unfold getX; rw [if_neg h0, if_neg h1, if_neg h2, if_neg g1, if_pos g2]
    have e3 : placeI part = some 2 := by unfold placeI; rw [if_neg g1, if_pos g2]
    rw [e2, e3]; rfl
  by_cases g3 : part.toList = [66]
  · have e2 : getX x part word = { x with b := intV word } := by unfold getX; rw [if_neg h0, if_neg h1, if_neg h2, if_neg g1, if_neg g2, if_pos g3]
    have e3 : placeI part = some 3 := by unfold placeI; rw [if_neg g1, if_neg g2, if_pos g3]
    rw [e2, e3]; rfl
  by_cases g4 : part.toList = [84]
  · have e2 : getX x part word = { x with t := intV word } := by unfold getX; rw [if_neg h0, if_neg h1, if_neg h2, if_neg g1, if_neg g2, if_neg g3, if_pos g4]
    have e3 : placeI part = some 7 := by unfold placeI; rw [if_neg g1, if_neg g2, if_neg g3, if_pos g4]
    rw [e2, e3]; rfl
  by_cases g5 : part.toList = [70]
  · have e2 : getX x part word = { x with f := intV word } := by unfold getX; rw [if_neg h0, if_neg h1, if_neg h2, if_neg g1, if_neg g2, if_neg g3, if_neg g4, if_pos g5]
    have e3 : placeI part = some 8 := by unfold placeI; rw [if_neg g1, if_neg g2, if_neg g3, if_neg g4, if_pos g5]
    rw [e2, e3]; rfl
  have e2 : getX x part word = x := by unfold getX; rw [if_neg h0, if_neg h1, if_neg h2, if_neg g1, if_neg g2, if_neg g3, if_neg g4, if_neg g5]
  have e3 : placeI part = none := by unfold placeI; rw [if_neg g1, if_neg g2, if_neg g3, if_neg g4, if_neg g5, if_neg h0]
  rw [e2, e3]; rfl
/-- All but block B stays. -/
def StaysBut (B : Nat) (w w' : World) : Prop := ∀ k o, k ≠ B → w.heap[k]? = some o → w'.heap[k]? = some o
theorem StaysBut.cell {B : Nat} {w w' : World} (h : StaysBut B w w') {p : Addr} {v : Value} (hp : p.block ≠ B) (hc : w.cell? p = some v) : w'.cell? p = some v := by
  have hlt := World.block_lt_of_cell? _ _ hc
  have e := h p.block _ hp (Array.getElem?_eq_getElem hlt)
  rw [World.cell?_of_block (w := w) (w' := w') (by rw [e, Array.getElem?_eq_getElem hlt])]
  exact hc
theorem StaysBut.trans {B : Nat} {a b c : World} (h : StaysBut B a b) (k : StaysBut B b c) : StaysBut B a c := fun i o hi ho => k i o hi (h i o hi ho)
theorem StaysBut.strs {B b : Nat} {w w' : World} (h : StaysBut B w w') (hb : b ≠ B) {l : List ByteArray} (hl : StrsL w (some ⟨b, 0, none⟩) l) : StrsL w' (some ⟨b, 0, none⟩) l := fun j x hx => by
  obtain ⟨b2, o, h1, h2⟩ := hl j x hx
  cases h1
  exact ⟨b, 0, rfl, h.cell hb h2⟩
theorem heapB {w : World} {k : Nat} {o : Obj} (h : w.heap[k]? = some o) : k < w.heap.size := by
  rw [Array.getElem?_eq_some_iff] at h
  exact h.1
theorem getX_any (part word : ByteArray) (B : Nat) (x : InsV) (w : World) (hE : EnvV w) (hs : word.size ≤ 65536) (hB : Cells w B 25 x.cells)
    (hN : part.toList = [78, 65, 77, 69] → IsName word) (hO : part.toList = [79, 80] → opBad word = false → IsName word) (base : Nat) (hbase : base ≤ B) (hbw : base ≤ w.heap.size) :
    Calls Tryz.prog 69 #[.pointer (some ⟨B, 0, none⟩), .string part, .string word] w fun e w' => e = .returned (.bool (getOk part word)) ∧ Cells w' B 25 (getX x part word).cells ∧ Below base w w' ∧ StaysBut B w w' :=
  (get_any part word B x.cells w hE hs hB rfl hN hO).mono fun e w' ⟨h1, W1, h2, h3⟩ => by
    refine ⟨h1, ?_, ?_, ?_⟩
    · rw [← getX_cells, h3]
      have hB1 := hB.below h2 hB.lt
      cases getCell part word with
      | none => exact hB1
      | some p => exact hB1.set (j := p.1) p.2
    · rw [h3]
      have h4 := h2.mono hbw
      cases getCell part word with
      | none => exact h4
      | some p => exact h4.setCell (p := ⟨B, p.1, none⟩) hbase _
    · rw [h3]
      have h5 : StaysBut B w W1 := fun k o _ ho => (h2.block k (heapB ho)).trans ho
      cases getCell part word with
      | none => exact h5
      | some p => exact h5.trans (fun k o hk ho => (Below.heap_setCell W1 ⟨B, p.1, none⟩ p.2 k hk).trans ho)
end Go.Proofs.YtfnfijgknjnccaaGreatDoor
