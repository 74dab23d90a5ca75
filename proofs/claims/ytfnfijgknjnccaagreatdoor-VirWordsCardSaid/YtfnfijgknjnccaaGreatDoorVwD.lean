/-
  vir's words that are names, and get: what an instruction has when a word is read to where a part stands.
-/
import Derived.Test.YtfnfijgknjnccaaGreatDoorVwC
namespace Go.Proofs.YtfnfijgknjnccaaGreatDoor
open Go.RowKit Go.Sort
set_option maxHeartbeats 1600000
set_option maxRecDepth 100000
theorem names_yes (s : ByteArray) (hN : IsName s) (w : World) (hE : EnvV w) : Calls Tryz.prog 21 #[.string s] w fun e w' => e = .returned (.bool true) ∧ Below w.heap.size w w' := by
  have K := tokens_name s w hE.env hN
  have h1 : (s.size : Int) ≤ 20 := by have := hN.le; omega
  clear hE hN
  go_enter Tryz.func21, Tryz.ntmps21
  go_wp2_with (go_at_call 44; refine K.mono ?_; clear K; rintro e W1 ⟨g, c, rfl, c0, c1, hb⟩)
  go_ret
  exact ⟨rfl, hb⟩
theorem name_yes (s : ByteArray) (hN : IsName s) (w : World) (hE : EnvV w) : Calls Tryz.prog 33 #[.string s] w fun e w' => e = .returned (.tuple #[.string s, .bool true]) ∧ Below w.heap.size w w' := by
  have K := names_yes s hN w hE
  have hs : s.size ≤ 65536 := by have := hN.le; omega
  have K2 := fun W => clone_any s W hs
  clear hE hN hs
  go_enter Tryz.func33, Tryz.ntmps33
  go_wp2_with (first | (go_at_call 21; refine K.mono ?_; clear K; rintro e W1 ⟨rfl, hb1⟩) | (go_at_call 59; refine (K2 _).mono ?_; rintro e W2 ⟨rfl, hb2⟩))
  go_ret2
  exact ⟨rfl, hb1.trans (hb2.mono hb1.size)⟩
def opBad (s : ByteArray) : Bool := s.toList == [99, 111, 110, 115, 116] || s.toList == [99, 111, 112, 121] || s.toList == [108, 111, 97, 100] || s.toList == [99, 97, 108, 108]
theorem operation_no (s : ByteArray) (h : opBad s = true) (w : World) : Calls Tryz.prog 92 #[.string s] w fun e w' => e = .returned (.tuple #[.string ⟨#[]⟩, .bool false]) ∧ Below w.heap.size w w' := by
  have h' : s.toList = [99, 111, 110, 115, 116] ∨ s.toList = [99, 111, 112, 121] ∨ s.toList = [108, 111, 97, 100] ∨ s.toList = [99, 97, 108, 108] := by
    unfold opBad at h
    simpa [or_assoc] using h
  clear h
  rcases h' with h | h | h | h
  all_goals
    go_enter Tryz.func92, Tryz.ntmps92
    go_wp2
    go_ret2
    exact ⟨rfl, Below.refl _ _⟩
theorem operation_yes (s : ByteArray) (h : opBad s = false) (hN : IsName s) (w : World) (hE : EnvV w) : Calls Tryz.prog 92 #[.string s] w fun e w' => e = .returned (.tuple #[.string s, .bool true]) ∧ Below w.heap.size w w' := by
  have K := name_yes s hN w hE
  unfold opBad at h
  simp only [Bool.or_eq_false_iff] at h
  obtain ⟨⟨⟨g0, g1⟩, g2⟩, g3⟩ := h
  clear hE hN
  go_enter Tryz.func92, Tryz.ntmps92
  go_wp2_with (go_at_call 33; refine K.mono ?_; clear K; rintro e W1 ⟨rfl, hb1⟩)
  go_ret2
  exact ⟨rfl, hb1⟩
theorem takeS_any {g : FuncId} {s v : ByteArray} {p : Addr} {ok : Bool} {old : Value} {w : World} (eg : ∀ (args : Array Value) (w : World), (callFunc g args).run Tryz.prog w = .ok (.enter g args) w)
    (K : Calls Tryz.prog g #[.string s] w fun e w' => e = .returned (.tuple #[.string v, .bool ok]) ∧ Below w.heap.size w w') (hp : w.cell? p = some old) (hf : w.frozen? p = false) :
    Calls Tryz.prog 57 #[.string s, .func (.func g) #[] #[], .pointer (some p)] w fun e w' => e = .returned (.bool ok) ∧ ∃ W1, Below w.heap.size w W1 ∧ w' = W1.setCell p (.string v) := by
  have hlt := World.block_lt_of_cell? _ _ hp
  go_enter Tryz.func57, Tryz.ntmps57
  go_wp2_with (go_at_fn g; refine K.mono ?_; clear K; rintro e W1 ⟨rfl, hb⟩; have hc := cell_below hb hp; have hff := (hb.frozen hlt).trans hf)
  go_ret
  exact ⟨rfl, _, hb, rfl⟩
/-- Words that may stand for a name or an operation. -/
def WordOk (s : ByteArray) : Prop := s.size ≤ 65536
/-- May the word stand where the part stands? -/
def getOk (part word : ByteArray) : Bool :=
  if part.toList = [78] then decide (wordN (intV word) = word)
  else if part.toList = [78, 65, 77, 69] then true
  else if part.toList = [79, 80] then !opBad word
  else if (placeI part).isSome then numB word
  else decide (word = part)
/-- The cell that is written, and what. -/
def getCell (part word : ByteArray) : Option (Nat × Value) :=
  if part.toList = [78] then some (4, .int .i64 (intV word))
  else if part.toList = [78, 65, 77, 69] then some (5, .string word)
  else if part.toList = [79, 80] then some (5, .string (if opBad word then ⟨#[]⟩ else word))
  else (placeI part).map fun i => (i, .int .i64 (intV word))
/-- The world behind a get. -/
def GetPost (w : World) (B : Nat) (part word : ByteArray) (e : Ending) (w' : World) : Prop :=
  e = .returned (.bool (getOk part word)) ∧ ∃ W1, Below w.heap.size w W1 ∧ w' = (match getCell part word with | some (i, v) => W1.setCell ⟨B, i, none⟩ v | none => W1)
theorem get_any (part word : ByteArray) (B : Nat) (cs : Array Value) (w : World) (hE : EnvV w) (hs : word.size ≤ 65536) (hB : Cells w B 25 cs) (hcs : cs.size = 9)
    (hN : part.toList = [78, 65, 77, 69] → IsName word) (hO : part.toList = [79, 80] → opBad word = false → IsName word) :
    Calls Tryz.prog 69 #[.pointer (some ⟨B, 0, none⟩), .string part, .string word] w (GetPost w B part word) := by
  have hcell : ∀ i, i < 9 → ∃ v, w.cell? ⟨B, i, none⟩ = some v := fun i hi => ⟨_, hB.cell (j := i) (v := cs[i]'(by omega)) (by rw [Array.getElem?_eq_getElem (by omega)])⟩
  have hfr := fun i => hB.frozen i
  by_cases h0 : part.toList = [78]
  · obtain ⟨v, hv⟩ := hcell 4 (by decide)
    have K := takeI_any (enters_of Tryz.func61 (by kernel_rfl) rfl) (integer_any word (by omega) w hE) hv (hfr 4)
    have e1 : getOk part word = decide (wordN (intV word) = word) := by unfold getOk; rw [if_pos h0]
    have e2 : getCell part word = some (4, .int .i64 (intV word)) := by unfold getCell; rw [if_pos h0]
    unfold GetPost
    rw [e1, e2]
    clear hE hs hN hO hcell e1 e2 hcs hB hv
    generalize intV word = n at *
    generalize decide (wordN n = word) = q at *
    go_enter Tryz.func69, Tryz.ntmps69
    go_wp2_with (go_at_call 91; refine K.mono ?_; clear K; rintro e W1 ⟨rfl, W2, hb, rfl⟩)
    go_ret
    exact ⟨rfl, _, hb, rfl⟩
  have g0 : (part.toList == [78]) = false := beq_eq_false_iff_ne.2 h0
  by_cases h1 : part.toList = [78, 65, 77, 69]
  · obtain ⟨v, hv⟩ := hcell 5 (by decide)
    have K := takeS_any (enters_of Tryz.func33 (by kernel_rfl) rfl) (name_yes word (hN h1) w hE) hv (hfr 5)
    have e1 : getOk part word = true := by unfold getOk; rw [if_neg h0, if_pos h1]
    have e2 : getCell part word = some (5, .string word) := by unfold getCell; rw [if_neg h0, if_pos h1]
    unfold GetPost
    rw [e1, e2]
    clear hE hs hN hO hcell e1 e2 hcs hB hv h0 g0
    go_enter Tryz.func69, Tryz.ntmps69
    go_wp2_with (go_at_call 57; refine K.mono ?_; clear K; rintro e W1 ⟨rfl, W2, hb, rfl⟩)
    go_ret
    exact ⟨rfl, _, hb, rfl⟩
  have g1 : (part.toList == [78, 65, 77, 69]) = false := beq_eq_false_iff_ne.2 h1
  by_cases h2 : part.toList = [79, 80]
  · obtain ⟨v, hv⟩ := hcell 5 (by decide)
    have K : Calls Tryz.prog 92 #[.string word] w fun e w' => e = .returned (.tuple #[.string (if opBad word then ⟨#[]⟩ else word), .bool (!opBad word)]) ∧ Below w.heap.size w w' := by
      cases hb : opBad word with
      | true => exact operation_no word hb w
      | false => exact operation_yes word hb (hO h2 hb) w hE
    have K2 := takeS_any (enters_of Tryz.func92 (by kernel_rfl) rfl) K hv (hfr 5)
    have e1 : getOk part word = !opBad word := by unfold getOk; rw [if_neg h0, if_neg h1, if_pos h2]
    have e2 : getCell part word = some (5, .string (if opBad word then ⟨#[]⟩ else word)) := by unfold getCell; rw [if_neg h0, if_neg h1, if_pos h2]
    unfold GetPost
    rw [e1, e2]
    clear hE hs hN hO hcell e1 e2 hcs hB hv h0 h1 g0 g1 K
    generalize (if opBad word then (⟨#[]⟩ : ByteArray) else word) = q at *
    generalize (!opBad word) = r at *
    go_enter Tryz.func69, Tryz.ntmps69
    go_wp2_with (go_at_call 57; refine K2.mono ?_; clear K2; rintro e W1 ⟨rfl, W2, hb, rfl⟩)
    go_ret
    exact ⟨rfl, _, hb, rfl⟩
  have g2 : (part.toList == [79, 80]) = false := beq_eq_false_iff_ne.2 h2
  have KP := fun W => place_any part B W
  cases hpl : placeI part with
  | some i =>
    have hi : i < 9 := by
      unfold placeI at hpl
      split at hpl
      · cases hpl; decide
      · split at hpl
        · cases hpl; decide
        · split at hpl
          · cases hpl; decide
          · split at hpl
            · cases hpl; decide
            · split at hpl
              · cases hpl; decide
              · cases hpl
    obtain ⟨v, hv⟩ := hcell i hi
    have K := takeI_any (enters_of Tryz.func35 (by kernel_rfl) rfl) (number_any word (by omega) w hE) hv (hfr i)
    have e1 : getOk part word = numB word := by unfold getOk; rw [if_neg h0, if_neg h1, if_neg h2, hpl]; rfl
    have e2 : getCell part word = some (i, .int .i64 (intV word)) := by unfold getCell; rw [if_neg h0, if_neg h1, if_neg h2, hpl]; rfl
    unfold GetPost
    rw [e1, e2]
    rw [hpl] at KP
    clear hE hs hN hO hcell e1 e2 hcs hB hv h0 h1 h2 hpl hi
    generalize intV word = n at *
    generalize numB word = q at *
    go_enter Tryz.func69, Tryz.ntmps69
    go_wp2_with (first | (go_at_call 90; refine (KP _).mono ?_; clear KP; rintro e W1 ⟨rfl, rfl⟩) | (go_at_call 91; refine K.mono ?_; clear K; rintro e W1 ⟨rfl, W2, hb, rfl⟩))
    go_ret
    exact ⟨rfl, _, hb, rfl⟩
  | none =>
    have e1 : getOk part word = decide (word = part) := by unfold getOk; rw [if_neg h0, if_neg h1, if_neg h2, hpl]; rfl
    have e2 : getCell part word = none := by unfold getCell; rw [if_neg h0, if_neg h1, if_neg h2, hpl]; rfl
    unfold GetPost
    rw [e1, e2]
    rw [hpl] at KP
    clear hE hs hN hO hcell e1 e2 hcs hB h0 h1 h2 hpl
    go_enter Tryz.func69, Tryz.ntmps69
    go_wp2_with (go_at_call 90; refine (KP _).mono ?_; clear KP; rintro e W1 ⟨rfl, rfl⟩)
    go_ret
    exact ⟨ret_bool (list_eq_dec word part), _, Below.refl _ _, rfl⟩
end Go.Proofs.YtfnfijgknjnccaaGreatDoor
