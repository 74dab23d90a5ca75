/-
  Bytes of names: which bytes are letters, digits, bytes in names, blanks: the contracts of the lexer's small functions. And what follows: see the heads within.
-/
import Derived.Test.YtfnfijgknjnccaaGreatDoorProg
import Derived.Test.YtfnfijgknjnccaaGreatDoorShelf
import Derived.WalkKit
import Derived.WalkSpells
import Derived.WalkLawsBesides
import Derived.Lib.Hide
import Derived.LoopTactic
import Derived.Below
import Derived.RangeFuncNested
import Derived.RangeFuncBound
import Derived.RangeFuncCalls
import Derived.RangeFuncLeaves
import Derived.WalkSmall
import Derived.Shelf.Abstract
import Derived.Shelf.RegionOpen
import Derived.OwnWalkIn
import Derived.TacticsInMore
import Derived.LoopNIn
import Derived.LoopIn
import Derived.Maps.AppendAt
import Derived.Deep.DeepMust
import Derived.WalkMore
import Derived.IntWalk
import Derived.Deep.RegionHeld3
import Derived.Deep.AppendLies
import Derived.StillTactics
import Derived.OwnWalk
import Derived.Laws.Pointers
import Derived.Maps.OwnIn

/-! Bytes of names: which bytes are letters, digits, bytes in names, blanks: the contracts of the lexer's small functions. -/
namespace Go.Proofs.YtfnfijgknjnccaaGreatDoor
open Go.RowKit

def letterB (c : Int) : Bool := (decide (97 ≤ c) && decide (c ≤ 122)) || (decide (65 ≤ c) && decide (c ≤ 90)) || decide (c = 95)
def digitB (c : Int) : Bool := decide (48 ≤ c) && decide (c ≤ 57)
def inNameB (c : Int) : Bool := letterB c || digitB c

theorem ret_bool {a b : Bool} (h : a = b) : Ending.returned (.bool a) = .returned (.bool b) := by rw [h]

set_option maxHeartbeats 400000 in
theorem isLetter_any (c : Int) (w : World) : Calls Tryz.prog 111 #[.int .u8 c] w fun e w' => e = .returned (.bool (letterB c)) ∧ w = w' := by
  go_enter Tryz.func111, Tryz.ntmps111
  go_wp2
  all_goals
    go_ret
    exact ⟨ret_bool (by unfold letterB; rw [Bool.eq_iff_iff]; simp; omega), rfl⟩

set_option maxHeartbeats 400000 in
theorem isDigit_any (c : Int) (w : World) : Calls Tryz.prog 113 #[.int .u8 c] w fun e w' => e = .returned (.bool (digitB c)) ∧ w = w' := by
  go_enter Tryz.func113, Tryz.ntmps113
  go_wp2
  all_goals
    go_ret
    exact ⟨ret_bool (by unfold digitB; rw [Bool.eq_iff_iff]; simp; omega), rfl⟩

set_option maxHeartbeats 400000 in
theorem isInName_any (c : Int) (w : World) : Calls Tryz.prog 131 #[.int .u8 c] w fun e w' => e = .returned (.bool (inNameB c)) ∧ w = w' := by
  by_cases h : letterB c = true
  all_goals
    go_enter Tryz.func131, Tryz.ntmps131
    go_wp2_with (first | (go_at_call 111; refine (isLetter_any _ _).mono ?_; rintro e w' ⟨rfl, rfl⟩) | (go_at_call 113; refine (isDigit_any _ _).mono ?_; rintro e w' ⟨rfl, rfl⟩))
    go_ret
    exact ⟨ret_bool (by unfold inNameB; simp [h]), rfl⟩
end Go.Proofs.YtfnfijgknjnccaaGreatDoor

/-! The lexer's spans: where the bytes end that are blank, that are in names, that are digits: for every text of at most 65536 bytes. -/
namespace Go.Proofs.YtfnfijgknjnccaaGreatDoor
open Go.RowKit

def blankB (c : Int) : Bool := decide (c = 32) || decide (c = 9) || decide (c = 13)
/-- Where the bytes end that stand from k on and of which p holds. -/
def spanEnd (p : Int → Bool) (s : ByteArray) (k : Nat) : Nat := k + ((s.data.toList.drop k).takeWhile (fun c => p c.toNat)).length

theorem drop_at (s : ByteArray) (k : Nat) (h : k < s.size) : s.data.toList.drop k = s[k] :: s.data.toList.drop (k + 1) := by
  rw [List.drop_eq_getElem_cons (by simpa using h)]; rfl
theorem spanEnd_step {p : Int → Bool} {s : ByteArray} {k : Nat} (h : k < s.size) (hp : p s[k].toNat = true) : spanEnd p s (k + 1) = spanEnd p s k := by
  unfold spanEnd; rw [drop_at s k h]; simp [hp]; omega
theorem spanEnd_stop {p : Int → Bool} {s : ByteArray} {k : Nat} (h : k < s.size) (hp : p s[k].toNat = false) : spanEnd p s k = k := by
  unfold spanEnd; rw [drop_at s k h]; simp [hp]
theorem spanEnd_end {p : Int → Bool} {s : ByteArray} {k : Nat} (h : s.size ≤ k) : spanEnd p s k = k := by
  unfold spanEnd; rw [List.drop_eq_nil_of_le (by simpa using h)]; simp
theorem spanEnd_ge (p : Int → Bool) (s : ByteArray) (k : Nat) : k ≤ spanEnd p s k := Nat.le_add_right _ _
theorem spanEnd_le (p : Int → Bool) (s : ByteArray) (k : Nat) (h : k ≤ s.size) : spanEnd p s k ≤ s.size := by
  unfold spanEnd
  have := (List.takeWhile_sublist (l := s.data.toList.drop k) (fun c => p c.toNat)).length_le
  simp at this; omega
theorem ret_int {k : IntKind} {a b : Int} (h : a = b) : Ending.returned (.int k a) = .returned (.int k b) := by rw [h]

theorem blank_index (c : UInt8) : (0 ≤ Lib.indexByte [32, 9, 13] c) ↔ blankB c.toNat = true := by
  unfold blankB
  have h : c = 32 ∨ c = 9 ∨ c = 13 ∨ (c ≠ 32 ∧ c ≠ 9 ∧ c ≠ 13) := by
    by_cases h1 : c = 32
    · exact .inl h1
    · by_cases h2 : c = 9
      · exact .inr (.inl h2)
      · by_cases h3 : c = 13
        · exact .inr (.inr (.inl h3))
        · exact .inr (.inr (.inr ⟨h1, h2, h3⟩))
  rcases h with rfl | rfl | rfl | ⟨h1, h2, h3⟩
  · decide
  · decide
  · decide
  · have e1 : (32 == c) = false := by simpa using fun h => h1 h.symm
    have e2 : (9 == c) = false := by simpa using fun h => h2 h.symm
    have e3 : (13 == c) = false := by simpa using fun h => h3 h.symm
    have n1 : ¬ c.toNat = 32 := fun h => h1 (UInt8.toNat_inj.1 h)
    have n2 : ¬ c.toNat = 9 := fun h => h2 (UInt8.toNat_inj.1 h)
    have n3 : ¬ c.toNat = 13 := fun h => h3 (UInt8.toNat_inj.1 h)
    have f1 : ¬ (c.toNat : Int) = 32 := by omega
    have f2 : ¬ (c.toNat : Int) = 9 := by omega
    have f3 : ¬ (c.toNat : Int) = 13 := by omega
    simp [Lib.indexByte, e1, e2, e3, f1, f2, f3]

set_option maxHeartbeats 400000 in
theorem isBlank_any (c : UInt8) (w : World) : Calls Tryz.prog 96 #[.int .u8 c.toNat] w fun e w' => e = .returned (.bool (blankB c.toNat)) ∧ w = w' := by
  have hi := blank_index c
  have hc : (c.toNat : Int).toNat.toUInt8 = c := by simp
  have H := Lib.hid hi
  have C := Tryz.strings_IndexByte ⟨#[32, 9, 13]⟩ c.toNat w
  rw [hc] at C
  clear hi hc
  go_enter Tryz.func96, Tryz.ntmps96
  go_wp2_with (go_at_call 54; refine C.mono ?_; rintro e w' ⟨rfl, rfl⟩)
  go_ret
  exact ⟨ret_bool (by rw [Bool.eq_iff_iff]; simpa using H.out), rfl⟩

set_option maxHeartbeats 600000 in
theorem span_isBlank (s : ByteArray) (k : Nat) (w : World) (hs : s.size ≤ 65536) (hk : k ≤ s.size) : Calls Tryz.prog 95 #[.string s, .int .i64 k, .func (.func 96) #[] #[]] w fun e w' => e = .returned (.int .i64 (spanEnd blankB s k)) ∧ w = w' := by
  go_enter Tryz.func95, Tryz.ntmps95
  go_wp2
  go_loop [1] (fun i => ∃ j : Nat, k ≤ j ∧ j ≤ s.size ∧ i = .int .i64 j ∧ Hid (spanEnd blankB s j = spanEnd blankB s k)) (fun i => s.size - (intOf i).toNat)
  case atStart => exact ⟨k, Nat.le_refl _, hk, rfl, Lib.hid rfl⟩
  case round =>
    obtain ⟨j, hj, hj2, rfl, hE⟩ := hrel
    by_cases hlt : j < s.size
    · by_cases hp : blankB s[j].toNat = true
      · have hE2 := Lib.hid ((spanEnd_step hlt hp).trans hE.out)
        clear hE
        go_wp2_with (go_at_call 96; refine (isBlank_any _ _).mono ?_; rintro e w' ⟨rfl, rfl⟩)
        go_round
        case rel => exact ⟨j + 1, by omega, by omega, by go_num, hE2⟩
        case measure => simp [intOf]; omega
      · have hp' : blankB s[j].toNat = false := by simpa using hp
        have hE2 := Lib.hid (hE.out.symm.trans (spanEnd_stop hlt hp'))
        clear hE hp
        go_wp2_with (go_at_call 96; refine (isBlank_any _ _).mono ?_; rintro e w' ⟨rfl, rfl⟩)
        go_ret
        exact ⟨ret_int (by rw [hE2.out]), rfl⟩
    · have hE2 := Lib.hid (hE.out.symm.trans (spanEnd_end (by omega)))
      clear hE
      go_wp2_with fail
      go_ret
      exact ⟨ret_int (by rw [hE2.out]), rfl⟩

set_option maxHeartbeats 600000 in
theorem span_isInName (s : ByteArray) (k : Nat) (w : World) (hs : s.size ≤ 65536) (hk : k ≤ s.size) : Calls Tryz.prog 95 #[.string s, .int .i64 k, .func (.func 131) #[] #[]] w fun e w' => e = .returned (.int .i64 (spanEnd inNameB s k)) ∧ w = w' := by
  go_enter Tryz.func95, Tryz.ntmps95
  go_wp2
  go_loop [1] (fun i => ∃ j : Nat, k ≤ j ∧ j ≤ s.size ∧ i = .int .i64 j ∧ Hid (spanEnd inNameB s j = spanEnd inNameB s k)) (fun i => s.size - (intOf i).toNat)
  case atStart => exact ⟨k, Nat.le_refl _, hk, rfl, Lib.hid rfl⟩
  case round =>
    obtain ⟨j, hj, hj2, rfl, hE⟩ := hrel
    by_cases hlt : j < s.size
    · by_cases hp : inNameB s[j].toNat = true
      · have hE2 := Lib.hid ((spanEnd_step hlt hp).trans hE.out)
        clear hE
        go_wp2_with (go_at_call 131; refine (isInName_any _ _).mono ?_; rintro e w' ⟨rfl, rfl⟩)
        go_round
        case rel => exact ⟨j + 1, by omega, by omega, by go_num, hE2⟩
        case measure => simp [intOf]; omega
      · have hp' : inNameB s[j].toNat = false := by simpa using hp
        have hE2 := Lib.hid (hE.out.symm.trans (spanEnd_stop hlt hp'))
        clear hE hp
        go_wp2_with (go_at_call 131; refine (isInName_any _ _).mono ?_; rintro e w' ⟨rfl, rfl⟩)
        go_ret
        exact ⟨ret_int (by rw [hE2.out]), rfl⟩
    · have hE2 := Lib.hid (hE.out.symm.trans (spanEnd_end (by omega)))
      clear hE
      go_wp2_with fail
      go_ret
      exact ⟨ret_int (by rw [hE2.out]), rfl⟩

set_option maxHeartbeats 600000 in
theorem span_isDigit (s : ByteArray) (k : Nat) (w : World) (hs : s.size ≤ 65536) (hk : k ≤ s.size) : Calls Tryz.prog 95 #[.string s, .int .i64 k, .func (.func 113) #[] #[]] w fun e w' => e = .returned (.int .i64 (spanEnd digitB s k)) ∧ w = w' := by
  go_enter Tryz.func95, Tryz.ntmps95
  go_wp2
  go_loop [1] (fun i => ∃ j : Nat, k ≤ j ∧ j ≤ s.size ∧ i = .int .i64 j ∧ Hid (spanEnd digitB s j = spanEnd digitB s k)) (fun i => s.size - (intOf i).toNat)
  case atStart => exact ⟨k, Nat.le_refl _, hk, rfl, Lib.hid rfl⟩
  case round =>
    obtain ⟨j, hj, hj2, rfl, hE⟩ := hrel
    by_cases hlt : j < s.size
    · by_cases hp : digitB s[j].toNat = true
      · have hE2 := Lib.hid ((spanEnd_step hlt hp).trans hE.out)
        clear hE
        go_wp2_with (go_at_call 113; refine (isDigit_any _ _).mono ?_; rintro e w' ⟨rfl, rfl⟩)
        go_round
        case rel => exact ⟨j + 1, by omega, by omega, by go_num, hE2⟩
        case measure => simp [intOf]; omega
      · have hp' : digitB s[j].toNat = false := by simpa using hp
        have hE2 := Lib.hid (hE.out.symm.trans (spanEnd_stop hlt hp'))
        clear hE hp
        go_wp2_with (go_at_call 113; refine (isDigit_any _ _).mono ?_; rintro e w' ⟨rfl, rfl⟩)
        go_ret
        exact ⟨ret_int (by rw [hE2.out]), rfl⟩
    · have hE2 := Lib.hid (hE.out.symm.trans (spanEnd_end (by omega)))
      clear hE
      go_wp2_with fail
      go_ret
      exact ⟨ret_int (by rw [hE2.out]), rfl⟩
end Go.Proofs.YtfnfijgknjnccaaGreatDoor

/-! The lexer's tokens: token, name, first: what the first token of a text is that begins with a letter at a place. -/
namespace Go.Proofs.YtfnfijgknjnccaaGreatDoor
open Go.RowKit

theorem bcell {W w1 : World} (hb : Below W.heap.size W w1) : (∀ b o, b < W.heap.size → w1.cell? ⟨b, o, none⟩ = W.cell? ⟨b, o, none⟩) ∧ (∀ b o, b < W.heap.size → w1.frozen? ⟨b, o, none⟩ = W.frozen? ⟨b, o, none⟩) :=
  ⟨fun b o h => hb.cell (p := ⟨b, o, none⟩) h, fun b o h => hb.frozen (p := ⟨b, o, none⟩) h⟩

set_option maxHeartbeats 400000 in
theorem clone_any (s : ByteArray) (w : World) (hs : s.size ≤ 65536) : Calls Tryz.prog 59 #[.string s] w fun e w' => e = .returned (.string s) ∧ Below w.heap.size w w' := by
  go_enter Tryz.func59, Tryz.ntmps59
  go_wp2_with (go_at_call 82; refine (Tryz.stringslite_Clone _ _ (by omega)).mono ?_; rintro e w' ⟨rfl, hb⟩)
  go_ret
  exact ⟨rfl, hb⟩

set_option maxHeartbeats 400000 in
theorem token_any (kind : Int) (s : ByteArray) (k n : Nat) (w : World) (hs : s.size ≤ 65536) (hk : k ≤ n) (hn : n ≤ s.size) :
    Calls Tryz.prog 116 #[.int .i64 kind, .string s, .int .i64 k, .int .i64 n] w fun e w' =>
      e = .returned (.agg #[.int .i64 kind, .string (s.extract k n), .int .i64 0, .int .i64 0, .int .i64 (k + 1)]) ∧ Below w.heap.size w w' := by
  have hx : (s.extract k n).size ≤ 65536 := by simp; omega
  go_enter Tryz.func116, Tryz.ntmps116
  go_wp2_with (go_at_call 59; refine (clone_any _ _ hx).mono ?_; rintro e w' ⟨rfl, hb⟩; obtain ⟨hc, hf⟩ := bcell hb; have hz : w.heap.size < w'.heap.size := (by have := hb.size; simp at this; omega))
  refine bodyPost_ret (v := .agg #[.int .i64 kind, .string (s.extract k n), .int .i64 0, .int .i64 0, .int .i64 (k + 1)]) (by simp [results, Tryz.results116, go_sem, hc]) rfl ⟨rfl, ?_⟩
  exact (((((((Below.refl _ _).alloc (Nat.le_refl _) _).trans (hb.mono (by simp))).setCell (by simp) _).setCell (by simp) _).setCell (by simp) _).setCell (by simp) _).setCell (by simp) _

/-- A name token of s from k up to n. -/
def nameTok (s : ByteArray) (k n : Nat) : Value := .agg #[.int .i64 1, .string (s.extract k n), .int .i64 0, .int .i64 0, .int .i64 (k + 1)]

set_option maxHeartbeats 400000 in
theorem name_ok (s : ByteArray) (k n : Nat) (w : World) (hs : s.size ≤ 65536) (hk : k ≤ s.size) (hn : spanEnd inNameB s k = n) (hle : n ≤ k + 20) :
    Calls Tryz.prog 112 #[.string s, .int .i64 k] w fun e w' =>
      e = .returned (.tuple #[.agg #[.int .i64 1, .string (s.extract k n), .int .i64 0, .int .i64 0, .int .i64 (k + 1)], .int .i64 0]) ∧ Below w.heap.size w w' := by
  have hge := spanEnd_ge inNameB s k
  have hle2 := spanEnd_le inNameB s k hk
  rw [hn] at hge hle2
  have C1 := fun w => span_isInName s k w hs hk
  rw [hn] at C1
  clear hn
  have C2 := fun w => token_any 1 s k n w hs hge hle2
  go_enter Tryz.func112, Tryz.ntmps112
  go_wp2_with (first
    | (go_at_call 95; refine (C1 _).mono ?_; clear C1; rintro e w' ⟨rfl, rfl⟩)
    | (go_at_call 116; refine (C2 _).mono ?_; clear C2; rintro e w' ⟨rfl, hb⟩; obtain ⟨hc, hf⟩ := bcell hb; have hz : w.heap.size < w'.heap.size := (by have := hb.size; simp at this; omega)))
  refine bodyPost_ret (v := .tuple #[.agg #[.int .i64 1, .string (s.extract k n), .int .i64 0, .int .i64 0, .int .i64 (k + 1)], .int .i64 0]) (by simp [results, Tryz.results112, go_sem, hc]) rfl ⟨rfl, ?_⟩
  exact (((((((Below.refl _ _).alloc (Nat.le_refl _) _).trans (hb.mono (by simp))).setCell (by simp) _).setCell (by simp) _).setCell (by simp) _).setCell (by simp) _).setCell (by simp) _

set_option maxHeartbeats 400000 in
theorem first_letter (s : ByteArray) (k n : Nat) (w : World) (hs : s.size ≤ 65536) (hk : k < s.size) (hl : letterB s[k].toNat = true) (hn : spanEnd inNameB s k = n) (hle : n ≤ k + 20) :
    Calls Tryz.prog 97 #[.string s, .int .i64 k] w fun e w' =>
      e = .returned (.tuple #[.agg #[.int .i64 1, .string (s.extract k n), .int .i64 0, .int .i64 0, .int .i64 (k + 1)], .int .i64 0]) ∧ Below w.heap.size w w' := by
  have C2 := fun w => name_ok s k n w hs (by omega) hn hle
  have C1 := fun w => isLetter_any s[k].toNat w
  rw [hl] at C1
  clear hn hl
  go_enter Tryz.func97, Tryz.ntmps97
  go_wp2_with (first
    | (go_at_call 111; refine (C1 _).mono ?_; clear C1; rintro e w' ⟨rfl, rfl⟩)
    | (go_at_call 112; refine (C2 _).mono ?_; clear C2; rintro e w' ⟨rfl, hb⟩; obtain ⟨hc, hf⟩ := bcell hb; have hz : w.heap.size < w'.heap.size := (by have := hb.size; simp at this; omega)))
  refine bodyPost_ret (v := .tuple #[.agg #[.int .i64 1, .string (s.extract k n), .int .i64 0, .int .i64 0, .int .i64 (k + 1)], .int .i64 0]) (by simp [results, Tryz.results97, go_sem, hc]) rfl ⟨rfl, ?_⟩
  exact (((((((Below.refl _ _).alloc (Nat.le_refl _) _).trans (hb.mono (by simp))).setCell (by simp) _).setCell (by simp) _).setCell (by simp) _).setCell (by simp) _).setCell (by simp) _
end Go.Proofs.YtfnfijgknjnccaaGreatDoor

/-! What the body of a loop over an iterator leaves as it was: every block of cells but those that the loop's owner holds (the blocks of Ts, and the arrays that slices in them stand over). Plain facts on worlds; nothing of the program. -/
namespace Go.Proofs.YtfnfijgknjnccaaGreatDoor
open Go.RowKit

/-- The block holds just these cells, none of them frozen. -/
def Cells (W : World) (b : Nat) (t : TypeId) (cs : Array Value) : Prop := W.heap[b]? = some (.cells cs t (0, 0))
theorem Cells.new (W : World) (t : TypeId) (cs : Array Value) : Cells (W.alloc (.cells cs t)) W.heap.size t cs := World.alloc_heap_new W _
theorem Cells.cell {W : World} {b : Nat} {t : TypeId} {cs : Array Value} (h : Cells W b t cs) {j : Nat} {v : Value} (hj : cs[j]? = some v) : W.cell? ⟨b, j, none⟩ = some v := by
  unfold World.cell?; rw [show W.heap[b]? = _ from h]; exact hj
theorem Cells.frozen {W : World} {b : Nat} {t : TypeId} {cs : Array Value} (h : Cells W b t cs) (j : Nat) : W.frozen? ⟨b, j, none⟩ = false := by
  unfold World.frozen?; rw [show W.heap[b]? = _ from h]; simp
theorem Cells.lt {W : World} {b : Nat} {t : TypeId} {cs : Array Value} (h : Cells W b t cs) : b < W.heap.size := (Array.getElem?_eq_some_iff.1 h).1
theorem Cells.kept {W W' : World} {row : Option Nat} {b : Nat} {t : TypeId} {cs : Array Value} (h : Cells W b t cs) (hg : W.grownBy W' row) (hne : some b ≠ row) : Cells W' b t cs := (hg.block b h.lt hne).trans h
theorem Cells.alloc {W : World} {b : Nat} {t : TypeId} {cs : Array Value} (h : Cells W b t cs) (o : Obj) : Cells (W.alloc o) b t cs := h.kept (World.grownBy_alloc W o none) (by simp)
theorem Cells.below {W W' : World} {B b : Nat} {t : TypeId} {cs : Array Value} (h : Cells W b t cs) (hb : Below B W W') (hlt : b < B) : Cells W' b t cs := (hb.block b hlt).trans h
theorem Cells.other {W : World} {b T j : Nat} {t : TypeId} {cs : Array Value} (h : Cells W b t cs) (hne : b ≠ T) (v : Value) : Cells (W.setCell ⟨T, j, none⟩ v) b t cs := (Below.heap_setCell W ⟨T, j, none⟩ v b hne).trans h
theorem cells_own {β : Type} (b : Nat) (t : TypeId) (f : β → Array Value) : Own (fun s W => Cells W b t (f s)) := fun s X Y row hs hg hrow =>
  hs.kept hg (fun e' => by obtain ⟨o, ho, hc⟩ := hrow b e'.symm; rw [show X.heap[b]? = _ from hs] at ho; cases ho; cases hc)
theorem new_cell (W : World) (cs : Array Value) (t : TypeId) {j : Nat} {v : Value} (h : cs[j]? = some v) : (W.alloc (.cells cs t)).cell? ⟨W.heap.size, j, none⟩ = some v := (Cells.new W t cs).cell h
theorem new_cells (W : World) (cs : Array Value) (t : TypeId) (l : List Value) (h : cs.toList = l) : ∀ j u, l[j]? = some u → (W.alloc (.cells cs t)).cell? ((⟨W.heap.size, 0, none⟩ : Addr).add j) = some u := by
  intro j u hj
  have : ((⟨W.heap.size, 0, none⟩ : Addr).add j) = ⟨W.heap.size, j, none⟩ := by
    simp [Addr.add]; exact fun e => e.symm
  rw [this]
  exact new_cell W cs t (by rw [← hj, ← h]; simp)
theorem cell_alloc {W : World} {a : Addr} {v : Value} (o : Obj) (h : W.cell? a = some v) : (W.alloc o).cell? a = some v := cell_kept h (World.grownBy_alloc W o none) (fun r e => by cases e)

theorem cell_drewN (W : World) (n : Nat) (a : Addr) : (W.drewN n).cell? a = W.cell? a := rfl

theorem cell_below {W W' : World} {p : Addr} {v : Value} (hb : Below W.heap.size W W') (h : W.cell? p = some v) : W'.cell? p = some v := (hb.cell (World.block_lt_of_cell? _ _ h)).trans h
theorem cellB {w w' : World} {p : Addr} {v : Value} (hb : Below w.heap.size w w') (h : w.cell? p = some v := by first | assumption | (simp [*]; done)) : w'.cell? p = some v := cell_below hb h
theorem belowN {w : World} {o : Obj} : Below w.heap.size w (w.alloc o) := (Below.refl _ _).alloc (Nat.le_refl _) _

/-- The blocks that the owner of the blocks Ts may turn. -/
def Owned (Ts : List Nat) (W : World) (b : Nat) : Prop :=
  b ∈ Ts ∨ ∃ t, t ∈ Ts ∧ ∃ (o : Nat) (a : Addr) (n c : Nat), W.cell? ⟨t, o, none⟩ = some (.slice (some a) n c) ∧ a.block = b
def OwnedOk (Ts : List Nat) (W : World) : Prop := ∀ b, Owned Ts W b → b < W.heap.size

structure Keeps (Ts : List Nat) (A B : World) : Prop where
  size : A.heap.size ≤ B.heap.size
  ok : OwnedOk Ts A → OwnedOk Ts B
  own : OwnedOk Ts A → ∀ b, b < A.heap.size → ¬ Owned Ts A b → ¬ Owned Ts B b
  keep : OwnedOk Ts A → ∀ b o, A.heap[b]? = some o → o.isCells = true → ¬ Owned Ts A b → B.heap[b]? = some o

theorem lt_of_heap {W : World} {b : Nat} {o : Obj} (h : W.heap[b]? = some o) : b < W.heap.size := (Array.getElem?_eq_some_iff.1 h).1

theorem Keeps.refl (Ts : List Nat) (A : World) : Keeps Ts A A := ⟨Nat.le_refl _, id, fun _ _ _ h => h, fun _ _ _ h _ _ => h⟩
theorem Keeps.trans {Ts : List Nat} {A B C : World} (h : Keeps Ts A B) (k : Keeps Ts B C) : Keeps Ts A C :=
  ⟨Nat.le_trans h.size k.size, fun ok => k.ok (h.ok ok),
   fun ok b hb ho => k.own (h.ok ok) b (Nat.lt_of_lt_of_le hb h.size) (h.own ok b hb ho),
   fun ok b o hb hc ho => k.keep (h.ok ok) b o (h.keep ok b o hb hc ho) hc (h.own ok b (lt_of_heap hb) ho)⟩

/-- Where the owner's blocks lie as they lay, he owns the same. -/
theorem owned_same {Ts : List Nat} {A B : World} (h : ∀ t, t ∈ Ts → B.heap[t]? = A.heap[t]?) (b : Nat) : Owned Ts B b ↔ Owned Ts A b := by
  unfold Owned
  constructor
  · rintro (h1 | ⟨t, ht, o, a, n, c, hc, ha⟩)
    · exact .inl h1
    · exact .inr ⟨t, ht, o, a, n, c, by rw [← World.cell?_of_block (a := ⟨t, o, none⟩) (h t ht)]; exact hc, ha⟩
  · rintro (h1 | ⟨t, ht, o, a, n, c, hc, ha⟩)
    · exact .inl h1
    · exact .inr ⟨t, ht, o, a, n, c, by rw [World.cell?_of_block (a := ⟨t, o, none⟩) (h t ht)]; exact hc, ha⟩

theorem OwnedOk.lt {Ts : List Nat} {W : World} (h : OwnedOk Ts W) {t : Nat} (ht : t ∈ Ts) : t < W.heap.size := h t (.inl ht)

theorem OwnedOk.below {Ts : List Nat} {A B : World} (h : OwnedOk Ts A) (hb : Below A.heap.size A B) : OwnedOk Ts B :=
  fun b ho => Nat.lt_of_lt_of_le (h b ((owned_same (fun t ht => hb.block t (h.lt ht)) b).1 ho)) hb.size
theorem owned_below {Ts : List Nat} {A B : World} (h : OwnedOk Ts A) (hb : Below A.heap.size A B) (b : Nat) : Owned Ts B b ↔ Owned Ts A b :=
  owned_same (fun t ht => hb.block t (h.lt ht)) b
/-- What was laid behind A is not the owner's. -/
theorem fresh_not_owned {Ts : List Nat} {A B : World} (h : OwnedOk Ts A) (hb : Below A.heap.size A B) {b : Nat} (hge : A.heap.size ≤ b) : ¬ Owned Ts B b :=
  fun ho => absurd (h b ((owned_below h hb b).1 ho)) (by omega)
theorem Keeps.of_below {Ts : List Nat} {A B : World} (hb : Below A.heap.size A B) : Keeps Ts A B :=
  ⟨hb.size, fun h => h.below hb, fun h b _ ho => fun h' => ho ((owned_below h hb b).1 h'), fun _ b _ ho _ _ => (hb.block b (lt_of_heap ho)).trans ho⟩

theorem keepsK_t {Ts : List Nat} : ∀ {A B C : World}, Keeps Ts A B → Keeps Ts B C → Keeps Ts A C := fun h k => h.trans k
theorem keepsK_b {Ts : List Nat} {B0 : Nat} (hT : ∀ t, t ∈ Ts → t < B0) (W : World) (l : Nat) (o o' : Obj) (hl : B0 ≤ l) (ho : W.heap[l]? = some o) (hc : o.isCells = false) (_ : o.isWalk = false) : Keeps Ts W (W.putObj l o') := by
  have hne : ∀ t, t ∈ Ts → (W.putObj l o').heap[t]? = W.heap[t]? := fun t ht => World.putObj_heap_other (by have := hT t ht; omega)
  have hs : (W.putObj l o').heap.size = W.heap.size := by simp
  refine ⟨by omega, fun h b hb => by rw [hs]; exact h b ((owned_same hne b).1 hb), fun _ b _ h h' => h ((owned_same hne b).1 h'), fun _ b p hp hpc _ => ?_⟩
  have : b ≠ l := fun e => by subst e; rw [hp] at ho; cases ho; rw [hc] at hpc; cases hpc
  exact (World.putObj_heap_other this).trans hp

/-- A cell of a block that is not the owner's reads as it read. -/
theorem Keeps.cell {Ts : List Nat} {A B : World} (h : Keeps Ts A B) (ok : OwnedOk Ts A) {p : Addr} {v : Value} (hc : A.cell? p = some v) (ho : ¬ Owned Ts A p.block) : B.cell? p = some v := by
  have hex : ∃ o, A.heap[p.block]? = some o ∧ o.isCells = true := by
    cases hh : A.heap[p.block]? with
    | none => simp [World.cell?, hh] at hc
    | some o => cases o <;> simp [World.cell?, hh, Obj.isCells] at hc ⊢
  obtain ⟨o, ho1, ho2⟩ := hex
  rw [World.cell?_of_block (w := A) ((h.keep ok _ o ho1 ho2 ho).trans ho1.symm)]; exact hc

theorem grownBy_of_below {W W' : World} (hb : Below W.heap.size W W') : W.grownBy W' none := ⟨hb.os, hb.tape, hb.output, hb.size, fun k hk _ => hb.block k hk⟩
theorem abides_below {β : Type} {B : Nat} {J : β → World → Prop} (h : AbidesFrom B J) {s : β} {W W' : World} (hj : J s W) (hb : Below W.heap.size W W') : J s W' :=
  h s W W' none hj (grownBy_of_below hb) (fun r e => by cases e)

theorem boxed_owned {W : World} {T : Nat} {t : TypeId} {v : Value} (h : Boxed W T t v) {b : Nat} (ho : Owned [T] W b) : b = T ∨ ∃ (a : Addr) (n c : Nat), v = .slice (some a) n c ∧ a.block = b := by
  rcases ho with h1 | ⟨t', ht, o, a, n, c, hc, ha⟩
  · exact .inl (by simpa using h1)
  · obtain rfl : t' = T := by simpa using ht
    unfold World.cell? at hc; rw [show W.heap[t']? = _ from h] at hc
    have hj : (#[v] : Array Value)[o]? = some (.slice (some a) n c) := hc
    match o, hj with
    | 0, hj => exact .inr ⟨a, n, c, by simpa using hj, ha⟩
    | o + 1, hj => simp at hj

theorem cell_set {B : World} {p q : Addr} {v x : Value} (h : (B.setCell p v).cell? q = some x) : (q = p ∧ x = v) ∨ B.cell? q = some x := by
  by_cases e : p = q
  · subst e
    cases hc : B.cell? p with
    | none =>
      have : (B.setCell p v).cell? p = none := by
        unfold World.cell? at hc ⊢
        simp only [World.setCell, Array.getElem?_modify, if_true]
        cases hh : B.heap[p.block]? with
        | none => rfl
        | some o => rw [hh] at hc; cases o <;> simp_all
      rw [this] at h; cases h
    | some u =>
      rw [World.cell?_setCell_same _ _ _ hc] at h
      exact .inl ⟨rfl, (Option.some.inj h).symm⟩
  · rw [World.cell?_setCell_other _ _ _ _ e] at h
    exact .inr h

/-- A step that turns a block of the owner's (an array that a slice of his stands over), lays new blocks, and then stores into a block of Ts what stands over a block of his, over a new one, or is no slice. -/
theorem keeps_store {Ts : List Nat} {A B : World} {row : Option Nat} {T j : Nat} {v : Value} (hg : A.grownBy B row) (hrow : ∀ r, row = some r → Owned Ts A r ∧ r ∉ Ts) (hT : T ∈ Ts)
    (hv : ∀ a n c, v = .slice (some a) n c → (Owned Ts A a.block ∨ A.heap.size ≤ a.block) ∧ a.block < B.heap.size) : Keeps Ts A (B.setCell ⟨T, j, none⟩ v) := by
  have hs : (B.setCell ⟨T, j, none⟩ v).heap.size = B.heap.size := World.size_setCell _ _ _
  have hsame : OwnedOk Ts A → ∀ t, t ∈ Ts → B.heap[t]? = A.heap[t]? := fun ok t ht => hg.block t (ok.lt ht) (fun e => (hrow t e.symm).2 ht)
  have key : OwnedOk Ts A → ∀ b, Owned Ts (B.setCell ⟨T, j, none⟩ v) b → (Owned Ts A b ∨ A.heap.size ≤ b) ∧ b < B.heap.size := by
    rintro ok b (h1 | ⟨t, ht, o, a, n, c, hc, ha⟩)
    · exact ⟨.inl (.inl h1), Nat.lt_of_lt_of_le (ok.lt h1) hg.size⟩
    · rcases cell_set hc with ⟨_, e⟩ | hc'
      · have := hv a n c e.symm; rw [ha] at this; exact this
      · have hA : Owned Ts A b := (owned_same (hsame ok) b).1 (.inr ⟨t, ht, o, a, n, c, hc', ha⟩)
        exact ⟨.inl hA, Nat.lt_of_lt_of_le (ok b hA) hg.size⟩
  refine ⟨by rw [hs]; exact hg.size, fun ok b hb => by rw [hs]; exact (key ok b hb).2, fun ok b hb ho h' => ?_, fun ok b o hb _ ho => ?_⟩
  · rcases (key ok b h').1 with h1 | h1
    · exact ho h1
    · omega
  · have hne : b ≠ T := fun e => ho (.inl (e ▸ hT))
    have h1 : (B.setCell ⟨T, j, none⟩ v).heap[b]? = B.heap[b]? := Below.heap_setCell B ⟨T, j, none⟩ v b hne
    rw [h1, hg.block b (lt_of_heap hb) (fun e => ho (hrow b e.symm).1)]
    exact hb

theorem grownBy_alloc_then {W w1 : World} {o : Obj} {row : Option Nat} (h : (W.alloc o).grownBy w1 row) : W.grownBy w1 row :=
  ⟨h.os, h.tape, h.output, Nat.le_trans (by simp) h.size, fun k hk hne => (h.block k (by simp; omega) hne).trans (Below.heap_alloc W o k hk)⟩
theorem Cells.not_row {W : World} {T : Nat} {t e : TypeId} {cs : Array Value} (h : Cells W T t cs) (hte : t ≠ e) {base size k : Nat} {v : Value} {xs : List Value} (hr : W.ownsRow base e size v k xs) : some T ≠ v.ownBlock := by
  rcases hr.2 with ⟨rfl, _⟩ | ⟨g, cap, cur, rfl, _, hgb, _⟩
  · simp [Value.ownBlock]
  · intro e'
    obtain rfl : T = g := by simpa [Value.ownBlock] using e'
    rw [show W.heap[T]? = _ from h] at hgb
    cases hgb; exact hte rfl
theorem ownsRow_cell {W : World} {base : Nat} {e : TypeId} {size n g cap k : Nat} {xs : List Value} (h : W.ownsRow base e size (.slice (some ⟨g, 0, none⟩) n cap) k xs) {j : Nat} {v : Value} (hj : xs[j]? = some v) : W.cell? ⟨g, j, none⟩ = some v := by
  rcases h.2 with ⟨h0, _⟩ | ⟨g', cap', cur, h1, _, hgb, _, _, _, ht⟩
  · cases h0
  · cases h1
    unfold World.cell?; rw [hgb]
    show cur[j]? = some v
    rw [← ht, List.getElem?_take] at hj
    split at hj
    · simpa using hj
    · cases hj
/-- 'x.f = append(x.f, ..)' where x's cells lie in block T. -/
theorem keeps_append {W w1 : World} {T j : Nat} {t e : TypeId} {size base : Nat} {cs : Array Value} {v v' : Value} {k m : Nat} {xs ys : List Value} {tmp : Obj}
    (hv : Cells W T t cs) (hj : cs[j]? = some v) (hte : t ≠ e) (hrow : W.ownsRow base e size v k xs) (hown' : w1.ownsRow base e size v' m ys) (hgrow : (W.alloc tmp).grownBy w1 v.ownBlock)
    (hblk : v'.ownBlock = v.ownBlock ∨ v'.ownBlock = some (W.alloc tmp).heap.size) : Keeps [T] W (w1.setCell ⟨T, j, none⟩ v') := by
  have hOw : ∀ r, v.ownBlock = some r → Owned [T] W r := fun r hr => by
    rcases hrow.2 with ⟨rfl, _⟩ | ⟨g, cap, cur, rfl, _, hgb, _⟩
    · simp [Value.ownBlock] at hr
    · obtain rfl : g = r := by simpa [Value.ownBlock] using hr
      exact .inr ⟨T, by simp, j, _, _, _, hv.cell hj, rfl⟩
  refine keeps_store (grownBy_alloc_then hgrow) (fun r hr => ⟨hOw r hr, ?_⟩) (by simp) ?_
  · have := hv.not_row hte hrow
    intro hm
    obtain rfl : r = T := by simpa using hm
    exact this hr.symm
  · intro a n c e'
    have hlt : a.block < w1.heap.size := by
      rcases hown'.2 with ⟨h, _⟩ | ⟨g, cap, cur, h, _, hgb, _⟩
      · rw [e'] at h; cases h
      · rw [e'] at h; cases h; exact lt_of_heap hgb
    refine ⟨?_, hlt⟩
    have hb : v'.ownBlock = some a.block := by rw [e']; rfl
    rcases hblk with h | h
    · exact .inl (hOw _ (by rw [← h, hb]))
    · refine .inr ?_
      rw [hb] at h
      have := Option.some.inj h
      simp at this; omega
end Go.Proofs.YtfnfijgknjnccaaGreatDoor

/-! A line that is one name: the lexer's iterator over it tells one token, the name. -/
namespace Go.Proofs.YtfnfijgknjnccaaGreatDoor
open Go.RowKit Go.Shelf

attribute [local go_sem] Oper.semAt_some

/-- The variable of the library's that Index, Cut and Split ask for holds a number. -/
def Env (w : World) : Prop := ∃ m : Int, w.cell? ⟨2, 0, none⟩ = some (.int .i64 m)
theorem Env.below {w w' : World} (h : Env w) (hb : Below w.heap.size w w') : Env w' := by
  obtain ⟨m, hm⟩ := h
  exact ⟨m, (hb.cell (World.block_lt_of_cell? _ _ hm)).trans hm⟩

/-- s is a name: a letter and up to nineteen letters and digits more. -/
structure IsName (s : ByteArray) : Prop where
  pos : 0 < s.size
  le : s.size ≤ 20
  first : letterB (s[0]'pos).toNat = true
  all : ∀ c, c ∈ s.data.toList → inNameB c.toNat = true

theorem blank_not_name (c : UInt8) (h : inNameB c.toNat = true) : blankB c.toNat = false := by
  unfold inNameB letterB digitB at h; unfold blankB
  simp at h ⊢; omega
theorem not_name_35 {l : List UInt8} (h : ∀ c, c ∈ l → inNameB c.toNat = true) : ∀ c, c ∈ l → c ≠ 35 := fun c hc e => by
  subst e; have := h _ hc; revert this; decide
theorem not_name_10 {l : List UInt8} (h : ∀ c, c ∈ l → inNameB c.toNat = true) : ∀ c, c ∈ l → c ≠ 10 := fun c hc e => by
  subst e; have := h _ hc; revert this; decide
theorem indexByte_none {l : List UInt8} {c : UInt8} (h : ∀ x, x ∈ l → x ≠ c) : Lib.indexByte l c = -1 := by
  induction l with
  | nil => rfl
  | cons b l ih =>
    have hb : (b == c) = false := by simpa using h b (by simp)
    simp [Lib.indexByte, hb, ih fun x hx => h x (by simp [hx])]
theorem cut_none {l : List UInt8} {c : UInt8} (h : ∀ x, x ∈ l → x ≠ c) : Lib.cut l [c] = (l, [], false) := by
  unfold Lib.cut; rw [Lib.index_one, indexByte_none h]; simp

theorem IsName.letterIn {s : ByteArray} (h : IsName s) : inNameB (s[0]'h.pos).toNat = true := by unfold inNameB; simp [h.first]
theorem takeWhile_eq_all {α : Type} {p : α → Bool} : ∀ {l : List α}, (∀ x, x ∈ l → p x = true) → l.takeWhile p = l
  | [], _ => rfl
  | a :: l, h => by rw [List.takeWhile_cons, h a (by simp), if_pos rfl, takeWhile_eq_all fun x hx => h x (by simp [hx])]
theorem IsName.span {s : ByteArray} (h : IsName s) : spanEnd inNameB s 0 = s.size := by
  unfold spanEnd
  rw [List.drop_zero, takeWhile_eq_all h.all]; simp
theorem IsName.blank0 {s : ByteArray} (h : IsName s) : spanEnd blankB s 0 = 0 := spanEnd_stop h.pos (blank_not_name _ h.letterIn)
theorem extract_all (s : ByteArray) : s.extract 0 s.size = s := by simp

set_option maxHeartbeats 400000 in
theorem each_any (s : ByteArray) (n : Int) (w : World) (hE : Env w) (hs : s.size ≤ 65536) (hno : ∀ c, c ∈ s.data.toList → c ≠ 35) :
    Calls Tryz.prog 71 #[.string s, .int .i64 n] w fun e w' =>
      e = .returned (.func (.func 94) #[] #[.pointer (some ⟨w.heap.size + 1, 0, none⟩), .pointer (some ⟨w.heap.size, 0, none⟩)]) ∧
      ∃ d, w' = ((w.alloc (.cells #[.int .i64 n] 3)).alloc (.cells #[.string s] 9)).drewN d := by
  obtain ⟨m, hm⟩ := hE
  have C := Tryz.strings_Cut s ⟨#[35]⟩ m (w.alloc (.cells #[.int .i64 n] 3)) (by omega) (by rw [World.cell?_alloc_old _ _ _ (Nat.ne_of_lt (World.block_lt_of_cell? _ _ hm))]; exact hm)
  rw [show (⟨#[35]⟩ : ByteArray).data.toList = [35] from rfl, cut_none hno] at C
  clear hm
  go_enter Tryz.func71, Tryz.ntmps71
  go_wp2_with (go_at_call 93; refine C.mono ?_; clear C; rintro e w' ⟨rfl, d, rfl⟩)
  go_ret
  exact ⟨rfl, d, rfl⟩

/-- The token that a line that is the name s has, on line n. -/
def lineTok (s : ByteArray) (n : Int) : Value := .agg #[.int .i64 1, .string s, .int .i64 0, .int .i64 n, .int .i64 1]

set_option maxHeartbeats 1000000 in
theorem each1_in (m : Nat) (Ts : List Nat) (Bs Bn l : Nat) (s : ByteArray) (n : Int) (J Jx : List Unit → World → Prop) (W : World)
    (hm : 1 ≤ m) (hN : IsName s) (hs : W.cell? ⟨Bs, 0, none⟩ = some (.string s)) (hn : W.cell? ⟨Bn, 0, none⟩ = some (.int .i64 n)) (hok : OwnedOk Ts W) (hos : ¬ Owned Ts W Bs) (hon : ¬ Owned Ts W Bn)
    (hJ : AbidesFrom W.heap.size J) (hY : ∀ pre x W1, J pre W1 → pre.length < 1 → YieldAt Fence.wide (m - 1) Tryz.prog l #[lineTok s n, .int .i64 0] W1 fun e W' =>
      (e = .returned (.bool true) ∧ J (pre ++ [x]) W' ∧ Keeps Ts W1 W') ∨ (e = .returned (.bool false) ∧ Jx (pre ++ [x]) W')) (h0 : J [] W) :
    CallsIn Fence.wide m Tryz.prog 94 #[.func (.yield l) #[] #[], .pointer (some ⟨Bs, 0, none⟩), .pointer (some ⟨Bn, 0, none⟩)] W fun e W' => (∃ v, e = .returned v) ∧
      ((∃ ys, ys = [()] ∧ J ys W') ∨ (∃ pre, pre <+: [()] ∧ Jx pre W')) := by
  have hle : s.size ≤ 65536 := by have := hN.le; omega
  have S0 : ∀ w, Calls Tryz.prog 95 #[.string s, .int .i64 0, .func (.func 96) #[] #[]] w fun e w' => e = .returned (.int .i64 0) ∧ w = w' := fun w => by
    have := span_isBlank s 0 w hle (Nat.zero_le _); rw [hN.blank0] at this; exact this
  have S1 : ∀ w, Calls Tryz.prog 95 #[.string s, .int .i64 s.size, .func (.func 96) #[] #[]] w fun e w' => e = .returned (.int .i64 s.size) ∧ w = w' := fun w => by
    have := span_isBlank s s.size w hle (Nat.le_refl _); rw [spanEnd_end (Nat.le_refl _)] at this; exact this
  have S2 : ∀ w, Calls Tryz.prog 97 #[.string s, .int .i64 0] w fun e w' => e = .returned (.tuple #[.agg #[.int .i64 1, .string s, .int .i64 0, .int .i64 0, .int .i64 1], .int .i64 0]) ∧ Below w.heap.size w w' := fun w => by
    have := first_letter s 0 s.size w hle hN.pos hN.first hN.span (by have := hN.le; omega); rw [extract_all] at this; exact this
  have hp := hN.pos
  clear hN
  refine callsIn_of_wp Tryz.func94 rfl trivial ?_ rfl
  simp only [Tryz.ntmps94, List.size_toArray, List.length_cons, List.length_nil, Nat.reduceAdd, Nat.reduceSub, Array.replicate_succ, Array.replicate_zero, List.push_toArray, List.append_toArray, List.nil_append, List.cons_append]
  gi_wp2_with (refine ⟨trivial, ?_⟩; gi_at_call 95; refine (callsIn_wide.2 (S0 _)).mono ?_; rintro e w' ⟨rfl, rfl⟩)
  gi_loopw [4] (fun i wr => (i = .int .i64 0 ∧ wr = W) ∨ (i = .int .i64 s.size ∧ J [()] wr ∧ wr.cell? ⟨Bs, 0, none⟩ = some (.string s))) (fun i _ => s.size - (intOf i).toNat)
  case atStart => exact .inl ⟨rfl, rfl⟩
  case round =>
    rcases hrel with ⟨rfl, rfl⟩ | ⟨rfl, hj, hs2⟩
    · have hYY : ∀ w1, Below wr.heap.size wr w1 →
          (∀ o, (w1.alloc o).cell? ⟨Bn, 0, none⟩ = some (.int .i64 n)) ∧
          YieldAt Fence.wide (m - 1) Tryz.prog l #[lineTok s n, .int .i64 0] (w1.alloc (.cells #[.int .i64 1, .string s, .int .i64 0, .int .i64 n, .int .i64 1] 99)) fun e W' =>
            (e = .returned (.bool true) ∧ J [()] W' ∧ W'.cell? ⟨Bs, 0, none⟩ = some (.string s) ∧ W'.cell? ⟨w1.heap.size, 1, none⟩ = some (.string s)) ∨ (e = .returned (.bool false) ∧ Jx [()] W') := fun w1 hb => by
        have hB2 : Below wr.heap.size wr (w1.alloc (.cells #[.int .i64 1, .string s, .int .i64 0, .int .i64 n, .int .i64 1] 99)) := hb.alloc hb.size _
        have hlt := World.block_lt_of_cell? _ _ hn
        have hlts := World.block_lt_of_cell? _ _ hs
        refine ⟨fun o => ?_, YieldAt.mono (hY [] () _ (abides_below hJ h0 hB2) (by simp)) fun e W' h => ?_⟩
        · exact ((hb.alloc hb.size o).cell (p := ⟨Bn, 0, none⟩) hlt).trans hn
        · rcases h with ⟨he, hj, hk⟩ | ⟨he, hx⟩
          · refine .inl ⟨he, hj, hk.cell (hok.below hB2) ((hB2.cell (p := ⟨Bs, 0, none⟩) hlts).trans hs) (fun h => hos ((owned_below hok hB2 _).1 h)), hk.cell (hok.below hB2) ?_ (fresh_not_owned hok hB2 hb.size)⟩
            unfold World.cell?; rw [World.alloc_heap_new]; rfl
          · exact .inr ⟨he, hx⟩
      unfold lineTok at hYY
      clear hY
      gi_wp2_with (first
        | (refine ⟨trivial, ?_⟩; gi_at_call 97; refine (callsIn_wide.2 (S2 _)).mono ?_; rintro e w1 ⟨rfl, hb⟩; obtain ⟨hc, hf⟩ := bcell hb; obtain ⟨hn1, fn, tmps, assign, body, hy, hR⟩ := hYY w1 hb; clear hYY)
        | (refine hR.mono ?_; clear hR; rintro e W2 (⟨rfl, hJ2, hs2, ht2⟩ | ⟨rfl, hx2⟩))
        | (refine ⟨trivial, ?_⟩; gi_at_call 95; refine (callsIn_wide.2 (S1 _)).mono ?_; rintro e w' ⟨rfl, rfl⟩))
      · exact ⟨.inr ⟨rfl, hJ2, hs2⟩, by simp [intOf]; omega⟩
      · refine bodyPost_ret (results_none rfl _ _ _) rfl ?_
        exact ⟨⟨_, rfl⟩, .inr ⟨[()], List.prefix_rfl, hx2⟩⟩
    · gi_wp2_with fail
      go_end0
      exact ⟨⟨_, rfl⟩, .inl ⟨[()], rfl, hj⟩⟩

/-- A line that is a name: its iterator tells one token. -/
theorem each1_stops (m : Nat) (Ts : List Nat) (Bs Bn : Nat) (s : ByteArray) (n : Int) (w : World)
    (hm : 1 ≤ m) (hN : IsName s) (hs : w.cell? ⟨Bs, 0, none⟩ = some (.string s)) (hn : w.cell? ⟨Bn, 0, none⟩ = some (.int .i64 n)) (hok : OwnedOk Ts w) (hos : ¬ Owned Ts w Bs) (hon : ¬ Owned Ts w Bn) :
    SeqStopsK Fence.wide m Tryz.prog 94 #[.pointer (some ⟨Bs, 0, none⟩), .pointer (some ⟨Bn, 0, none⟩)] (fun _ : Unit => #[lineTok s n, .int .i64 0]) (Keeps Ts) (fun ys => ys = [()]) (fun pre => pre <+: [()]) 1 w :=
  fun l J Jx W hW hJ _ hY h0 =>
    each1_in m Ts Bs Bn l s n J Jx W hm hN ((hW.cell (p := ⟨Bs, 0, none⟩) (World.block_lt_of_cell? _ _ hs)).trans hs) ((hW.cell (p := ⟨Bn, 0, none⟩) (World.block_lt_of_cell? _ _ hn)).trans hn)
      (hok.below hW) (fun h => hos ((owned_below hok hW _).1 h)) (fun h => hon ((owned_below hok hW _).1 h)) hJ hY h0
end Go.Proofs.YtfnfijgknjnccaaGreatDoor

/-! Tokens of a text that is one name: the name and the end. -/
namespace Go.Proofs.YtfnfijgknjnccaaGreatDoor
open Go.RowKit Go.Shelf

attribute [local go_sem] Oper.semAt_some

theorem wpIn_scope_wide {n : Nat} {P : Program} {c : Code} {Q : Exit → Act → World → Prop} {a : Act} {w : World} (h : c.wpIn Fence.wide n P (Exit.noGoto Q) a w) : (Code.scope c).wpIn Fence.wide n P Q a w :=
  wpIn_wide.2 (wp_scope_straight (wpIn_wide.1 h))

theorem countB_none {s : ByteArray} {c : UInt8} (h : ∀ x, x ∈ s.data.toList → x ≠ c) : Lib.countB s ⟨#[c]⟩ = 0 := by
  apply Lib.countB_miss
  show Lib.index s.data.toList [c] = -1
  rw [Lib.index_one, indexByte_none h]

theorem split_one (s : ByteArray) (w : World) (hE : Env w) (hs : s.size ≤ 65536) (hno : ∀ c, c ∈ s.data.toList → c ≠ 10) :
    Calls Tryz.prog 30 #[.string s, .string ⟨#[10]⟩] w fun e w' => e = .returned (.slice (some ⟨w.heap.size, 0, none⟩) 1 1) ∧ w' = w.alloc (.cells #[.string s] 9) := by
  obtain ⟨m, hm⟩ := hE
  have C := Tryz.strings_Split s ⟨#[10]⟩ m w (by omega) hm (by decide)
  rw [countB_none hno, Lib.splitB_zero] at C
  exact C

theorem Tryz.infoTok : (Tryz.prog.info? 99).map (fun i => (i.zero, i.size, i.bytes)) = some (some (.agg #[.int .i64 0, .string ⟨#[]⟩, .int .i64 0, .int .i64 0, .int .i64 0]), 5, 48) := by kernel_rfl

/-- The cells of the token of a line that is the name s, on line 1. -/
def tokCells (s : ByteArray) : List Value := [.int .i64 1, .string s, .int .i64 0, .int .i64 1, .int .i64 1]
/-- Between two rounds of the loop over a line's tokens: what has been collected; what else lies there. -/
def TokI (w : World) (s : ByteArray) (pre : List Unit) (W : World) : Prop :=
  (∃ v, Boxed W (w.heap.size + 1) 95 v ∧ W.ownsRow w.heap.size 99 5 v pre.length (pre.flatMap fun _ => tokCells s) ∧ True) ∧ Below w.heap.size w W ∧
    Cells W w.heap.size 9 #[.string s] ∧ Cells W (w.heap.size + 1 + 1 + 1) 31 #[.int .i64 0] ∧ w.heap.size + 6 ≤ W.heap.size
theorem tokI_own (w : World) (s : ByteArray) (B : Nat) (hB : w.heap.size ≤ B) : OwnFrom B (TokI w s) :=
  OwnFrom.and (Own.from (holdsRow_own _ _ _ _ _ (fun pre : List Unit => pre.length) (fun pre => pre.flatMap fun _ => tokCells s) (fun _ _ => True)) _)
    (OwnFrom.and (ownFrom_below (Nat.le_refl _) hB) (OwnFrom.and (Own.from (cells_own _ _ fun _ => _) _) (OwnFrom.and (Own.from (cells_own _ _ fun _ => _) _) (fun _ _ _ _ hs hg _ => Nat.le_trans hs hg.size))))

/-- The frame in a round of the loop over a line's tokens. -/
def tokAct (w : World) (s : ByteArray) (Bt : Nat) : Act := { tmps := #[Value.string s, undef, Value.slice none 0 0, Value.int .i64 0, Value.int .i64 0, Value.int .i64 0, Value.slice (some ⟨w.heap.size, 0, none⟩) 1 1, Value.pointer (some ⟨w.heap.size + 1, 0, none⟩), Value.pointer (some ⟨w.heap.size + 1 + 1, 0, none⟩), Value.pointer (some ⟨w.heap.size + 1 + 1 + 1, 0, none⟩), Value.int .i64 0, Value.string s, Value.pointer (some ⟨Bt, 0, none⟩), Value.int .i64 0, undef, Value.string s, Value.int .i64 s.size, Value.bool (decide (65536 < (s.size : Int))), Value.string s, Value.slice (some ⟨w.heap.size, 0, none⟩) 1 1, Value.slice (some ⟨w.heap.size, 0, none⟩) 1 1, Value.int .i64 1, Value.int .i64 0, Value.bool true, Value.int .i64 0, Value.pointer (some ⟨w.heap.size, 0, none⟩), Value.string s, Value.string s, Value.int .i64 0, Value.int .i64 1, Value.func (.func 94) #[] #[.pointer (some ⟨w.heap.size + 4 + 1, 0, none⟩), .pointer (some ⟨w.heap.size + 4, 0, none⟩)], Value.agg #[.int .i64 1, .string s, .int .i64 0, .int .i64 1, .int .i64 1], Value.int .i64 0, undef, undef, undef, undef, undef, undef, undef, undef, undef, undef, undef, undef, undef, undef, undef, undef, undef, undef, undef, undef, undef, undef, undef, undef, undef, undef, undef, undef, undef, undef], defers := [] }

set_option maxRecDepth 100000 in
set_option maxHeartbeats 4000000 in
theorem tokens_name (s : ByteArray) (w : World) (hE : Env w) (hN : IsName s) :
    Calls Tryz.prog 44 #[.string s] w fun e w' => ∃ g c, e = .returned (.tuple #[.slice (some ⟨g, 0, none⟩) 2 c, .int .i64 0, .int .i64 0, .int .i64 0]) ∧
      w'.cell? ⟨g, 0, none⟩ = some (.int .i64 1) ∧ w'.cell? ⟨g, 1, none⟩ = some (.string s) ∧ Below w.heap.size w w' := by
  have hle := hN.le
  have C1 := split_one s w hE (by omega) (not_name_10 hN.all)
  refine (callsIn_wide (n := 4)).1 ?_
  refine callsIn_of_wp_marks Tryz.func44 rfl trivial ?_ rfl
  simp only [Tryz.ntmps44, List.size_toArray, List.length_cons, List.length_nil, Nat.reduceAdd, Nat.reduceSub, Array.replicate_succ, Array.replicate_zero, List.push_toArray, List.append_toArray, List.nil_append, List.cons_append]
  gi_wp2
  apply wpIn_scope_wide
  gi_wp2_with (refine ⟨trivial, ?_⟩; gi_at_call 30; refine (callsIn_wide.2 C1).mono ?_; rintro e w' ⟨rfl, rfl⟩)
  apply wpIn_label
  gi_wp2_with fail
  generalize hW : ((((w.alloc (.cells #[.string s] 9)).alloc (.cells #[.slice none 0 0] 95)).alloc (.cells #[.int .i64 0, .string ⟨#[]⟩, .int .i64 0, .int .i64 0, .int .i64 0] 99)).alloc (.cells #[.int .i64 0] 31)) = W0
  have hB0 : Below w.heap.size w W0 := by rw [← hW]; exact ((((Below.refl _ _).alloc (Nat.le_refl _) _).alloc (by simp) _).alloc (by simp; omega) _).alloc (by simp; omega) _
  have hz0 : W0.heap.size = w.heap.size + 4 := by rw [← hW]; simp
  have hl0 : Cells W0 w.heap.size 9 #[.string s] := by rw [← hW]; exact (((Cells.new _ _ _).alloc _).alloc _).alloc _
  have h70 : Boxed W0 (w.heap.size + 1) 95 (.slice none 0 0) := by
    rw [← hW]
    have := (Boxed.new (w.alloc (.cells #[.string s] 9)) 95 (.slice none 0 0))
    rw [World.size_alloc] at this
    exact (this.alloc _).alloc _
  have h90 : Cells W0 (w.heap.size + 1 + 1 + 1) 31 #[.int .i64 0] := by
    rw [← hW]
    have := Cells.new (((w.alloc (.cells #[.string s] 9)).alloc (.cells #[.slice none 0 0] 95)).alloc (.cells #[.int .i64 0, .string ⟨#[]⟩, .int .i64 0, .int .i64 0, .int .i64 0] 99)) 31 #[.int .i64 0]
    simp only [World.size_alloc] at this; exact this
  have cl0 := hl0.cell (j := 0) rfl
  have hE0 : Env W0 := hE.below hB0
  clear hW C1
  have C2 := each_any s 1 W0 hE0 (by omega) (not_name_35 hN.all)
  refine wpIn_loop_rounds 2 ?_
  rw [roundsIn_succ]
  gi_wp2_with (refine ⟨trivial, ?_⟩; gi_at_call 71; refine (callsIn_wide.2 C2).mono ?_; clear C2; rintro e w' ⟨rfl, d, rfl⟩)
  generalize hW : ((W0.alloc (.cells #[.int .i64 1] 3)).alloc (.cells #[.string s] 9)).drewN d = We
  have hBd : Below W0.heap.size W0 We := by rw [← hW]; exact below_drewN (((Below.refl _ _).alloc (Nat.le_refl _) _).alloc (by simp) _) d
  have hBe : Below w.heap.size w We := hB0.trans (hBd.mono (by omega))
  have hze : We.heap.size = w.heap.size + 6 := by rw [← hW]; simp [hz0]
  have hle0 : Cells We w.heap.size 9 #[.string s] := hl0.below hBd (by omega)
  have h7e : Boxed We (w.heap.size + 1) 95 (.slice none 0 0) := (hBd.block _ (by omega)).trans h70
  have h9e : Cells We (w.heap.size + 1 + 1 + 1) 31 #[.int .i64 0] := h90.below hBd (by omega)
  have hse : We.cell? ⟨w.heap.size + 4 + 1, 0, none⟩ = some (.string s) := by
    rw [← hW, cell_drewN]
    have := new_cell (W0.alloc (.cells #[.int .i64 1] 3)) #[.string s] 9 (j := 0) rfl
    rw [World.size_alloc, hz0] at this; exact this
  have hne : We.cell? ⟨w.heap.size + 4, 0, none⟩ = some (.int .i64 1) := by
    rw [← hW, cell_drewN]
    have := new_cell W0 #[.int .i64 1] 3 (j := 0) rfl
    rw [hz0] at this; exact cell_alloc _ this
  clear hW h90 h70 hl0 cl0 hB0 hE0 hE hBd hz0
  have hok : OwnedOk [w.heap.size + 1] We := fun b hb => by
    rcases boxed_owned h7e hb with h | ⟨a, n, c, h, _⟩
    · omega
    · cases h
  have hno : ∀ b, b ≠ w.heap.size + 1 → ¬ Owned [w.heap.size + 1] We b := fun b hb h => by
    rcases boxed_owned h7e h with h | ⟨a, n, c, h, _⟩
    · exact hb h
    · cases h
  refine wpIn_rangeFunc_ownH (F := Fence.wide) rfl (by omega) (gf := 94) (lb := #[.pointer (some ⟨w.heap.size + 4 + 1, 0, none⟩), .pointer (some ⟨w.heap.size + 4, 0, none⟩)]) rfl trivial (enters_of Tryz.func94 (by kernel_rfl) rfl)
    (each1_stops 3 [w.heap.size + 1] (w.heap.size + 4 + 1) (w.heap.size + 4) s 1 We (by omega) hN hse hne hok (hno _ (by omega)) (hno _ (by omega))) keepsK_t (keepsK_b (by simp; omega)) (Below.refl _ _) (fun _ => rfl)
    (TokI w s) (fun _ _ _ => False) (tokI_own w s _ (by omega)) (fun _ _ _ _ _ hs _ _ => hs) ⟨⟨_, h7e, World.ownsRow_nil _ _ _ _, trivial⟩, hBe, hle0, h9e, by omega⟩
    (fun _ a' W => ∃ Bt, w.heap.size + 6 ≤ Bt ∧ Cells W Bt 99 #[.int .i64 1, .string s, .int .i64 0, .int .i64 1, .int .i64 1] ∧ a' = tokAct w s Bt)
    (fun _ a' => fun _ A B row hs hg hr => by
      obtain ⟨Bt, h1, h2, h3⟩ := hs
      exact ⟨Bt, h1, cells_own (β := Unit) Bt _ (fun _ => _) () A B row h2 hg (fun r e => (hr r e).2), h3⟩)
    ?assign ?body ?done ?stop
  case assign =>
    rintro l pre x W K hi hK
    unfold lineTok
    gi_wp2
    have hb := hi.2.2.2.2
    refine hK _ _ ((KeepsOthers.alloc _ _).from _) (Keeps.of_below ((Below.refl _ W).alloc (Nat.le_refl _) _)) ?_ ⟨W.heap.size, by omega, Cells.new W _ _, rfl⟩
    exact (tokI_own w s (w.heap.size + 6) (by omega)).alloc _ hi
  case body =>
    rintro l pre x a' W hl ⟨r, hr⟩ ⟨⟨v, hv, hrow, _⟩, hB, hls, h9, hz⟩ ⟨Bt, hBt, bT, rfl⟩ hlen
    obtain rfl : pre = [] := by cases pre <;> simp at hlen ⊢
    have c0 := bT.cell (j := 0) rfl
    have c1 := bT.cell (j := 1) rfl
    have c2 := bT.cell (j := 2) rfl
    have c3 := bT.cell (j := 3) rfl
    have c4 := bT.cell (j := 4) rfl
    have cv := hv.cell
    obtain ⟨i0, hi, hz0, hz1, hz2⟩ := info_parts Tryz.infoTok
    unfold tokAct
    gi_wp2_with (gi_at_builtin; refine wpListIn_append_own_at _ rfl _ _ 95 rfl w.heap.size 99 i0 _ 5 48 Tryz.underlying95 hi hz0 hz1 hz2 rfl (by decide) _ _ _ rfl (hrow.alloc _) ⟨W.heap.size, 0, none⟩ 1 1 [.int .i64 1, .string s, .int .i64 0, .int .i64 1, .int .i64 1] rfl rfl (new_cells _ _ _ _ rfl) (by simp [Value.oneCell']) (by simp [maxLen]) (by simp) (by simp; omega) ?_; go_loud (intro v' w1 hown' hgrow _ hblk; obtain ⟨g', cap', rfl⟩ := ownsRow_succ hown'; have hap := hv.appended (by decide) hrow (by omega) (by omega) hown' hgrow; have hc1 := hap.1.cell; have hf1 := hap.1.frozen))
    refine ⟨hap.2.2.2.1.from _, keeps_append (show Cells W _ _ #[v] from hv) rfl (by decide) hrow hown' hgrow hblk, ⟨_, hap.2.1, hap.2.2.1, trivial⟩, hB.trans hap.2.2.2.2, ?_, ?_, ?_⟩
    · exact ((hls.alloc _).kept hgrow (hls.not_row (by decide) hrow)).other (by omega) _
    · exact ((h9.alloc _).kept hgrow (h9.not_row (by decide) hrow)).other (by omega) _
    · have := hap.2.2.2.2.size; simp at this ⊢; omega
  case done =>
    rintro D ys W hD rfl ⟨⟨v, hv, hrow, _⟩, hB, hls, h9, hz⟩ hK
    have cl := hls.cell (j := 0) rfl
    have c9 := h9.cell (j := 0) rfl
    have cv := hv.cell
    gi_wp2
    rw [roundsIn_succ]
    gi_wp2
    refine wpIn_wide.2 ?_
    have hlt : w.heap.size < W.heap.size := hls.lt
    have hlt7 : w.heap.size + 1 < W.heap.size := hv.lt
    have hrow1 : W.ownsRow w.heap.size 99 5 v 1 (tokCells s) := by simpa using hrow
    have hn7 := hv.not_row (by decide) hrow1
    have hnl := hls.not_row (by decide) hrow1
    obtain ⟨g, cap, hv1⟩ := ownsRow_succ (k := 0) hrow1
    obtain ⟨i0, hi, hz0, hz1, hz2⟩ := info_parts Tryz.infoTok
    clear hrow
    subst hv1
    have hwr : IntKind.i64.wrap ((s.size : Int) + 1) = s.size + 1 := IntWalk.i64_in _ (by omega)
    have hw0 : IntKind.i64.wrap 0 = 0 := by decide
    go_region_held3 (fun w' => w'.cell? ⟨w.heap.size + 1, 0, none⟩ = some (.slice (some ⟨g, 0, none⟩) 1 cap) ∧ w'.cell? ⟨w.heap.size, 0, none⟩ = some (.string s))
      (first
        | go_keep
        | (go_split_ands
           refine ⟨?_, ?_⟩
           · (rw [hgrow.cell_far _ (by simp; omega) hn7]; assumption)
           · (rw [hgrow.cell_far _ (by simp; omega) hnl]; assumption)))
      ((refine step_append_lies _ (by rfl) _ _ _ (by rfl) w.heap.size 99 i0 _ 5 48 Tryz.underlying95 hi hz0 hz1 hz2 rfl (by omega) (.slice (some ⟨g, 0, none⟩) 1 cap) 1 (tokCells s) (by rfl) ((hrow1.alloc _).drew)
          ⟨W.heap.size, 0, none⟩ 1 1 [.int .i64 4, .string ⟨#[]⟩, .int .i64 0, .int .i64 1, .int .i64 (s.size + 1)] (by rfl) (by rfl) (World.news_of_block (cs := #[.int .i64 4, .string ⟨#[]⟩, .int .i64 0, .int .i64 1, .int .i64 (s.size + 1)]) (t := 99) (fr := (0, 0)) (heap_alloc_new W _)) (by simp [Value.oneCell'])
          (by omega) (by simp [maxLen]) (by simp) (by simp; omega) (W.heap.size + 1) (by simp) ?_; intro gg cap1 w1 hown1 hgrow hat hlt2))
    clear hwr hw0
    gi_wp2
    rw [Exit.noGoto_ret]
    have hKD : w1.heap[D]? = some (.deferred (some [])) := (hgrow.block D (by simp; have := lt_of_heap hK; omega) (fun e => by
      have hg : g = D := by simpa [Value.ownBlock] using e.symm
      subst hg
      rcases hrow1.2 with ⟨h, _⟩ | ⟨g', c', cur, h, _, hgb, _⟩
      · cases h
      · cases h; rw [hK] at hgb; cases hgb)).trans ((Below.heap_alloc _ _ D (lt_of_heap hK)).trans hK)
    have hge : w.heap.size ≤ g := by
      rcases hrow1.2 with ⟨h, _⟩ | ⟨g', c', cur, h, hb, _, _⟩
      · cases h
      · cases h; exact hb
    have hB1 : Below w.heap.size w w1 := ((hB.alloc hB.size _).drew).grown hgrow (by simp; omega) (fun k e => by
      have hg : g = k := by simpa [Value.ownBlock] using e
      omega)
    have hg0 := cell_kept (ownsRow_cell hown1 (j := 0) rfl) (grownBy_putObj' w1 D (.deferred none)) (fun r e => by cases e; exact ⟨_, hKD, rfl⟩)
    have hg1 := cell_kept (ownsRow_cell hown1 (j := 1) rfl) (grownBy_putObj' w1 D (.deferred none)) (fun r e => by cases e; exact ⟨_, hKD, rfl⟩)
    refine ⟨by simp, .inl ⟨_, _, rfl, run_takeDeferred hKD, ?_⟩⟩
    refine ⟨.tuple #[.slice (some ⟨gg, 0, none⟩) 2 cap1, .int .i64 0, .int .i64 0, .int .i64 0], by simp [results, Tryz.f44, go_sem], gg, cap1, rfl, hg0, hg1, ?_⟩
    exact hB1.trans (belowK_b (w := w) (Nat.le_refl _) w1 D _ _ (by omega) hKD rfl rfl)
  case stop =>
    rintro D c pre W _ _ h _
    exact h.elim
end Go.Proofs.YtfnfijgknjnccaaGreatDoor

/-! desc's small functions: which words are no names; lists that are empty; numbers. -/
namespace Go.Proofs.YtfnfijgknjnccaaGreatDoor
open Go.RowKit Go.Shelf

/-- The eleven words of descriptions. -/
def words : List (List UInt8) := [[109, 97, 99, 104, 105, 110, 101], [114, 101, 103], [97, 116], [99, 108, 97, 115, 115], [111, 112], [116, 105, 101], [99, 108, 111, 98], [97, 114, 103, 115], [114, 101, 115, 117, 108, 116], [115, 97, 118, 101, 100], [115, 108, 111, 116, 115]]
def NotWord (s : ByteArray) : Prop := ∀ x, x ∈ words → (s.toList == x) = false

end Go.Proofs.YtfnfijgknjnccaaGreatDoor

/-! desc.Plain of a machine that has a name alone; geom.isName. -/
namespace Go.Proofs.YtfnfijgknjnccaaGreatDoor
open Go.RowKit Go.Shelf

attribute [local go_sem] Oper.semAt_some

end Go.Proofs.YtfnfijgknjnccaaGreatDoor
