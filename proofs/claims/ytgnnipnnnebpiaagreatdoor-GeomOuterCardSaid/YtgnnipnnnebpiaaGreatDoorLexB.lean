/-
  The lexer's spans: where the bytes end that are blank, that are in names, that are digits: for every text of at most 65536 bytes.
-/
import Derived.Test.YtgnnipnnnebpiaaGreatDoorLexA
import Derived.Test.YtgnnipnnnebpiaaGreatDoorShelf
import Derived.LoopTactic
namespace Go.Proofs.YtgnnipnnnebpiaaGreatDoor
open Go.RowKit

def blankB (c : Int) : Bool := decide (c = 32) || decide (c = 9) || decide (c = 13)
/-- Where the bytes end that stand from k on and of which p holds. -/
def spanEnd (p : Int → Bool) (s : ByteArray) (k : Nat) : Nat := k + ((s.data.toList.drop k).takeWhile (fun c => p c.toNat)).length

theorem drop_at (s : ByteArray) (k : Nat) (h : k < s.size) : s.data.toList.drop k = s[k] :: s.data.toList.drop (k + 1) := by
  rw [List.drop_eq_getElem_cons (by simpa using h)]; rfl
theorem spanEnd_step {p : Int → Bool} {s : ByteArray} {k : Nat} (h : k < s.size) (hp : p s[k].toNat = true) : spanEnd p s (k + 1) = spanEnd p s k := by
  unfold spanEnd; rw [drop_at s k h]; simp [hp]; omega
theorem spanEnd_stop {p : Int → Bool} {s : ByteArray} {k : Nat} (h : k < s.size) (hp : p s[k].toNat = false) : spanEnd p s k = k := by
  unfold spanEnd; rw [drop_at s k h]; simp [hp]
theorem spanEnd_end {p : Int → Bool} {s : ByteArray} {k : Nat} (h : s.size ≤ k) : spanEnd p s k = k := by
  unfold spanEnd; rw [List.drop_eq_nil_of_le (by simpa using h)]; simp
theorem spanEnd_ge (p : Int → Bool) (s : ByteArray) (k : Nat) : k ≤ spanEnd p s k := Nat.le_add_right _ _
theorem spanEnd_le (p : Int → Bool) (s : ByteArray) (k : Nat) (h : k ≤ s.size) : spanEnd p s k ≤ s.size := by
  unfold spanEnd
  have := (List.takeWhile_sublist (l := s.data.toList.drop k) (fun c => p c.toNat)).length_le
  simp at this; omega
theorem ret_int {k : IntKind} {a b : Int} (h : a = b) : Ending.returned (.int k a) = .returned (.int k b) := by rw [h]

theorem blank_index (c : UInt8) : (0 ≤ Lib.indexByte [32, 9, 13] c) ↔ blankB c.toNat = true := by
  unfold blankB
  have h : c = 32 ∨ c = 9 ∨ c = 13 ∨ (c ≠ 32 ∧ c ≠ 9 ∧ c ≠ 13) := by
    by_cases h1 : c = 32
    · exact .inl h1
    · by_cases h2 : c = 9
      · exact .inr (.inl h2)
      · by_cases h3 : c = 13
        · exact .inr (.inr (.inl h3))
        · exact .inr (.inr (.inr ⟨h1, h2, h3⟩))
  rcases h with rfl | rfl | rfl | ⟨h1, h2, h3⟩
  · decide
  · decide
  · decide
  · have e1 : (32 == c) = false := by simpa using fun h => h1 h.symm
    have e2 : (9 == c) = false := by simpa using fun h => h2 h.symm
    have e3 : (13 == c) = false := by simpa using fun h => h3 h.symm
    have n1 : ¬ c.toNat = 32 := fun h => h1 (UInt8.toNat_inj.1 h)
    have n2 : ¬ c.toNat = 9 := fun h => h2 (UInt8.toNat_inj.1 h)
    have n3 : ¬ c.toNat = 13 := fun h => h3 (UInt8.toNat_inj.1 h)
    have f1 : ¬ (c.toNat : Int) = 32 := by omega
    have f2 : ¬ (c.toNat : Int) = 9 := by omega
    have f3 : ¬ (c.toNat : Int) = 13 := by omega
    simp [Lib.indexByte, e1, e2, e3, f1, f2, f3]

set_option maxHeartbeats 400000 in
theorem isBlank_any (c : UInt8) (w : World) : Calls Tryz.prog 60 #[.int .u8 c.toNat] w fun e w' => e = .returned (.bool (blankB c.toNat)) ∧ w = w' := by
  have hi := blank_index c
  have hc : (c.toNat : Int).toNat.toUInt8 = c := by simp
  have H := Lib.hid hi
  have C := Tryz.strings_IndexByte ⟨#[32, 9, 13]⟩ c.toNat w
  rw [hc] at C
  clear hi hc
  go_enter Tryz.func60, Tryz.ntmps60
  go_wp2_with (go_at_call 66; refine C.mono ?_; rintro e w' ⟨rfl, rfl⟩)
  go_ret
  exact ⟨ret_bool (by rw [Bool.eq_iff_iff]; simpa using H.out), rfl⟩

set_option maxHeartbeats 600000 in
theorem span_isBlank (s : ByteArray) (k : Nat) (w : World) (hs : s.size ≤ 65536) (hk : k ≤ s.size) : Calls Tryz.prog 59 #[.string s, .int .i64 k, .func (.func 60) #[] #[]] w fun e w' => e = .returned (.int .i64 (spanEnd blankB s k)) ∧ w = w' := by
  go_enter Tryz.func59, Tryz.ntmps59
  go_wp2
  go_loop [1] (fun i => ∃ j : Nat, k ≤ j ∧ j ≤ s.size ∧ i = .int .i64 j ∧ Hid (spanEnd blankB s j = spanEnd blankB s k)) (fun i => s.size - (intOf i).toNat)
  case atStart => exact ⟨k, Nat.le_refl _, hk, rfl, Lib.hid rfl⟩
  case round =>
    obtain ⟨j, hj, hj2, rfl, hE⟩ := hrel
    by_cases hlt : j < s.size
    · by_cases hp : blankB s[j].toNat = true
      · have hE2 := Lib.hid ((spanEnd_step hlt hp).trans hE.out)
        clear hE
        go_wp2_with (go_at_call 60; refine (isBlank_any _ _).mono ?_; rintro e w' ⟨rfl, rfl⟩)
        go_round
        case rel => exact ⟨j + 1, by omega, by omega, by go_num, hE2⟩
        case measure => simp [intOf]; omega
      · have hp' : blankB s[j].toNat = false := by simpa using hp
        have hE2 := Lib.hid (hE.out.symm.trans (spanEnd_stop hlt hp'))
        clear hE hp
        go_wp2_with (go_at_call 60; refine (isBlank_any _ _).mono ?_; rintro e w' ⟨rfl, rfl⟩)
        go_ret
        exact ⟨ret_int (by rw [hE2.out]), rfl⟩
    · have hE2 := Lib.hid (hE.out.symm.trans (spanEnd_end (by omega)))
      clear hE
      go_wp2_with fail
      go_ret
      exact ⟨ret_int (by rw [hE2.out]), rfl⟩

set_option maxHeartbeats 600000 in
theorem span_isInName (s : ByteArray) (k : Nat) (w : World) (hs : s.size ≤ 65536) (hk : k ≤ s.size) : Calls Tryz.prog 59 #[.string s, .int .i64 k, .func (.func 78) #[] #[]] w fun e w' => e = .returned (.int .i64 (spanEnd inNameB s k)) ∧ w = w' := by
  go_enter Tryz.func59, Tryz.ntmps59
  go_wp2
  go_loop [1] (fun i => ∃ j : Nat, k ≤ j ∧ j ≤ s.size ∧ i = .int .i64 j ∧ Hid (spanEnd inNameB s j = spanEnd inNameB s k)) (fun i => s.size - (intOf i).toNat)
  case atStart => exact ⟨k, Nat.le_refl _, hk, rfl, Lib.hid rfl⟩
  case round =>
    obtain ⟨j, hj, hj2, rfl, hE⟩ := hrel
    by_cases hlt : j < s.size
    · by_cases hp : inNameB s[j].toNat = true
      · have hE2 := Lib.hid ((spanEnd_step hlt hp).trans hE.out)
        clear hE
        go_wp2_with (go_at_call 78; refine (isInName_any _ _).mono ?_; rintro e w' ⟨rfl, rfl⟩)
        go_round
        case rel => exact ⟨j + 1, by omega, by omega, by go_num, hE2⟩
        case measure => simp [intOf]; omega
      · have hp' : inNameB s[j].toNat = false := by simpa using hp
        have hE2 := Lib.hid (hE.out.symm.trans (spanEnd_stop hlt hp'))
        clear hE hp
        go_wp2_with (go_at_call 78; refine (isInName_any _ _).mono ?_; rintro e w' ⟨rfl, rfl⟩)
        go_ret
        exact ⟨ret_int (by rw [hE2.out]), rfl⟩
    · have hE2 := Lib.hid (hE.out.symm.trans (spanEnd_end (by omega)))
      clear hE
      go_wp2_with fail
      go_ret
      exact ⟨ret_int (by rw [hE2.out]), rfl⟩

set_option maxHeartbeats 600000 in
theorem span_isDigit (s : ByteArray) (k : Nat) (w : World) (hs : s.size ≤ 65536) (hk : k ≤ s.size) : Calls Tryz.prog 59 #[.string s, .int .i64 k, .func (.func 69) #[] #[]] w fun e w' => e = .returned (.int .i64 (spanEnd digitB s k)) ∧ w = w' := by
  go_enter Tryz.func59, Tryz.ntmps59
  go_wp2
  go_loop [1] (fun i => ∃ j : Nat, k ≤ j ∧ j ≤ s.size ∧ i = .int .i64 j ∧ Hid (spanEnd digitB s j = spanEnd digitB s k)) (fun i => s.size - (intOf i).toNat)
  case atStart => exact ⟨k, Nat.le_refl _, hk, rfl, Lib.hid rfl⟩
  case round =>
    obtain ⟨j, hj, hj2, rfl, hE⟩ := hrel
    by_cases hlt : j < s.size
    · by_cases hp : digitB s[j].toNat = true
      · have hE2 := Lib.hid ((spanEnd_step hlt hp).trans hE.out)
        clear hE
        go_wp2_with (go_at_call 69; refine (isDigit_any _ _).mono ?_; rintro e w' ⟨rfl, rfl⟩)
        go_round
        case rel => exact ⟨j + 1, by omega, by omega, by go_num, hE2⟩
        case measure => simp [intOf]; omega
      · have hp' : digitB s[j].toNat = false := by simpa using hp
        have hE2 := Lib.hid (hE.out.symm.trans (spanEnd_stop hlt hp'))
        clear hE hp
        go_wp2_with (go_at_call 69; refine (isDigit_any _ _).mono ?_; rintro e w' ⟨rfl, rfl⟩)
        go_ret
        exact ⟨ret_int (by rw [hE2.out]), rfl⟩
    · have hE2 := Lib.hid (hE.out.symm.trans (spanEnd_end (by omega)))
      clear hE
      go_wp2_with fail
      go_ret
      exact ⟨ret_int (by rw [hE2.out]), rfl⟩
end Go.Proofs.YtgnnipnnnebpiaaGreatDoor
