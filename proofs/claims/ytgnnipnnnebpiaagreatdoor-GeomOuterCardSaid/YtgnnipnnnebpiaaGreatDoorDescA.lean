/-
  desc's small functions: which words are no names; lists that are empty; numbers.
-/
import Derived.Test.YtgnnipnnnebpiaaGreatDoorLexE
namespace Go.Proofs.YtgnnipnnnebpiaaGreatDoor
open Go.RowKit Go.Shelf

/-- The eleven words of descriptions. -/
def words : List (List UInt8) := [[109, 97, 99, 104, 105, 110, 101], [114, 101, 103], [97, 116], [99, 108, 97, 115, 115], [111, 112], [116, 105, 101], [99, 108, 111, 98], [97, 114, 103, 115], [114, 101, 115, 117, 108, 116], [115, 97, 118, 101, 100], [115, 108, 111, 116, 115]]
def NotWord (s : ByteArray) : Prop := ∀ x, x ∈ words → (s.toList == x) = false

set_option maxHeartbeats 400000 in
theorem isWord_no (s : ByteArray) (w : World) (h : NotWord s) : Calls Tryz.prog 47 #[.string s] w fun e w' => e = .returned (.bool false) ∧ w = w' := by
  have h0 := h [109, 97, 99, 104, 105, 110, 101] (by decide)
  have h1 := h [114, 101, 103] (by decide)
  have h2 := h [97, 116] (by decide)
  have h3 := h [99, 108, 97, 115, 115] (by decide)
  have h4 := h [111, 112] (by decide)
  have h5 := h [116, 105, 101] (by decide)
  have h6 := h [99, 108, 111, 98] (by decide)
  have h7 := h [97, 114, 103, 115] (by decide)
  have h8 := h [114, 101, 115, 117, 108, 116] (by decide)
  have h9 := h [115, 97, 118, 101, 100] (by decide)
  have h10 := h [115, 108, 111, 116, 115] (by decide)
  clear h
  go_enter Tryz.func47, Tryz.ntmps47
  go_wp2
  go_ret
  exact ⟨rfl, rfl⟩

set_option maxHeartbeats 400000 in
theorem isNumber_any (n : Int) (w : World) (h0 : 0 ≤ n) (h1 : n ≤ 999999) : Calls Tryz.prog 45 #[.int .i64 n] w fun e w' => e = .returned (.bool true) ∧ w = w' := by
  go_enter Tryz.func45, Tryz.ntmps45
  go_wp2
  go_ret
  exact ⟨ret_bool (by simp), rfl⟩

set_option maxHeartbeats 400000 in
theorem everyClass_nil (f : Value) (w : World) : Calls Tryz.prog 39 #[.slice none 0 0, f] w fun e w' => e = .returned (.bool true) ∧ w = w' := by
  go_enter Tryz.func39, Tryz.ntmps39
  go_wp2
  refine wp_loop_rounds 1 ?_
  rw [rounds_succ]
  go_wp2
  go_ret
  exact ⟨rfl, rfl⟩

set_option maxHeartbeats 400000 in
theorem everyOp_nil (f : Value) (w : World) : Calls Tryz.prog 41 #[.slice none 0 0, f] w fun e w' => e = .returned (.bool true) ∧ w = w' := by
  go_enter Tryz.func41, Tryz.ntmps41
  go_wp2
  refine wp_loop_rounds 1 ?_
  rw [rounds_succ]
  go_wp2
  go_ret
  exact ⟨rfl, rfl⟩

set_option maxHeartbeats 400000 in
theorem everyString_nil (f : Value) (w : World) : Calls Tryz.prog 43 #[.slice none 0 0, f] w fun e w' => e = .returned (.bool true) ∧ w = w' := by
  go_enter Tryz.func43, Tryz.ntmps43
  go_wp2
  refine wp_loop_rounds 1 ?_
  rw [rounds_succ]
  go_wp2
  go_ret
  exact ⟨rfl, rfl⟩

set_option maxHeartbeats 400000 in
theorem isNameOrNone_empty (w : World) : Calls Tryz.prog 44 #[.string ⟨#[]⟩] w fun e w' => e = .returned (.bool true) ∧ w = w' := by
  go_enter Tryz.func44, Tryz.ntmps44
  go_wp2
  go_ret
  exact ⟨rfl, rfl⟩

set_option maxHeartbeats 800000 in
theorem descIsName_yes (s : ByteArray) (w : World) (hE : Env w) (hN : IsName s) (hW : NotWord s) : Calls Tryz.prog 37 #[.string s] w fun e w' => e = .returned (.bool true) ∧ Below w.heap.size w w' := by
  have hle := hN.le
  have C1 := isWord_no s w hW
  have C2 := tokens_name s w hE hN
  clear hW hN hE
  go_enter Tryz.func37, Tryz.ntmps37
  go_wp2_with (first
    | (go_at_call 47; refine C1.mono ?_; clear C1; rintro e w' ⟨rfl, rfl⟩)
    | (go_at_call 48; refine C2.mono ?_; clear C2; rintro e w' ⟨g, c, rfl, h0, h1, hb⟩))
  go_ret
  exact ⟨ret_bool (by simp), hb⟩
end Go.Proofs.YtgnnipnnnebpiaaGreatDoor
