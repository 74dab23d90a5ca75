/-
  mdcheck's isName of a word: false.
-/
import Derived.Test.YtanbjaohmhoohaaGreatDoorSmI
namespace Go.Proofs.YtanbjaohmhoohaaGreatDoor
open Go.RowKit Go.Shelf

/-- The words that the statements give as names. -/
def aWord (s : ByteArray) : Prop := s = ⟨#[111, 112]⟩ ∨ s = ⟨#[114, 101, 103]⟩

set_option maxHeartbeats 400000 in
theorem isWord_yes (s : ByteArray) (hs : aWord s) (w : World) : Calls Tryz.prog 129 #[.string s] w fun e w' => e = .returned (.bool true) ∧ w = w' := by
  rcases hs with rfl | rfl
  · go_enter Tryz.func129, Tryz.ntmps129
    go_wp2
    go_ret
    exact ⟨rfl, rfl⟩
  · go_enter Tryz.func129, Tryz.ntmps129
    go_wp2
    go_ret
    exact ⟨rfl, rfl⟩

set_option maxHeartbeats 1000000 in
theorem descIsName_word (s : ByteArray) (hs : aWord s) (w : World) : Calls Tryz.prog 105 #[.string s] w fun e w' => e = .returned (.bool false) ∧ Below w.heap.size w w' := by
  have C := fun W => isWord_yes s hs W
  have hsz : (s.size : Int) ≤ 3 := by rcases hs with rfl | rfl <;> decide
  have hsz2 : ¬ (20 : Int) < s.size := by omega
  clear hs
  go_enter Tryz.func105, Tryz.ntmps105
  go_wp2_with (go_at_call 129; refine (C _).mono ?_; rintro e w' ⟨rfl, rfl⟩)
  go_ret
  exact ⟨rfl, Below.refl _ _⟩

set_option maxHeartbeats 1000000 in
theorem plain_word (s : ByteArray) (hs : aWord s) (w : World) :
    Calls Tryz.prog 81 #[.agg #[.string s, .slice none 0 0, .slice none 0 0, .slice none 0 0, .slice none 0 0, .string ⟨#[]⟩, .slice none 0 0, .int .i64 0]] w fun e w' => e = .returned (.bool false) ∧ Below w.heap.size w w' := by
  have C0 := descIsName_word s hs (w.alloc (.cells #[.string s, .slice none 0 0, .slice none 0 0, .slice none 0 0, .slice none 0 0, .string ⟨#[]⟩, .slice none 0 0, .int .i64 0] 27))
  clear hs
  go_enter Tryz.func81, Tryz.ntmps81
  go_wp2_with (go_at_call 105; refine C0.mono ?_; clear C0; rintro e w1 ⟨rfl, hb1⟩)
  go_ret
  exact ⟨rfl, ((Below.refl _ _).alloc (Nat.le_refl _) _).trans (hb1.mono (by simp))⟩

set_option maxHeartbeats 1000000 in
theorem mdIsName_word (s : ByteArray) (hs : aWord s) (w : World) : Calls Tryz.prog 45 #[.string s] w fun e w' => e = .returned (.bool false) ∧ Below w.heap.size w w' := by
  have K := plain_word s hs w
  clear hs
  go_enter Tryz.func45, Tryz.ntmps45
  go_wp2_with (go_at_call 81; refine K.mono ?_; clear K; rintro e W1 ⟨rfl, hb⟩)
  go_ret
  exact ⟨rfl, hb⟩

/-- Check of a machine whose name is a word. -/
theorem check_word {w : World} {m : MV} (hs : aWord m.name) : Calls Tryz.prog 11 #[m.val] w fun e w' => e = .returned (.int .i64 5) ∧ Below w.heap.size w w' :=
  check_early false 5 (by decide) (fun W _ => mdIsName_word m.name hs W) (fun _ => rfl) (fun h => absurd h (by decide))
end Go.Proofs.YtanbjaohmhoohaaGreatDoor
