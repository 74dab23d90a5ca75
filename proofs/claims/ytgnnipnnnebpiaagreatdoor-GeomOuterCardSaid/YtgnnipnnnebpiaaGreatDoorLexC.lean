/-
  The lexer's tokens: token, name, first: what the first token of a text is that begins with a letter at a place.
-/
import Derived.Test.YtgnnipnnnebpiaaGreatDoorLexB
import Derived.Below
namespace Go.Proofs.YtgnnipnnnebpiaaGreatDoor
open Go.RowKit

theorem bcell {W w1 : World} (hb : Below W.heap.size W w1) : (∀ b o, b < W.heap.size → w1.cell? ⟨b, o, none⟩ = W.cell? ⟨b, o, none⟩) ∧ (∀ b o, b < W.heap.size → w1.frozen? ⟨b, o, none⟩ = W.frozen? ⟨b, o, none⟩) :=
  ⟨fun b o h => hb.cell (p := ⟨b, o, none⟩) h, fun b o h => hb.frozen (p := ⟨b, o, none⟩) h⟩

set_option maxHeartbeats 400000 in
theorem clone_any (s : ByteArray) (w : World) (hs : s.size ≤ 65536) : Calls Tryz.prog 27 #[.string s] w fun e w' => e = .returned (.string s) ∧ Below w.heap.size w w' := by
  go_enter Tryz.func27, Tryz.ntmps27
  go_wp2_with (go_at_call 36; refine (Tryz.stringslite_Clone _ _ (by omega)).mono ?_; rintro e w' ⟨rfl, hb⟩)
  go_ret
  exact ⟨rfl, hb⟩

set_option maxHeartbeats 400000 in
theorem token_any (kind : Int) (s : ByteArray) (k n : Nat) (w : World) (hs : s.size ≤ 65536) (hk : k ≤ n) (hn : n ≤ s.size) :
    Calls Tryz.prog 72 #[.int .i64 kind, .string s, .int .i64 k, .int .i64 n] w fun e w' =>
      e = .returned (.agg #[.int .i64 kind, .string (s.extract k n), .int .i64 0, .int .i64 0, .int .i64 (k + 1)]) ∧ Below w.heap.size w w' := by
  have hx : (s.extract k n).size ≤ 65536 := by simp; omega
  go_enter Tryz.func72, Tryz.ntmps72
  go_wp2_with (go_at_call 27; refine (clone_any _ _ hx).mono ?_; rintro e w' ⟨rfl, hb⟩; obtain ⟨hc, hf⟩ := bcell hb; have hz : w.heap.size < w'.heap.size := (by have := hb.size; simp at this; omega))
  refine bodyPost_ret (v := .agg #[.int .i64 kind, .string (s.extract k n), .int .i64 0, .int .i64 0, .int .i64 (k + 1)]) (by simp [results, Tryz.results72, go_sem, hc]) rfl ⟨rfl, ?_⟩
  exact (((((((Below.refl _ _).alloc (Nat.le_refl _) _).trans (hb.mono (by simp))).setCell (by simp) _).setCell (by simp) _).setCell (by simp) _).setCell (by simp) _).setCell (by simp) _

/-- A name token of s from k up to n. -/
def nameTok (s : ByteArray) (k n : Nat) : Value := .agg #[.int .i64 1, .string (s.extract k n), .int .i64 0, .int .i64 0, .int .i64 (k + 1)]

set_option maxHeartbeats 400000 in
theorem name_ok (s : ByteArray) (k n : Nat) (w : World) (hs : s.size ≤ 65536) (hk : k ≤ s.size) (hn : spanEnd inNameB s k = n) (hle : n ≤ k + 20) :
    Calls Tryz.prog 68 #[.string s, .int .i64 k] w fun e w' =>
      e = .returned (.tuple #[.agg #[.int .i64 1, .string (s.extract k n), .int .i64 0, .int .i64 0, .int .i64 (k + 1)], .int .i64 0]) ∧ Below w.heap.size w w' := by
  have hge := spanEnd_ge inNameB s k
  have hle2 := spanEnd_le inNameB s k hk
  rw [hn] at hge hle2
  have C1 := fun w => span_isInName s k w hs hk
  rw [hn] at C1
  clear hn
  have C2 := fun w => token_any 1 s k n w hs hge hle2
  go_enter Tryz.func68, Tryz.ntmps68
  go_wp2_with (first
    | (go_at_call 59; refine (C1 _).mono ?_; clear C1; rintro e w' ⟨rfl, rfl⟩)
    | (go_at_call 72; refine (C2 _).mono ?_; clear C2; rintro e w' ⟨rfl, hb⟩; obtain ⟨hc, hf⟩ := bcell hb; have hz : w.heap.size < w'.heap.size := (by have := hb.size; simp at this; omega)))
  refine bodyPost_ret (v := .tuple #[.agg #[.int .i64 1, .string (s.extract k n), .int .i64 0, .int .i64 0, .int .i64 (k + 1)], .int .i64 0]) (by simp [results, Tryz.results68, go_sem, hc]) rfl ⟨rfl, ?_⟩
  exact (((((((Below.refl _ _).alloc (Nat.le_refl _) _).trans (hb.mono (by simp))).setCell (by simp) _).setCell (by simp) _).setCell (by simp) _).setCell (by simp) _).setCell (by simp) _

set_option maxHeartbeats 400000 in
theorem first_letter (s : ByteArray) (k n : Nat) (w : World) (hs : s.size ≤ 65536) (hk : k < s.size) (hl : letterB s[k].toNat = true) (hn : spanEnd inNameB s k = n) (hle : n ≤ k + 20) :
    Calls Tryz.prog 61 #[.string s, .int .i64 k] w fun e w' =>
      e = .returned (.tuple #[.agg #[.int .i64 1, .string (s.extract k n), .int .i64 0, .int .i64 0, .int .i64 (k + 1)], .int .i64 0]) ∧ Below w.heap.size w w' := by
  have C2 := fun w => name_ok s k n w hs (by omega) hn hle
  have C1 := fun w => isLetter_any s[k].toNat w
  rw [hl] at C1
  clear hn hl
  go_enter Tryz.func61, Tryz.ntmps61
  go_wp2_with (first
    | (go_at_call 67; refine (C1 _).mono ?_; clear C1; rintro e w' ⟨rfl, rfl⟩)
    | (go_at_call 68; refine (C2 _).mono ?_; clear C2; rintro e w' ⟨rfl, hb⟩; obtain ⟨hc, hf⟩ := bcell hb; have hz : w.heap.size < w'.heap.size := (by have := hb.size; simp at this; omega)))
  refine bodyPost_ret (v := .tuple #[.agg #[.int .i64 1, .string (s.extract k n), .int .i64 0, .int .i64 0, .int .i64 (k + 1)], .int .i64 0]) (by simp [results, Tryz.results61, go_sem, hc]) rfl ⟨rfl, ?_⟩
  exact (((((((Below.refl _ _).alloc (Nat.le_refl _) _).trans (hb.mono (by simp))).setCell (by simp) _).setCell (by simp) _).setCell (by simp) _).setCell (by simp) _).setCell (by simp) _
end Go.Proofs.YtgnnipnnnebpiaaGreatDoor
