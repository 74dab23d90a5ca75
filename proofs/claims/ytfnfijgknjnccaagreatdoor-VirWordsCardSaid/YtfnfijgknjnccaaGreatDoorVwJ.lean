/-
  vir's numerals.
-/
import Derived.Test.YtfnfijgknjnccaaGreatDoorVwI
import Derived.Deep.OwnRows
namespace Go.Proofs.YtfnfijgknjnccaaGreatDoor
open Go.RowKit Go.Sort
theorem Tryz.infoStrV : (Tryz.prog.info? 9).map (fun i => (i.zero, i.size, i.bytes)) = some (some (.string ⟨#[]⟩), 1, 16) := by kernel_rfl
def wordRow (l : List Int) (k : Nat) : Array Value := ((((l.take k).map wordN) ++ List.replicate (l.length - k) (⟨#[]⟩ : ByteArray)).map Value.string).toArray
theorem wordRow_zero (l : List Int) : wordRow l 0 = Array.replicate l.length (.string ⟨#[]⟩) := by simp [wordRow]
theorem wordRow_succ (l : List Int) (k : Nat) (x : Int) (hx : l[k]? = some x) : (wordRow l k).setIfInBounds k (.string (wordN x)) = wordRow l (k + 1) := by
  have hlt : k < l.length := (List.getElem?_eq_some_iff.1 hx).1
  apply Array.ext'
  simp only [wordRow, Array.toList_setIfInBounds]
  rw [show l.length - k = (l.length - (k + 1)) + 1 by omega, List.replicate_succ, List.take_add_one, hx]
  simp only [List.map_append, List.map_cons, Option.toList_some, List.map_nil, List.append_assoc, List.cons_append, List.nil_append]
  have hk : (List.map Value.string (List.map wordN (List.take k l))).length = k := by simp; omega
  generalize List.map Value.string (List.map wordN (List.take k l)) = A at hk ⊢
  rw [List.set_append_right _ _ (by omega), hk, Nat.sub_self]; rfl
theorem wordRow_end (l : List Int) : wordRow l l.length = ((l.map wordN).map Value.string).toArray := by simp [wordRow]
theorem madeCells_repV (v : Value) (n : Nat) : madeCells #[v] n = Array.replicate n v := by
  apply Array.ext
  · simp [madeCells]
  · intro i h1 h2
    simp [madeCells, Nat.mod_one]
theorem wordRow_get (l : List Int) (k : Nat) (hk : k < l.length) : (wordRow l k)[k]? = some (.string ⟨#[]⟩) := by
  have h1 : ((l.take k).map wordN).length = k := by simp; omega
  simp only [wordRow, List.getElem?_toArray, List.getElem?_map]
  rw [List.getElem?_append_right (by omega), h1, Nat.sub_self, List.getElem?_replicate, if_pos (by omega)]
  rfl
set_option maxHeartbeats 4000000
set_option maxRecDepth 100000
/-- The words of numbers: a new row. -/
theorem numerals_any {a : Option Addr} {c : Nat} {l : List Int} {w : World} (hE : EnvV w) (hl : IntsL w a l) (hz : ∀ x, x ∈ l → In64 x) (hlen : l.length ≤ 100000) :
    Calls Tryz.prog 16 #[.slice a l.length c] w fun e w' => ∃ b, e = .returned (.slice (some ⟨b, 0, none⟩) l.length l.length) ∧ w.heap.size ≤ b ∧ Cells w' b 9 ((l.map wordN).map Value.string).toArray ∧ Below w.heap.size w w' := by
  replace hE := Lib.hid hE
  replace hl := Lib.hid hl
  replace hz := Lib.hid hz
  have hmk := run_make_row' (P := Tryz.prog) 28 9 (.string ⟨#[]⟩) 16 Tryz.underlying28 Tryz.infoStrV rfl .i64 .i64 l.length (by omega) (by omega)
  go_enter Tryz.func16, Tryz.ntmps16
  go_wp2_with fail
  clear hmk
  have hC0 : Cells (w.alloc (.cells (madeCells #[.string ⟨#[]⟩] l.length) 9)) w.heap.size 9 (wordRow l 0) := by rw [wordRow_zero, ← madeCells_repV]; exact Cells.new w _ _
  have hB0 : Below w.heap.size w (w.alloc (.cells (madeCells #[.string ⟨#[]⟩] l.length) 9)) := (Below.refl _ _).alloc (Nat.le_refl _) _
  go_loopw [11] (fun i wr => ∃ k : Nat, k ≤ l.length ∧ i = .int .i64 k ∧ Cells wr w.heap.size 9 (wordRow l k) ∧ Below w.heap.size w wr) (fun i _ => l.length - (intOf i).toNat)
  case atStart => exact ⟨0, Nat.zero_le _, rfl, hC0, hB0⟩
  case round =>
    clear hC0 hB0
    obtain ⟨k, hk, rfl, hR, hB⟩ := hrel
    have k0 : (0 : Int) ≤ k := Int.natCast_nonneg _
    by_cases hlt : k < l.length
    · obtain ⟨x, hx⟩ : ∃ x, l[k]? = some x := ⟨l[k], by rw [List.getElem?_eq_getElem hlt]⟩
      obtain ⟨b, o, rfl, hc⟩ := hl.out k x hx
      have hc' := cell_below hB hc
      have hi : IntKind.i64.wrap ((k : Int) + 1) = k + 1 := IntWalk.i64_in _ (by omega)
      have k1 : (k : Int) < l.length := by omega
      have K := numeral_any x (hz.out x (List.mem_of_getElem? hx)) wr (hE.out.below hB)
      have hw := hR.lt
      have hP : ∀ W1, Below wr.heap.size wr W1 → (W1.cell? ⟨w.heap.size, k, none⟩ = some (.string ⟨#[]⟩) ∧ W1.frozen? ⟨w.heap.size, k, none⟩ = false) ∧ Cells (W1.setCell ⟨w.heap.size, k, none⟩ (.string (wordN x))) w.heap.size 9 (wordRow l (k + 1)) ∧ Below w.heap.size w (W1.setCell ⟨w.heap.size, k, none⟩ (.string (wordN x))) := fun W1 hb => by
        have hR1 := hR.below hb hw
        refine ⟨⟨hR1.cell (wordRow_get l k hlt), hR1.frozen k⟩, ?_, (hB.trans (hb.mono hB.size)).setCell (p := ⟨w.heap.size, k, none⟩) (Nat.le_refl _) _⟩
        have := hR1.set (j := k) (.string (wordN x))
        rw [wordRow_succ l k x hx] at this; exact this
      clear hc hR hx
      generalize wordN x = q at *
      go_wp2_with (go_at_call 39; refine K.mono ?_; clear K; rintro e W1 ⟨rfl, hb⟩; obtain ⟨⟨q0, q1⟩, q2⟩ := hP W1 hb; clear hP)
      exact ⟨⟨k + 1, by omega, by go_num, q2.1, q2.2⟩, by simp [intOf]; omega⟩
    · obtain rfl : k = l.length := by omega
      rw [wordRow_end] at hR
      go_wp2
      go_ret
      exact ⟨_, rfl, Nat.le_refl _, hR, hB⟩
end Go.Proofs.YtfnfijgknjnccaaGreatDoor
