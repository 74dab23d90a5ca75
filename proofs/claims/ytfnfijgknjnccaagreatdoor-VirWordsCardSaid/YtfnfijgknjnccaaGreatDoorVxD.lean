/-
  vir's reader: the lines of registers and of parameters.
-/
import Derived.Test.YtfnfijgknjnccaaGreatDoorVxC
namespace Go.Proofs.YtfnfijgknjnccaaGreatDoor
open Go.RowKit Go.Sort
theorem name_nob {s : ByteArray} (h : IsName s) : NoB 32 s ∧ NoB 10 s := by
  refine ⟨fun c hc e => ?_, fun c hc => not_name_10 h.all c hc⟩
  have h1 := blank_not_name c (h.all c hc)
  rw [e] at h1
  exact absurd h1 (by decide)
theorem dec_digits (u : Nat) : ∀ b, b ∈ Lib.decDigits u → 48 ≤ b.toNat ∧ b.toNat ≤ 57 := by
  induction u using Nat.strongRecOn with
  | _ u ih =>
    intro b hb
    by_cases h : u < 10
    · rw [Lib.decDigits, dif_pos h, List.mem_singleton] at hb
      rw [hb, digit_nat u h]
      omega
    · rw [Lib.decDigits, dif_neg h, List.mem_append, List.mem_singleton] at hb
      rcases hb with hb | hb
      · exact ih (u / 10) (by omega) b hb
      · rw [hb, digit_nat (u % 10) (by omega)]
        omega
theorem word_nob (n : Int) : NoB 32 (wordN n) ∧ NoB 10 (wordN n) := by
  have h : ∀ b, b ∈ (wordN n).data.toList → b.toNat = 45 ∨ (48 ≤ b.toNat ∧ b.toNat ≤ 57) := fun b hb => by
    rw [wordN_list] at hb
    unfold Lib.itoa at hb
    split at hb
    · rcases List.mem_cons.1 hb with rfl | hb
      · exact .inl rfl
      · exact .inr (dec_digits _ b hb)
    · exact .inr (dec_digits _ b hb)
  refine ⟨fun b hb e => ?_, fun b hb e => ?_⟩
  all_goals
    have := h b hb
    rw [e] at this
    revert this
    decide
set_option maxHeartbeats 4000000
set_option maxRecDepth 100000

theorem line_regs {R : Nat} {l : List ByteArray} {v0 v1 v2 v3 v4 : Value} {w : World} (hE : EnvV w) (hR : Cells w R 42 #[v0, v1, v2, v3, v4, .bool false]) (hok : ∀ x, x ∈ l → IsName x) (hb : ∀ x, x ∈ l → NoB 32 x) (hm : (l.length : Int) ≤ 500) (hlen : (joinSp (⟨#[114, 101, 103, 115]⟩ :: l)).length ≤ 65536) :
    Calls Tryz.prog 14 #[.pointer (some ⟨R, 0, none⟩), .int .i64 2, .string (lineW (⟨#[114, 101, 103, 115]⟩ :: l))] w fun e w' => e = .returned (.int .i64 0) ∧ ∃ W1 a' c', Below w.heap.size w W1 ∧ W1.ownsRow w.heap.size 9 1 (.slice a' l.length c') l.length (l.map Value.string) ∧ w' = W1.setCell ⟨R, 1, none⟩ (.slice a' l.length c') := by
  have hnb : ∀ x, x ∈ (⟨#[114, 101, 103, 115]⟩ : ByteArray) :: l → NoB 32 x := fun x hx => by
    rcases List.mem_cons.1 hx with rfl | hx
    · intro b hb; revert b; decide
    · exact hb x hx
  have K1 := cut_any (joinSp (⟨#[114, 101, 103, 115]⟩ :: l)) w hlen
  have K2 := split_words (ws := ⟨#[114, 101, 103, 115]⟩ :: l) hE (by simp) hnb hlen
  have hB : Below w.heap.size w (w.alloc (.cells (((⟨#[114, 101, 103, 115]⟩ : ByteArray) :: l).map Value.string).toArray 9)) := belowN
  have K3 := listedS_ok (c := l.length + 1) (most := 500) (hE.below hB) (strs_of_cells (Cells.new w _ (((⟨#[114, 101, 103, 115]⟩ : ByteArray) :: l).map Value.string).toArray)) (Nat.le_refl _) hok hm (by omega)
  have hc3 := fun V hb => (hR.below (hB.trans (hb : Below w.heap.size _ V)) hR.lt)
  have c5 := hR.cell (j := 5) (v := .bool false) rfl
  unfold lineW
  generalize txt (joinSp (⟨#[114, 101, 103, 115]⟩ :: l) ++ [10]) = s at *
  generalize txt (joinSp (⟨#[114, 101, 103, 115]⟩ :: l)) = t at *
  simp only [List.length_cons, List.map_cons] at K2 K3 hB hc3
  clear hE hnb hlen hm
  replace hB := Lib.hid hB
  replace hc3 := Lib.hid hc3
  obtain ⟨n, hn⟩ : ∃ n, n = l.length := ⟨_, rfl⟩
  rw [← hn] at K2 K3 ⊢
  replace hn := Lib.hid hn
  go_enter Tryz.func14, Tryz.ntmps14
  go_wp2_with (first
    | (go_at_call 29; refine K1.mono ?_; clear K1; rintro e w1 ⟨rfl, rfl⟩)
    | (go_at_call 30; refine K2.mono ?_; clear K2; rintro e w1 ⟨rfl, rfl⟩)
    | (go_at_call 32; refine K3.mono ?_; clear K3; rintro e W3 ⟨a', c', rfl, hrow, hb3⟩; have hR3 := hc3.out W3 (hb3.mono hB.out.size); have f3 := hR3.frozen 1; have d3 := hR3.cell (j := 1) rfl; replace hR3 := Lib.hid hR3))
  go_ret
  exact ⟨rfl, W3, a', c', hB.out.trans (hb3.mono hB.out.size), row_mono hrow hB.out.size, rfl⟩

theorem line_params {R : Nat} {l : List ByteArray} {v0 v1 v2 v3 v4 : Value} {w : World} (hE : EnvV w) (hR : Cells w R 42 #[v0, v1, v2, v3, v4, .bool false]) (hz : ∀ x, x ∈ l → x.size ≤ 65536) (hok : ∀ x, x ∈ l → numB x = true) (hb : ∀ x, x ∈ l → NoB 32 x) (hm : (l.length : Int) ≤ 16) (hlen : (joinSp (⟨#[112, 97, 114, 97, 109, 115]⟩ :: l)).length ≤ 65536) :
    Calls Tryz.prog 14 #[.pointer (some ⟨R, 0, none⟩), .int .i64 3, .string (lineW (⟨#[112, 97, 114, 97, 109, 115]⟩ :: l))] w fun e w' => e = .returned (.int .i64 0) ∧ ∃ W1 a' c', Below w.heap.size w W1 ∧ W1.ownsRow w.heap.size 3 1 (.slice a' l.length c') l.length ((l.map intV).map (Value.int .i64)) ∧ w' = W1.setCell ⟨R, 2, none⟩ (.slice a' l.length c') := by
  have hnb : ∀ x, x ∈ (⟨#[112, 97, 114, 97, 109, 115]⟩ : ByteArray) :: l → NoB 32 x := fun x hx => by
    rcases List.mem_cons.1 hx with rfl | hx
    · intro b hb; revert b; decide
    · exact hb x hx
  have K1 := cut_any (joinSp (⟨#[112, 97, 114, 97, 109, 115]⟩ :: l)) w hlen
  have K2 := split_words (ws := ⟨#[112, 97, 114, 97, 109, 115]⟩ :: l) hE (by simp) hnb hlen
  have hB : Below w.heap.size w (w.alloc (.cells (((⟨#[112, 97, 114, 97, 109, 115]⟩ : ByteArray) :: l).map Value.string).toArray 9)) := belowN
  have K3 := listedI_ok (c := l.length + 1) (most := 16) (hE.below hB) (strs_of_cells (Cells.new w _ (((⟨#[112, 97, 114, 97, 109, 115]⟩ : ByteArray) :: l).map Value.string).toArray)) (Nat.le_refl _) hz hok hm (by omega)
  have hc3 := fun V hb => (hR.below (hB.trans (hb : Below w.heap.size _ V)) hR.lt)
  have c5 := hR.cell (j := 5) (v := .bool false) rfl
  unfold lineW
  generalize txt (joinSp (⟨#[112, 97, 114, 97, 109, 115]⟩ :: l) ++ [10]) = s at *
  generalize txt (joinSp (⟨#[112, 97, 114, 97, 109, 115]⟩ :: l)) = t at *
  simp only [List.length_cons, List.map_cons] at K2 K3 hB hc3
  clear hE hnb hlen hm
  replace hB := Lib.hid hB
  replace hc3 := Lib.hid hc3
  obtain ⟨n, hn⟩ : ∃ n, n = l.length := ⟨_, rfl⟩
  rw [← hn] at K2 K3 ⊢
  replace hn := Lib.hid hn
  go_enter Tryz.func14, Tryz.ntmps14
  go_wp2_with (first
    | (go_at_call 29; refine K1.mono ?_; clear K1; rintro e w1 ⟨rfl, rfl⟩)
    | (go_at_call 30; refine K2.mono ?_; clear K2; rintro e w1 ⟨rfl, rfl⟩)
    | (go_at_call 34; refine K3.mono ?_; clear K3; rintro e W3 ⟨a', c', rfl, hrow, hb3⟩; have hR3 := hc3.out W3 (hb3.mono hB.out.size); have f3 := hR3.frozen 2; have d3 := hR3.cell (j := 2) rfl; replace hR3 := Lib.hid hR3))
  go_ret
  exact ⟨rfl, W3, a', c', hB.out.trans (hb3.mono hB.out.size), row_mono hrow hB.out.size, rfl⟩
end Go.Proofs.YtfnfijgknjnccaaGreatDoor
