/-
  GeomRow where the numbers are right: it answers true.
-/
import Derived.Test.YtpcdfficlheopaaGreatDoorRowC
namespace Go.Proofs.YtpcdfficlheopaaGreatDoor
open Go.RowKit Go.Shelf

set_option maxRecDepth 100000 in
set_option maxHeartbeats 4000000 in
theorem row_in (n : Nat) (width : Int) (w : World) (hE : Env w) (h1 : 1 ≤ n) (h2 : n ≤ 16) (h3 : 1 ≤ width) (h4 : width ≤ 64) (h5 : (n : Int) * width ≤ 64) :
    Calls Tryz.prog 4 #[.int .i64 n, .int .i64 width] w fun e w' => e = .returned (.bool true) ∧ Below w.heap.size w w' := by
  have C1 := alive_yes w hE
  have i1 : ¬ (n : Int) < 1 := by omega
  have i2 : ¬ (16 : Int) < n := by omega
  have i3 : ¬ width < 1 := by omega
  have i4 : ¬ 64 < width := by omega
  have hmul : IntKind.i64.wrap ((n : Int) * width) = n * width := IntWalk.i64_in _ (by
    have : (0 : Int) ≤ n * width := Int.mul_nonneg (by omega) (by omega)
    omega)
  have i5 : ¬ 64 < (n : Int) * width := by omega
  go_enter Tryz.func4, Tryz.ntmps4
  go_wp2_with (go_at_call 6; refine C1.mono ?_; clear C1; rintro e W1 ⟨rfl, hb1⟩)
  have hR0 := Cells.new W1 26 #[.string ⟨#[119, 105, 100, 101]⟩, .int .i64 64, .int .i64 0, .slice none 0 0]
  have hB2 : Below W1.heap.size W1 (W1.alloc (.cells #[.string ⟨#[119, 105, 100, 101]⟩, .int .i64 64, .int .i64 0, .slice none 0 0] 26)) := (Below.refl _ _).alloc (Nat.le_refl _) _
  go_loopw [7] (fun i wr => ∃ k : Nat, k ≤ n ∧ i = .int .i64 k ∧ RowMade W1 width k wr) (fun i _ => n - (intOf i).toNat)
  case atStart => exact ⟨0, Nat.zero_le _, rfl, _, hR0, World.ownsRow_nil _ _ _ _, hB2⟩
  case round =>
    clear hR0 hB2
    obtain ⟨k, hk, rfl, v, hR, hrow, hB⟩ := hrel
    by_cases hlt : k < n
    · obtain ⟨a, cap, rfl⟩ := ownsRow_form hrow
      have r3 := hR.cell (j := 3) (v := .slice a k cap) rfl
      have rf := hR.frozen 3
      have ra := fun o => cell_alloc o r3
      have hsz := hR.lt
      have k0 : (0 : Int) ≤ (k : Int) := Int.natCast_nonneg _
      have k1 : (k : Int) ≤ 16 := by omega
      have k2 : (k : Int) + 1 ≤ 16 := by omega
      have k3 : (k : Int) < n := by omega
      have kA : (0 : Int) ≤ (k : Int) + 1 := by omega
      have kB : (k : Int) ≤ (k : Int) + 1 := by omega
      have hcat : ¬ 9223372036854775807 < 1 + (min (k + 1) 16 - k) := by omega
      have kC : ((k : Int) + 1).toNat = k + 1 := by omega
      have hlekn : (k : Int) * width ≤ n * width := Int.mul_le_mul_of_nonneg_right (by omega) (by omega)
      have hk0 : (0 : Int) ≤ (k : Int) * width := Int.mul_nonneg (by omega) (by omega)
      have hmulk : IntKind.i64.wrap ((k : Int) * width) = k * width := IntWalk.i64_in _ (by omega)
      have haddk : IntKind.i64.wrap ((k : Int) + 1) = k + 1 := IntWalk.i64_in _ (by omega)
      obtain ⟨i0, hi, hz0, hz1, hz2⟩ := info_parts Tryz.infoReg
      have hBs := hB.size
      have hne : some W1.heap.size ≠ (Value.slice a k cap).ownBlock := fun e => by have := (ownsRow_block hrow e.symm).1; omega
      go_wp2
      go_region_law (first
        | (refine step_append_lies _ (by rfl) _ _ _ (by rfl) (W1.heap.size + 1) 26 i0 _ 4 56 Tryz.underlying24 hi hz0 hz1 hz2 rfl (by omega) (.slice a k cap) k (rowCells width k) (by rfl) ((hrow.alloc _).drew)
            ⟨wr.heap.size, 0, none⟩ 1 1 (rowCell width k) (by rfl) (by rfl) (World.news_of_block (cs := #[.string (rowName k), .int .i64 width, .int .i64 (k * width), .slice none 0 0]) (t := 26) (fr := (0, 0)) (heap_alloc_new wr _)) (by simp [rowCell, Value.oneCell'])
            (by omega) (by unfold maxLen; omega) (by omega) (by simp; omega) (wr.heap.size + 1) (by simp) ?_; intro gg gcap W6 hown1 hgrow hat hlt6; have hR6 : Cells W6 W1.heap.size 26 #[.string ⟨#[119, 105, 100, 101]⟩, .int .i64 64, .int .i64 0, .slice a k cap] := Cells.kept (W := (wr.alloc _).drew) (hR.alloc _) hgrow hne; have f6 := hR6.frozen 3; have c6 := hR6.cell (j := 3) (v := .slice a k cap) rfl))
      all_goals
        have hG := append_step_lt hR (j := 3) (Nat.lt_succ_self _) hrow hown1 hgrow
        rw [← rowCells_succ] at hG
        clear hR6 f6 c6 hown1 hgrow hat hlt6 hR hrow r3 rf ra hne hi hz0 hz1 hz2 hcat hmulk
        go_wp2
        exact ⟨⟨k + 1, by omega, by go_num, _, hG.1, hG.2.1, hB.trans hG.2.2⟩, by simp [intOf]; omega⟩
    · obtain rfl : k = n := by omega
      obtain ⟨g, cap, rfl⟩ : ∃ g cap, v = .slice (some ⟨g, 0, none⟩) k cap := by
        obtain ⟨m, rfl⟩ : ∃ m, k = m + 1 := ⟨k - 1, by omega⟩
        exact ownsRow_succ hrow
      have C2 : ∀ W base B, Below w.heap.size w W → _ → _ → _ := fun W base B (hB : Below w.heap.size w W) hR hr => row_places k width W (hE.below hB) B base g cap h1 h2 h3 h4 h5 hR hr
      have hBw : Below w.heap.size w wr := hb1.trans (hB.mono hb1.size)
      have r0 := hR.cell (j := 0) (v := .string ⟨#[119, 105, 100, 101]⟩) rfl
      have r1 := hR.cell (j := 1) (v := .int .i64 64) rfl
      have r2 := hR.cell (j := 2) (v := .int .i64 0) rfl
      have r3 := hR.cell (j := 3) (v := .slice (some ⟨g, 0, none⟩) k cap) rfl
      have haddn : IntKind.i64.wrap ((k : Int) + 1) = k + 1 := IntWalk.i64_in _ (by omega)
      have hBn := hBw.alloc hBw.size (.cells #[.string ⟨#[119, 105, 100, 101]⟩, .int .i64 64, .int .i64 0, .slice (some ⟨g, 0, none⟩) k cap] 26)
      have hC2 := (C2 _ (W1.heap.size + 1) wr.heap.size hBn (Cells.new wr _ _) (hrow.alloc _)).mono (R' := fun e W' => ∃ nV q qc, e = .returned (.tuple #[nV, .slice (some ⟨q, 0, none⟩) (k + 1) qc, .int .i64 0]) ∧
        (∀ i p, (rowSpots k width)[i]? = some p → W'.cell? ⟨q, i * 3, none⟩ = some (.int .i64 p.1) ∧ W'.cell? ⟨q, i * 3 + 1, none⟩ = some (.int .i64 p.2.1) ∧ W'.cell? ⟨q, i * 3 + 2, none⟩ = some (.int .i64 p.2.2)) ∧ Below w.heap.size w W') (fun e W' ⟨nV, q, qc, he, hc, hq, hb⟩ => ⟨nV, q, qc, he, hc, hBn.trans (hb.mono hBn.size)⟩)
      clear C2 hR hrow hE hb1 hB hBw hBn
      go_wp2_with (first
        | (go_at_call 7; refine hC2.mono ?_; clear hC2; rintro e W2 ⟨nV, q, qc, rfl, hq, hb2⟩)
        | (go_at_call 8; refine (num_any _ _).mono ?_; rintro e W3 ⟨rfl, rfl⟩))
      have hT := told_of hq hb2
      clear hq hb2
      have C3 : ∀ i j : Nat, 1 ≤ i → i ≤ k → 1 ≤ j → j < i → ∀ W, Calls Tryz.prog 9 #[.agg #[.int .i64 0, .int .i64 (((i : Int) - 1) * width), .int .i64 width], .agg #[.int .i64 0, .int .i64 (((j : Int) - 1) * width), .int .i64 width]] W fun e W' => e = .returned (.bool false) ∧ Below W.heap.size W W' := fun i j a b c d W => by
        have e1 : (j : Int) * width ≤ (i - 1 : Int) * width := Int.mul_le_mul_of_nonneg_right (by omega) (by omega)
        have e2 : ((j : Int) - 1) * width = j * width - width := by rw [Int.sub_mul, Int.one_mul]
        have e3 : ((i : Int) - 1) * width ≤ k * width := Int.mul_le_mul_of_nonneg_right (by omega) (by omega)
        have e4 : 0 ≤ ((j : Int) - 1) * width := Int.mul_nonneg (by omega) (by omega)
        have := Lap_any 0 (((i : Int) - 1) * width) width (((j : Int) - 1) * width) width W (by omega) (by omega) h3 (by omega) (by omega) (by omega) h3 (by omega)
        rwa [show lapB (((i : Int) - 1) * width) width (((j : Int) - 1) * width) width = false by unfold lapB; simp; omega] at this
      have C4 : ∀ i : Nat, 1 ≤ i → i ≤ k → ∀ W, Calls Tryz.prog 9 #[.agg #[.int .i64 0, .int .i64 0, .int .i64 64], .agg #[.int .i64 0, .int .i64 (((i : Int) - 1) * width), .int .i64 width]] W fun e W' => e = .returned (.bool true) ∧ Below W.heap.size W W' := fun i a b W => by
        have e1 : (i : Int) * width ≤ k * width := Int.mul_le_mul_of_nonneg_right (by omega) (by omega)
        have e2 : ((i : Int) - 1) * width = i * width - width := by rw [Int.sub_mul, Int.one_mul]
        have e4 : 0 ≤ ((i : Int) - 1) * width := Int.mul_nonneg (by omega) (by omega)
        have := Lap_any 0 0 64 (((i : Int) - 1) * width) width W (by omega) (by omega) (by omega) (by omega) (by omega) (by omega) h3 (by omega)
        rwa [show lapB 0 64 (((i : Int) - 1) * width) width = true by unfold lapB; simp; omega] at this
      have C5 : ∀ i : Nat, 1 ≤ i → i ≤ k → ∀ W, Calls Tryz.prog 10 #[.agg #[.int .i64 0, .int .i64 (((i : Int) - 1) * width), .int .i64 width], .agg #[.int .i64 0, .int .i64 0, .int .i64 64]] W fun e W' => e = .returned (.bool true) ∧ Below W.heap.size W W' := fun i a b W => by
        have e1 : (i : Int) * width ≤ k * width := Int.mul_le_mul_of_nonneg_right (by omega) (by omega)
        have e2 : ((i : Int) - 1) * width = i * width - width := by rw [Int.sub_mul, Int.one_mul]
        have e4 : 0 ≤ ((i : Int) - 1) * width := Int.mul_nonneg (by omega) (by omega)
        exact Within_yes 0 (((i : Int) - 1) * width) width 0 64 W (by omega) (by omega) h3 (by omega) (by omega) (by omega) (by omega) (by omega) (by omega) (by omega)
      go_loopw [11] (fun i wr => ∃ i' : Nat, 1 ≤ i' ∧ i' ≤ k + 1 ∧ i = .int .i64 i' ∧ Told w k width q wr) (fun i _ => k + 1 - (intOf i).toNat)
      case atStart => exact ⟨1, Nat.le_refl _, by omega, rfl, hT⟩
      case round =>
        obtain ⟨i, hi1, hi2, rfl, hT2⟩ := hrel
        clear hT
        by_cases hle : i ≤ k
        · have ib0 : (0 : Int) ≤ i := by omega
          have ib1 : (i : Int) < (k : Int) + 1 := by omega
          have ib2 : (0 : Int) < (k : Int) + 1 := by omega
          have ile : (i : Int) ≤ k := by omega
          have e1 : ((i : Int) - 1) * width ≤ k * width := Int.mul_le_mul_of_nonneg_right (by omega) (by omega)
          have e4 : 0 ≤ ((i : Int) - 1) * width := Int.mul_nonneg (by omega) (by omega)
          have hsub : IntKind.i64.wrap ((i : Int) - 1) = (i : Int) - 1 := IntWalk.i64_in _ (by omega)
          have hmuli : IntKind.i64.wrap (((i : Int) - 1) * width) = ((i : Int) - 1) * width := IntWalk.i64_in _ (by omega)
          have haddi : IntKind.i64.wrap ((i : Int) + 1) = (i : Int) + 1 := IntWalk.i64_in _ (by omega)
          obtain ⟨q0, q1, q2⟩ := hT2.outer
          obtain ⟨p0, p1, p2⟩ := hT2.inner i hi1 hle
          have D4 := C4 i hi1 hle
          have D5 := C5 i hi1 hle
          clear C4 C5 e1 e4
          go_wp2
          go_region_held3 (fun w' => w'.cell? ⟨q, 0, none⟩ = some (.int .i64 0) ∧ w'.cell? ⟨q, 1, none⟩ = some (.int .i64 0) ∧ w'.cell? ⟨q, 2, none⟩ = some (.int .i64 64) ∧ w'.cell? ⟨q, i * 3, none⟩ = some (.int .i64 0) ∧ w'.cell? ⟨q, i * 3 + 1, none⟩ = some (.int .i64 (((i : Int) - 1) * width)) ∧ w'.cell? ⟨q, i * 3 + 2, none⟩ = some (.int .i64 width))
            (go_keep)
            ((first
              | (go_at_call 9; refine (D4 _).mono ?_; clear D4; rintro e B1 ⟨rfl, hbA⟩; have q0a : B1.cell? ⟨q, 0, none⟩ = some (.int .i64 0) := cell_below hbA (by first | assumption | (simp [*]; done)); have q1a : B1.cell? ⟨q, 1, none⟩ = some (.int .i64 0) := cell_below hbA (by first | assumption | (simp [*]; done)); have q2a : B1.cell? ⟨q, 2, none⟩ = some (.int .i64 64) := cell_below hbA (by first | assumption | (simp [*]; done)); have p0a : B1.cell? ⟨q, i * 3, none⟩ = some (.int .i64 0) := cell_below hbA (by first | assumption | (simp [*]; done)); have p1a : B1.cell? ⟨q, i * 3 + 1, none⟩ = some (.int .i64 (((i : Int) - 1) * width)) := cell_below hbA (by first | assumption | (simp [*]; done)); have p2a : B1.cell? ⟨q, i * 3 + 2, none⟩ = some (.int .i64 width) := cell_below hbA (by first | assumption | (simp [*]; done)))
              | (go_at_call 10; refine (D5 _).mono ?_; clear D5; rintro e B2 ⟨rfl, hbB⟩; have q0b : B2.cell? ⟨q, 0, none⟩ = some (.int .i64 0) := cell_below hbB (by first | assumption | (simp [*]; done)); have q1b : B2.cell? ⟨q, 1, none⟩ = some (.int .i64 0) := cell_below hbB (by first | assumption | (simp [*]; done)); have q2b : B2.cell? ⟨q, 2, none⟩ = some (.int .i64 64) := cell_below hbB (by first | assumption | (simp [*]; done)); have p0b : B2.cell? ⟨q, i * 3, none⟩ = some (.int .i64 0) := cell_below hbB (by first | assumption | (simp [*]; done)); have p1b : B2.cell? ⟨q, i * 3 + 1, none⟩ = some (.int .i64 (((i : Int) - 1) * width)) := cell_below hbB (by first | assumption | (simp [*]; done)); have p2b : B2.cell? ⟨q, i * 3 + 2, none⟩ = some (.int .i64 width) := cell_below hbB (by first | assumption | (simp [*]; done)))))
          have hT3 : Told w k width q B2 := hT2.on ((((Below.refl _ _).drew).trans hbA).trans (hbB.mono (by have := hbA.size; simpa using this)))
          clear q0 q1 q2 p0 p1 p2 q0a q1a q2a p0a p1a p2a q0b q1b q2b p0b p1b p2b hbA hbB hT2
          go_wp2
          go_loopw [12] (fun j wr => ∃ j' : Nat, 1 ≤ j' ∧ j' ≤ i ∧ j = .int .i64 j' ∧ Told w k width q wr) (fun j _ => i - (intOf j).toNat)
          case atStart => exact ⟨1, Nat.le_refl _, by omega, rfl, hT3⟩
          case round =>
            obtain ⟨j, hj1, hj2, rfl, hT4⟩ := hrel
            clear hT3
            by_cases hjl : j < i
            · have jb0 : (0 : Int) ≤ j := by omega
              have jb1 : (j : Int) < (k : Int) + 1 := by omega
              have jlt : (j : Int) < (i : Int) := by omega
              have haddj : IntKind.i64.wrap ((j : Int) + 1) = (j : Int) + 1 := IntWalk.i64_in _ (by omega)
              obtain ⟨x0, x1, x2⟩ := hT4.inner i hi1 hle
              obtain ⟨y0, y1, y2⟩ := hT4.inner j hj1 (by omega)
              have D3 := C3 i j hi1 hle hj1 hjl
              clear C3
              go_wp2
              go_region_held3 (fun w' => w'.cell? ⟨q, i * 3, none⟩ = some (.int .i64 0) ∧ w'.cell? ⟨q, i * 3 + 1, none⟩ = some (.int .i64 (((i : Int) - 1) * width)) ∧ w'.cell? ⟨q, i * 3 + 2, none⟩ = some (.int .i64 width) ∧ w'.cell? ⟨q, j * 3, none⟩ = some (.int .i64 0) ∧ w'.cell? ⟨q, j * 3 + 1, none⟩ = some (.int .i64 (((j : Int) - 1) * width)) ∧ w'.cell? ⟨q, j * 3 + 2, none⟩ = some (.int .i64 width))
                (go_keep)
                ((go_at_call 9; refine (D3 _).mono ?_; clear D3; rintro e B3 ⟨rfl, hbC⟩; have x0c : B3.cell? ⟨q, i * 3, none⟩ = some (.int .i64 0) := cell_below hbC (by first | assumption | (simp [*]; done)); have x1c : B3.cell? ⟨q, i * 3 + 1, none⟩ = some (.int .i64 (((i : Int) - 1) * width)) := cell_below hbC (by first | assumption | (simp [*]; done)); have x2c : B3.cell? ⟨q, i * 3 + 2, none⟩ = some (.int .i64 width) := cell_below hbC (by first | assumption | (simp [*]; done)); have y0c : B3.cell? ⟨q, j * 3, none⟩ = some (.int .i64 0) := cell_below hbC (by first | assumption | (simp [*]; done)); have y1c : B3.cell? ⟨q, j * 3 + 1, none⟩ = some (.int .i64 (((j : Int) - 1) * width)) := cell_below hbC (by first | assumption | (simp [*]; done)); have y2c : B3.cell? ⟨q, j * 3 + 2, none⟩ = some (.int .i64 width) := cell_below hbC (by first | assumption | (simp [*]; done))))
              have hT5 : Told w k width q B3 := hT4.on (((Below.refl _ _).drew).trans hbC)
              clear x0 x1 x2 y0 y1 y2 x0c x1c x2c y0c y1c y2c hbC hT4
              go_wp2
              exact ⟨⟨j + 1, by omega, by omega, by go_num, hT5⟩, by simp [intOf]; omega⟩
            · have jlt : ¬ (j : Int) < (i : Int) := by omega
              go_wp2
              exact ⟨⟨i + 1, by omega, by omega, by go_num, hT4⟩, by simp [intOf]; omega⟩
        · have ile : ¬ (i : Int) ≤ k := by omega
          go_wp2
          go_ret
          exact ⟨rfl, hT2.below⟩
end Go.Proofs.YtpcdfficlheopaaGreatDoor
