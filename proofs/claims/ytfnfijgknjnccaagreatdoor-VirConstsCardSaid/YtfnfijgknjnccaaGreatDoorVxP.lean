/-
  law9's VirConsts.
-/
import Derived.Test.YtfnfijgknjnccaaGreatDoorVxO
namespace Go.Proofs.YtfnfijgknjnccaaGreatDoor
open Go.RowKit Go.Sort
set_option maxHeartbeats 4000000
set_option maxRecDepth 100000
/-- The law's function, when its parts lie where they are made. -/
def fnC (b : Nat) (d n : Int) : FnV := ⟨⟨#[102]⟩, none, 0, [], none, 0, [], ⟨#[103]⟩, some ⟨b + 1, 0, none⟩, 1, [⟨some ⟨b, 0, none⟩, 1, [yC d n]⟩]⟩
theorem fnC_ok (b : Nat) (d n : Int) (hd : 0 ≤ d ∧ d ≤ 99999) (hn : In64 n) : FnOk (fnC b d n) ∧ plainB (fnC b d n) = true ∧ textF (fnC b d n) = textOf (tC d n).lines :=
  ⟨fnOk_one nmF_ok nmG_ok (fun x hx => by cases hx) (fun x hx => by cases hx) (insOk_c d n hd hn) (by decide) (by decide), plain_one (by decide) (by decide) (fun x hx => by cases hx) (insB_c d n hd hn), textF_one rfl rfl rfl rfl rfl rfl (words_c d n hd hn) (by show wsC d n ≠ []; unfold wsC; simp)⟩
theorem virConsts_any (n d : Int) (hn : In64 n) {w : World} (hE : EnvF w) : Calls Tryz.prog 3 #[.int .i64 n, .int .i64 d] w fun e w' => e = .returned (.bool true) ∧ Below w.heap.size w w' := by
  have KA := alive9 hE
  by_cases hd : 0 ≤ d ∧ d ≤ 99999
  · obtain ⟨hd0, hd1⟩ := hd
    obtain ⟨ho, hp, ht⟩ := fnC_ok 0 d n ⟨hd0, hd1⟩ hn
    have htx := tC_ok d n ⟨hd0, hd1⟩ hn
    have hys := yS_c d n ⟨hd0, hd1⟩ hn
    -- behind the first call
    have hnext : Hid (∀ W1, Below w.heap.size w W1 → ∀ X, X = ((W1.alloc (.cells #[.int .i64 1, .int .i64 d, .int .i64 0, .int .i64 0, .int .i64 n, .string ⟨#[]⟩, .slice none 0 0, .int .i64 0, .int .i64 0] 25)).alloc (.cells #[.slice (some ⟨W1.heap.size, 0, none⟩) 1 1] 26)).alloc (.cells #[.string ⟨#[102]⟩, .slice none 0 0, .slice none 0 0, .string ⟨#[103]⟩, .slice (some ⟨W1.heap.size + 1, 0, none⟩) 1 1] 30) →
        Cells X (W1.heap.size + 1 + 1) 30 #[.string ⟨#[102]⟩, .slice none 0 0, .slice none 0 0, .string ⟨#[103]⟩, .slice (some ⟨W1.heap.size + 1, 0, none⟩) 1 1] ∧
        Calls Tryz.prog 8 #[.agg #[.string ⟨#[102]⟩, .slice none 0 0, .slice none 0 0, .string ⟨#[103]⟩, .slice (some ⟨W1.heap.size + 1, 0, none⟩) 1 1]] X (fun e w' => e = .returned (.string (txt (textOf (tC d n).lines))) ∧ Below X.heap.size X w') ∧
        ∀ W2, Below X.heap.size X W2 → Calls Tryz.prog 7 #[.string (txt (textOf (tC d n).lines))] W2 (fun e w' => Below W2.heap.size W2 w' ∧ ∃ g : FnV, e = .returned (.tuple #[.agg g.cells, .int .i64 0, .int .i64 0]) ∧ FnIs g (tC d n) ∧ FnAt w' g) ∧
        ∀ W3 (g : FnV), Below W2.heap.size W2 W3 → FnIs g (tC d n) → FnAt W3 g →
        (Below w.heap.size w (W3.alloc (.cells g.cells 30)) ∧ Cells (W3.alloc (.cells g.cells 30)) (W1.heap.size + 1 + 1) 30 #[.string ⟨#[102]⟩, .slice none 0 0, .slice none 0 0, .string ⟨#[103]⟩, .slice (some ⟨W1.heap.size + 1, 0, none⟩) 1 1] ∧ Cells (W3.alloc (.cells g.cells 30)) W3.heap.size 30 g.cells ∧
          Calls Tryz.prog 10 #[.agg #[.string ⟨#[102]⟩, .slice none 0 0, .slice none 0 0, .string ⟨#[103]⟩, .slice (some ⟨W1.heap.size + 1, 0, none⟩) 1 1], .agg g.cells] (W3.alloc (.cells g.cells 30)) fun e w' => e = .returned (.bool true) ∧ Below (W3.alloc (.cells g.cells 30)).heap.size (W3.alloc (.cells g.cells 30)) w')) := Lib.hid fun W1 hb1 X hX => by
      obtain ⟨hz, hB, x0, x1, x2⟩ := cells_3v W1 #[.int .i64 1, .int .i64 d, .int .i64 0, .int .i64 0, .int .i64 n, .string ⟨#[]⟩, .slice none 0 0, .int .i64 0, .int .i64 0] #[.slice (some ⟨W1.heap.size, 0, none⟩) 1 1] #[.string ⟨#[102]⟩, .slice none 0 0, .slice none 0 0, .string ⟨#[103]⟩, .slice (some ⟨W1.heap.size + 1, 0, none⟩) 1 1] 25 26 30
      rw [← hX] at hz hB x0 x1 x2
      clear hX
      have hf : FnAt X (fnC W1.heap.size d n) := fnAt_one (fun j x hx => by cases hx) (fun j x hx => by cases hx) x0 x1 ⟨fun j x hx => (by cases hx), rfl⟩
      obtain ⟨ho, hp, ht⟩ := fnC_ok W1.heap.size d n ⟨hd0, hd1⟩ hn
      have hEX := hE.below (hb1.trans (hB.mono hb1.size))
      have K := print_any _ hEX hf ho hp (by rw [ht]; have := htx.lines.2; omega)
      rw [ht] at K
      refine ⟨x2, K, fun W2 hb2 => ?_⟩
      refine ⟨read_any htx (hEX.below hb2), fun W3 g hb3 hg hgf => ?_⟩
      have hBA := belowN (w := W3) (o := .cells g.cells 30)
      have h23 := hb2.trans (hb3.mono hb2.size)
      have h24 := h23.trans (hBA.mono h23.size)
      have hb4 := hb1.trans ((hB.trans (h24.mono hB.size)).mono hb1.size)
      have KS := sameFunc (sameF_of (f := fnC W1.heap.size d n) hg rfl rfl rfl rfl rfl rfl hys) (hf.below h24) (hgf.below hBA) (by show 0 ≤ 100000; omega) (by show 0 ≤ 100000; omega) (by show 1 ≤ 100000; omega) (fun b hm => by
        have hm := List.mem_singleton.1 hm
        subst hm
        refine ⟨by show 1 ≤ 100000; omega, fun y hy => ?_⟩
        have hy := List.mem_singleton.1 hy
        subst hy
        show 0 ≤ 100000
        omega)
      exact ⟨hb4, x2.below h24 (by omega), Cells.new W3 _ _, KS⟩
    clear hE ho hp ht htx hys hn
    generalize txt (textOf (tC d n).lines) = s at *
    go_enter Tryz.func3, Tryz.ntmps3
    go_wp2_with (first
      | (go_at_call 6; refine KA.mono ?_; clear KA; rintro e W1 ⟨rfl, hb1⟩; obtain ⟨x2, K2, hn2⟩ := hnext.out W1 hb1 _ rfl; clear hnext; replace hn2 := Lib.hid hn2; have p0 := x2.cell (j := 0) rfl; have p1 := x2.cell (j := 1) rfl; have p2 := x2.cell (j := 2) rfl; have p3 := x2.cell (j := 3) rfl; have p4 := x2.cell (j := 4) rfl)
      | (go_at_call 8; refine K2.mono ?_; clear K2; rintro e W2 ⟨rfl, hb2⟩; obtain ⟨K3, hn3⟩ := hn2.out W2 hb2; clear hn2; replace hn3 := Lib.hid hn3)
      | (go_at_call 7; refine K3.mono ?_; clear K3; rintro e W3 ⟨hb3, g, rfl, hg, hf⟩; obtain ⟨hB4, m3, mg, K4⟩ := hn3.out W3 g hb3 hg hf; clear hn3 hg hf; obtain ⟨gn, gva, gvc, gvr, gpa, gpc, gps, gres, gba, gbc, gbl⟩ := g; unfold FnV.cells at *; dsimp only at *; have u0 := m3.cell (j := 0) rfl; have u1 := m3.cell (j := 1) rfl; have u2 := m3.cell (j := 2) rfl; have u3 := m3.cell (j := 3) rfl; have u4 := m3.cell (j := 4) rfl; have v0 := mg.cell (j := 0) rfl; have v1 := mg.cell (j := 1) rfl; have v2 := mg.cell (j := 2) rfl; have v3 := mg.cell (j := 3) rfl; have v4 := mg.cell (j := 4) rfl)
      | (go_at_call 9; refine (lawNum0 _).mono ?_; rintro e W4 ⟨rfl, rfl⟩)
      | (go_at_call 10; refine K4.mono ?_; clear K4; rintro e W5 ⟨rfl, hb5⟩))
    go_ret
    exact ⟨rfl, hB4.trans (hb5.mono hB4.size)⟩
  · clear hE hn
    by_cases h0 : d < 0
    · go_enter Tryz.func3, Tryz.ntmps3
      go_wp2_with (go_at_call 6; refine KA.mono ?_; clear KA; rintro e W1 ⟨rfl, hb1⟩)
      go_ret
      exact ⟨rfl, hb1⟩
    · have h1 : d > 99999 := by omega
      go_enter Tryz.func3, Tryz.ntmps3
      go_wp2_with (go_at_call 6; refine KA.mono ?_; clear KA; rintro e W1 ⟨rfl, hb1⟩)
      go_ret
      exact ⟨rfl, hb1⟩
end Go.Proofs.YtfnfijgknjnccaaGreatDoor
