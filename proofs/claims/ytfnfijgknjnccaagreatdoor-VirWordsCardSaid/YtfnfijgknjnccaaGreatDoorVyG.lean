/-
  law9's VirWords, where the choice is one of its eleven.
-/
import Derived.Test.YtfnfijgknjnccaaGreatDoorVyD
namespace Go.Proofs.YtfnfijgknjnccaaGreatDoor
open Go.RowKit Go.Sort
set_option maxHeartbeats 4000000
set_option maxRecDepth 100000
theorem virWords_zero (k d b : Nat) (hk : k < 11) (hd : d ≤ 99999) (hb : b ≤ 99999) {w : World} (hE : EnvF w) : Calls Tryz.prog 5 #[.int .i64 k, .int .i64 d, .int .i64 0, .int .i64 b] w fun e w' => e = .returned (.bool true) ∧ Below w.heap.size w w' := by
  have KA := alive9 hE
  have k0 : (0 : Int) ≤ k := Int.natCast_nonneg _
  have d0 : (0 : Int) ≤ d := Int.natCast_nonneg _
  have b0 : (0 : Int) ≤ b := Int.natCast_nonneg _
  have sd : (wordN d).size ≤ 21 := wordN_size _ (by omega) (by omega)
  have sb : (wordN b).size ≤ 21 := wordN_size _ (by omega) (by omega)
  have Kd := fun W => num10_any d hd W
  have Kb := fun W => num10_any b hb W
  have hpick : Hid (∀ W1, Below w.heap.size w W1 → _) := Lib.hid fun W1 hb1 => pick_w word_nil.symm hk hd (Nat.zero_le 99999) hb hE hb1

  have sa : (wordN ((0 : Nat) : Int)).size ≤ 21 := wordN_size _ (by omega) (by omega)
  have Ka := fun W => num10_any 0 (Nat.zero_le 99999) W
  clear hE
  generalize wordN (d : Int) = qd at *
  generalize wordN ((0 : Nat) : Int) = qa at *
  generalize wordN (b : Int) = qb at *
  go_enter Tryz.func5, Tryz.ntmps5
  go_upto_region 14 with (first
    | (go_at_call 6; refine KA.mono ?_; clear KA; rintro e W1 ⟨rfl, hb1⟩)
    | (go_at_call 12; first | (refine (Kd _).mono ?_; clear Kd; rintro e w2 ⟨rfl, rfl⟩) | (refine (Ka _).mono ?_; clear Ka; rintro e w2 ⟨rfl, rfl⟩) | (refine (Kb _).mono ?_; clear Kb; rintro e w2 ⟨rfl, rfl⟩)))
  generalize hX : ((((W1.alloc _).alloc _).alloc _).alloc _).alloc _ = X
  obtain ⟨y, s, hs, hsz, hc, hw, hR⟩ := hpick.out W1 hb1
  clear hpick
  have hX' : worldW W1 ⟨#[48]⟩ qd qa qb d ((0 : Nat) : Int) b = X := by rw [← hX]; rfl
  rw [hX'] at hsz hc hw hR
  clear hX hX'
  obtain ⟨⟨yk, yd, ya, yb, yn, ynm, ysa, ysn, ysc, yt, yf⟩, yl⟩ := y
  have c0 : X.cell? ⟨W1.heap.size + 1 + 1 + 1, k * 9, none⟩ = some (.int .i64 yk) := hc 0 _ rfl
  have c1 := hc 1 (.int .i64 yd) rfl
  have c2 := hc 2 (.int .i64 ya) rfl
  have c3 := hc 3 (.int .i64 yb) rfl
  have c4 := hc 4 (.int .i64 yn) rfl
  have c5 := hc 5 (.string ynm) rfl
  have c6 := hc 6 (.slice ysa ysn ysc) rfl
  have c7 := hc 7 (.int .i64 yt) rfl
  have c8 := hc 8 (.int .i64 yf) rfl
  clear hc
  unfold RestW worldF fnCells at hR
  rw [hsz] at hR
  obtain ⟨r1, r2⟩ := hR
  unfold InsV.cells at *
  dsimp only at *
  have p0 := r1.cell (j := 0) rfl
  have p1 := r1.cell (j := 1) rfl
  have p2 := r1.cell (j := 2) rfl
  have p3 := r1.cell (j := 3) rfl
  have p4 := r1.cell (j := 4) rfl
  unfold preW postW at r2
  replace r1 := Lib.hid r1
  go_wp2_with (first
    | (go_at_call 7; refine r2.mono ?_; clear r2; rintro e W3 ⟨g, rfl, m3, r3⟩; obtain ⟨gn, gva, gvc, gvr, gpa, gpc, gps, gres, gba, gbc, gbl⟩ := g; unfold FnV.cells at *; dsimp only at *; have o0 := m3.cell (j := 0) rfl; have o1 := m3.cell (j := 1) rfl; have o2 := m3.cell (j := 2) rfl; have o3 := m3.cell (j := 3) rfl; have o4 := m3.cell (j := 4) rfl)
    | (go_at_call 8; refine r3.mono ?_; clear r3; rintro e W4 ⟨rfl, hB4, n3, ng, r4⟩; have u0 := n3.cell (j := 0) rfl; have u1 := n3.cell (j := 1) rfl; have u2 := n3.cell (j := 2) rfl; have u3 := n3.cell (j := 3) rfl; have u4 := n3.cell (j := 4) rfl; have v0 := ng.cell (j := 0) rfl; have v1 := ng.cell (j := 1) rfl; have v2 := ng.cell (j := 2) rfl; have v3 := ng.cell (j := 3) rfl; have v4 := ng.cell (j := 4) rfl)
    | (go_at_call 9; refine (lawNum0 _).mono ?_; rintro e W5 ⟨rfl, rfl⟩)
    | (go_at_call 10; refine r4.mono ?_; clear r4; rintro e W6 ⟨rfl, hb6⟩))
  go_ret
  exact ⟨rfl, hB4.trans (hb6.mono hB4.size)⟩
end Go.Proofs.YtfnfijgknjnccaaGreatDoor
