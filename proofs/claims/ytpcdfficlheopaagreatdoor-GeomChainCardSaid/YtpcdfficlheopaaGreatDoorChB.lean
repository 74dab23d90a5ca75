/-
  GeomChain where the slice holds one to five numbers: it answers true.
-/
import Derived.Test.YtpcdfficlheopaaGreatDoorChA
import Derived.Deep.RegionHeld
namespace Go.Proofs.YtpcdfficlheopaaGreatDoor
open Go.RowKit Go.Shelf

/-- At the head of the loop that makes the registers: those from the k-th number on are made. -/
structure Chained (w : World) (O : Nat) (k : Nat) (d : List Int) (sv : Value) (wr : World) : Prop where
  reg : Cells wr O 26 #[.string (nmOf k d), .int .i64 (wdOf d), .int .i64 0, sv]
  chain : ChainAt wr (O + 1) k d sv
  below : Below w.heap.size w wr
  small : Small10 d
def ChainedAt (w : World) (O : Nat) (k : Nat) (d : List Int) (wr : World) : Prop := ∃ sv, Chained w O k d sv wr

theorem chained_step {w W5 : World} {O m : Nat} {d : List Int} {a : Int} {sv : Value} (hR5 : Cells W5 O 26 #[.string (nmOf (m + 1) d), .int .i64 (wdOf d), .int .i64 a, sv]) (hC5 : ChainAt W5 (O + 1) (m + 1) d sv)
    (hB5 : Below w.heap.size w W5) (hS : Small10 d) (ha1 : 0 ≤ a) (ha2 : a ≤ 10) (hO : w.heap.size ≤ O) :
    ChainedAt w O m (a :: d) (((((W5.alloc (.cells #[.string (nmOf (m + 1) d), .int .i64 (wdOf d), .int .i64 a, sv] 26)).setCell ⟨O, 0, none⟩ (.string (xname m))).setCell ⟨O, 1, none⟩ (.int .i64 (wdOf d + a + 1))).setCell ⟨O, 2, none⟩ (.int .i64 0)).setCell ⟨O, 3, none⟩ (.slice (some ⟨W5.heap.size, 0, none⟩) 1 1)).drew := by
  have hlt := hR5.lt
  have hne : W5.heap.size ≠ O := by omega
  have hN := ((((Cells.new W5 26 #[.string (nmOf (m + 1) d), .int .i64 (wdOf d), .int .i64 a, sv]).other hne (j := 0) (.string (xname m))).other hne (j := 1) (.int .i64 (wdOf d + a + 1))).other hne (j := 2) (.int .i64 0)).other hne (j := 3) (.slice (some ⟨W5.heap.size, 0, none⟩) 1 1)
  have hA := (((((hR5.alloc (.cells #[.string (nmOf (m + 1) d), .int .i64 (wdOf d), .int .i64 a, sv] 26)).set (j := 0) (.string (xname m))).set (j := 1) (.int .i64 (wdOf d + a + 1))).set (j := 2) (.int .i64 0)).set (j := 3) (.slice (some ⟨W5.heap.size, 0, none⟩) 1 1))
  have hB := ((((hB5.alloc hB5.size (.cells #[.string (nmOf (m + 1) d), .int .i64 (wdOf d), .int .i64 a, sv] 26)).setCell (p := ⟨O, 0, none⟩) hO (.string (xname m))).setCell (p := ⟨O, 1, none⟩) hO (.int .i64 (wdOf d + a + 1))).setCell (p := ⟨O, 2, none⟩) hO (.int .i64 0)).setCell (p := ⟨O, 3, none⟩) hO (.slice (some ⟨W5.heap.size, 0, none⟩) 1 1)
  have hk : ∀ b' j v, O + 1 ≤ b' → W5.cell? ⟨b', j, none⟩ = some v → (((((W5.alloc (.cells #[.string (nmOf (m + 1) d), .int .i64 (wdOf d), .int .i64 a, sv] 26)).setCell ⟨O, 0, none⟩ (.string (xname m))).setCell ⟨O, 1, none⟩ (.int .i64 (wdOf d + a + 1))).setCell ⟨O, 2, none⟩ (.int .i64 0)).setCell ⟨O, 3, none⟩ (.slice (some ⟨W5.heap.size, 0, none⟩) 1 1)).cell? ⟨b', j, none⟩ = some v := fun b' j v hlo hv => by
    have hne' : O ≠ b' := by omega
    rw [World.cell?_setCell_far _ _ _ _ hne', World.cell?_setCell_far _ _ _ _ hne', World.cell?_setCell_far _ _ _ _ hne', World.cell?_setCell_far _ _ _ _ hne']
    exact cell_alloc _ hv
  have hsz : (((((W5.alloc (.cells #[.string (nmOf (m + 1) d), .int .i64 (wdOf d), .int .i64 a, sv] 26)).setCell ⟨O, 0, none⟩ (.string (xname m))).setCell ⟨O, 1, none⟩ (.int .i64 (wdOf d + a + 1))).setCell ⟨O, 2, none⟩ (.int .i64 0)).setCell ⟨O, 3, none⟩ (.slice (some ⟨W5.heap.size, 0, none⟩) 1 1)).heap.size = W5.heap.size + 1 := by simp
  generalize (((((W5.alloc (.cells #[.string (nmOf (m + 1) d), .int .i64 (wdOf d), .int .i64 a, sv] 26)).setCell ⟨O, 0, none⟩ (.string (xname m))).setCell ⟨O, 1, none⟩ (.int .i64 (wdOf d + a + 1))).setCell ⟨O, 2, none⟩ (.int .i64 0)).setCell ⟨O, 3, none⟩ (.slice (some ⟨W5.heap.size, 0, none⟩) 1 1)) = U at hN hA hB hk hsz ⊢
  refine ⟨.slice (some ⟨W5.heap.size, 0, none⟩) 1 1, hA, ?_, hB.drew, fun x hx => ?_⟩
  · refine ⟨W5.heap.size, sv, rfl, hlt, by show W5.heap.size < U.heap.size; omega, ?_, ChainAt.keep (W' := U.drew) (by show W5.heap.size ≤ U.heap.size; omega) hk hC5⟩
    exact ⟨hN.cell rfl, hN.cell rfl, hN.cell rfl, hN.cell rfl⟩
  · rcases List.mem_cons.1 hx with rfl | hx
    · exact ⟨ha1, ha2⟩
    · exact hS x hx

theorem wd_sum : ∀ d : List Int, wdOf d = sumOf d + d.length + 1
  | [] => rfl
  | a :: r => by simp only [wdOf, sumOf, List.length_cons, wd_sum r]; omega

set_option maxRecDepth 100000 in
set_option maxHeartbeats 4000000 in
theorem chain_in (b o cap : Nat) (atl : List Int) (w : World) (hE : Env w) (h1 : 1 ≤ atl.length) (h2 : atl.length ≤ 5) (hat : ∀ j a, atl[j]? = some a → w.cell? ⟨b, o + j, none⟩ = some (.int .i64 a)) :
    Calls Tryz.prog 5 #[.slice (some ⟨b, o, none⟩) atl.length cap] w fun e w' => e = .returned (.bool true) ∧ Below w.heap.size w w' := by
  have C1 := alive_yes w hE
  have i1 : ¬ (atl.length : Int) < 1 := by omega
  have i2 : ¬ (5 : Int) < atl.length := by omega
  have hsub : IntKind.i64.wrap ((atl.length : Int) - 1) = (atl.length : Int) - 1 := IntWalk.i64_in _ (by omega)
  have haddl : IntKind.i64.wrap ((atl.length : Int) + 1) = (atl.length : Int) + 1 := IntWalk.i64_in _ (by omega)
  go_enter Tryz.func5, Tryz.ntmps5
  go_wp2_with (go_at_call 6; refine C1.mono ?_; clear C1; rintro e W1 ⟨rfl, hb1⟩)
  have hR0 := Cells.new W1 26 #[.string x5, .int .i64 1, .int .i64 0, .slice none 0 0]
  have hB2 : Below w.heap.size w (W1.alloc (.cells #[.string x5, .int .i64 1, .int .i64 0, .slice none 0 0] 26)) := hb1.alloc hb1.size _
  have hO := hb1.size
  clear hb1
  go_loopw [4, 6] (fun s i wr => ∃ (k : Nat) (z : Int), k ≤ atl.length ∧ i = .int .i64 z ∧ z = (k : Int) - 1 ∧ s = .int .i64 (sumOf (atl.drop k)) ∧ ChainedAt w W1.heap.size k (atl.drop k) wr) (fun _ i _ => (intOf i + 1).toNat)
  case atStart => exact ⟨atl.length, _, Nat.le_refl _, rfl, rfl, by rw [List.drop_length]; rfl, .slice none 0 0, by rw [List.drop_length]; exact ⟨hR0, rfl, hB2, fun a h => by cases h⟩⟩
  case round =>
    clear hR0 hB2
    obtain ⟨k, z, hk, rfl, hz, rfl, sv, hI⟩ := hrel
    cases k with
    | zero =>
      obtain rfl : z = -1 := by omega
      clear hz hat
      rw [List.drop_zero] at hI ⊢
      have hSm := hI.small
      have hwb := wdOf_bounds hSm
      have hsb := sumOf_bounds hSm
      have hws := wd_sum atl
      have r0 := hI.reg.cell (j := 0) (v := .string (nmOf 0 atl)) rfl
      have r1 := hI.reg.cell (j := 1) (v := .int .i64 (wdOf atl)) rfl
      have r2 := hI.reg.cell (j := 2) (v := .int .i64 0) rfl
      have r3 := hI.reg.cell (j := 3) (v := sv) rfl
      have hBn := hI.below.alloc hI.below.size (.cells #[.string (nmOf 0 atl), .int .i64 (wdOf atl), .int .i64 0, sv] 26)
      have hC2 := (chain_places atl (wr.alloc (.cells #[.string (nmOf 0 atl), .int .i64 (wdOf atl), .int .i64 0, sv] 26)) (hE.below hBn) wr.heap.size (W1.heap.size + 1) sv h2 hSm (Cells.new wr _ _) (hI.chain.keep (by simp) (fun b' j v _ hv => cell_alloc _ hv))).mono
        (R' := fun e W' => ∃ nV q qc, e = .returned (.tuple #[nV, .slice (some ⟨q, 0, none⟩) (atl.length + 1) qc, .int .i64 0]) ∧
          (W'.cell? ⟨q, 0, none⟩ = some (.int .i64 0) ∧ W'.cell? ⟨q, 1, none⟩ = some (.int .i64 0) ∧ W'.cell? ⟨q, 2, none⟩ = some (.int .i64 (wdOf atl))) ∧
          (W'.cell? ⟨q, atl.length * 3, none⟩ = some (.int .i64 0) ∧ W'.cell? ⟨q, atl.length * 3 + 1, none⟩ = some (.int .i64 (sumOf atl)) ∧ W'.cell? ⟨q, atl.length * 3 + 2, none⟩ = some (.int .i64 1)) ∧ Below w.heap.size w W')
        (fun e W' ⟨nV, q, qc, he, hc, hq, hb⟩ => ⟨nV, q, qc, he, hc, hq, hBn.trans (hb.mono hBn.size)⟩)
      have l0 : (0 : Int) ≤ (atl.length : Int) := by omega
      have l1 : (atl.length : Int) < (atl.length : Int) + 1 := by omega
      have l2 : (0 : Int) < (atl.length : Int) + 1 := by omega
      have C5 := fun W => Within_yes 0 (sumOf atl) 1 0 (wdOf atl) W (by omega) (by omega) (by omega) (by omega) (by omega) (by omega) (by omega) (by omega) (by omega) (by omega)
      clear hI hE hBn hws hwb hsb hSm hO
      go_wp2_with (first
        | (go_at_call 7; refine hC2.mono ?_; clear hC2 r0 r1 r2 r3; rintro e W2 ⟨nV, q, qc, rfl, ⟨p0, p1, p2⟩, ⟨q0, q1, q2⟩, hb2⟩)
        | (go_at_call 8; refine (num_any _ _).mono ?_; rintro e W3 ⟨rfl, rfl⟩))
      have hL := Cells.new W2 34 #[.int .i64 0, .int .i64 (sumOf atl), .int .i64 1]
      have x0 := hL.cell (j := 0) (v := .int .i64 0) rfl
      have x1 := hL.cell (j := 1) (v := .int .i64 (sumOf atl)) rfl
      have x2 := hL.cell (j := 2) (v := .int .i64 1) rfl
      have y0 := cell_alloc (.cells #[.int .i64 0, .int .i64 (sumOf atl), .int .i64 1] 34) p0
      have y1 := cell_alloc (.cells #[.int .i64 0, .int .i64 (sumOf atl), .int .i64 1] 34) p1
      have y2 := cell_alloc (.cells #[.int .i64 0, .int .i64 (sumOf atl), .int .i64 1] 34) p2
      have hb3 := hb2.alloc hb2.size (.cells #[.int .i64 0, .int .i64 (sumOf atl), .int .i64 1] 34)
      clear hL p0 p1 p2 q0 q1 q2 hb2
      generalize W2.alloc (.cells #[.int .i64 0, .int .i64 (sumOf atl), .int .i64 1] 34) = W4 at x0 x1 x2 y0 y1 y2 hb3 ⊢
      go_region_held3 (fun w' => w'.cell? ⟨W2.heap.size, 0, none⟩ = some (.int .i64 0) ∧ w'.cell? ⟨W2.heap.size, 1, none⟩ = some (.int .i64 (sumOf atl)) ∧ w'.cell? ⟨W2.heap.size, 2, none⟩ = some (.int .i64 1) ∧ w'.cell? ⟨q, 0, none⟩ = some (.int .i64 0) ∧ w'.cell? ⟨q, 1, none⟩ = some (.int .i64 0) ∧ w'.cell? ⟨q, 2, none⟩ = some (.int .i64 (wdOf atl)))
        (go_keep)
        ((go_at_call 10; refine (C5 _).mono ?_; clear C5; rintro e B3 ⟨rfl, hbC⟩; have x0c : B3.cell? ⟨W2.heap.size, 0, none⟩ = some (.int .i64 0) := cell_below hbC (by first | assumption | (simp [*]; done)); have x1c : B3.cell? ⟨W2.heap.size, 1, none⟩ = some (.int .i64 (sumOf atl)) := cell_below hbC (by first | assumption | (simp [*]; done)); have x2c : B3.cell? ⟨W2.heap.size, 2, none⟩ = some (.int .i64 1) := cell_below hbC (by first | assumption | (simp [*]; done)); have y0c : B3.cell? ⟨q, 0, none⟩ = some (.int .i64 0) := cell_below hbC (by first | assumption | (simp [*]; done)); have y1c : B3.cell? ⟨q, 1, none⟩ = some (.int .i64 0) := cell_below hbC (by first | assumption | (simp [*]; done)); have y2c : B3.cell? ⟨q, 2, none⟩ = some (.int .i64 (wdOf atl)) := cell_below hbC (by first | assumption | (simp [*]; done))))
      go_wp2
      go_ret
      exact ⟨rfl, hb3.trans ((((Below.refl _ _).drew).trans hbC).mono hb3.size)⟩
    | succ m =>
      obtain rfl : z = (m : Int) := by omega
      have hm : m < atl.length := by omega
      have hd : atl.drop m = atl[m] :: atl.drop (m + 1) := List.drop_eq_getElem_cons hm
      have hc := cell_below hI.below (hat m atl[m] (List.getElem?_eq_getElem hm))
      generalize atl[m] = a at hd hc
      clear hz
      have hd := Lib.hid hd
      have hat := Lib.hid hat
      have m0 : (0 : Int) ≤ (m : Int) := Int.natCast_nonneg _
      have m1 : (m : Int) < (atl.length : Int) := by omega
      by_cases ha1 : a < 0
      · go_wp2
        go_ret
        exact ⟨rfl, hI.below⟩
      by_cases ha2 : 10 < a
      · go_wp2
        go_ret
        exact ⟨rfl, hI.below⟩
      generalize atl.drop (m + 1) = d at hd hI
      have hsb := sumOf_bounds hI.small
      have hwb := wdOf_bounds hI.small
      have hlen : d.length ≤ 5 := by have := congrArg List.length hd.out; simp at this; omega
      have hs1 : IntKind.i64.wrap (sumOf d + a) = sumOf d + a := IntWalk.i64_in _ (by omega)
      have hw1 : IntKind.i64.wrap (wdOf d + a) = wdOf d + a := IntWalk.i64_in _ (by omega)
      have hw2 : IntKind.i64.wrap (wdOf d + a + 1) = wdOf d + a + 1 := IntWalk.i64_in _ (by omega)
      have hm1 : IntKind.i64.wrap ((m : Int) + 1) = (m : Int) + 1 := IntWalk.i64_in _ (by omega)
      have hm2 : IntKind.i64.wrap ((m : Int) - 1) = (m : Int) - 1 := IntWalk.i64_in _ (by omega)
      obtain ⟨sa, sn, sc, rfl⟩ := hI.chain.form
      have ha1' : 0 ≤ a := by omega
      have ha2' : a ≤ 10 := by omega
      have f2 := hI.reg.frozen 2
      have c2 := hI.reg.cell (j := 2) (v := .int .i64 0) rfl
      have hbw := World.block_lt_of_cell? _ _ (hat.out m a (by have := congrArg (·[0]?) hd.out; simpa using this))
      have hne : b ≠ W1.heap.size := by simp only at hbw; omega
      have hc5 : (wr.setCell ⟨W1.heap.size, 2, none⟩ (.int .i64 a)).cell? ⟨b, o + m, none⟩ = some (.int .i64 a) := (World.cell?_setCell_far _ _ _ _ (fun e => hne e.symm)).trans hc
      have hR5 : Cells (wr.setCell ⟨W1.heap.size, 2, none⟩ (.int .i64 a)) W1.heap.size 26 #[.string (nmOf (m + 1) d), .int .i64 (wdOf d), .int .i64 a, .slice sa sn sc] := hI.reg.set (j := 2) (.int .i64 a)
      have hC5 : ChainAt (wr.setCell ⟨W1.heap.size, 2, none⟩ (.int .i64 a)) (W1.heap.size + 1) (m + 1) d (.slice sa sn sc) := hI.chain.keep (by rw [World.size_setCell]; exact Nat.le_refl _) (fun b' j v hlo hv => (World.cell?_setCell_far _ _ _ _ (by simp; omega)).trans hv)
      have hB5 : Below w.heap.size w (wr.setCell ⟨W1.heap.size, 2, none⟩ (.int .i64 a)) := hI.below.setCell (p := ⟨W1.heap.size, 2, none⟩) hO _
      have hS5 := hI.small
      clear hI
      go_wp2
      generalize wr.setCell ⟨W1.heap.size, 2, none⟩ (.int .i64 a) = W5 at hc5 hR5 hC5 hB5 ⊢
      clear f2 c2 hc
      have e0 := hR5.cell (j := 0) (v := .string (nmOf (m + 1) d)) rfl
      have e1 := hR5.cell (j := 1) (v := .int .i64 (wdOf d)) rfl
      have e2 := hR5.cell (j := 2) (v := .int .i64 a) rfl
      have e3 := hR5.cell (j := 3) (v := .slice sa sn sc) rfl
      have f0 := hR5.frozen 0
      have f1 := hR5.frozen 1
      have f2 := hR5.frozen 2
      have f3 := hR5.frozen 3
      have k2 : (m : Int) + 1 ≤ 5 := by omega
      have kA : (0 : Int) ≤ (m : Int) + 1 := by omega
      have kB : (m : Int) ≤ (m : Int) + 1 := by omega
      have kC : ((m : Int) + 1).toNat = m + 1 := by omega
      have hcat : ¬ 9223372036854775807 < 1 + (min (m + 1) 5 - m) := by omega
      have hC5 := Lib.hid hC5
      have hS5 := Lib.hid hS5
      have g0 := fun obj => cell_alloc obj e0
      have g1 := fun obj => cell_alloc obj e1
      have g2 := fun obj => cell_alloc obj e2
      have g3 := fun obj => cell_alloc obj e3
      have g5 := fun obj => cell_alloc obj hc5
      have ff := fun obj j => (hR5.alloc obj).frozen j
      clear hlen hsb hwb
      go_region
      have hst := chained_step hR5 hC5.out hB5 hS5.out ha1' ha2' hO
      clear hR5 hC5 hB5 hS5 e0 e1 e2 e3 f0 f1 f2 f3 g0 g1 g2 g3 g5 ff hc5 hcat
      go_wp2
      exact ⟨⟨m, (m : Int) - 1, by omega, by go_num, rfl, by rw [hd.out]; rfl, by rw [hd.out]; exact hst⟩, by simp [intOf]⟩

set_option maxHeartbeats 1000000 in
theorem chain_out (a : Option Addr) (n cap : Nat) (w : World) (hE : Env w) (h : (n : Int) < 1 ∨ (¬ (n : Int) < 1 ∧ (5 : Int) < n)) :
    Calls Tryz.prog 5 #[.slice a n cap] w fun e w' => e = .returned (.bool true) ∧ Below w.heap.size w w' := by
  have C1 := alive_yes w hE
  rcases h with h | ⟨h', h⟩
  all_goals
    go_enter Tryz.func5, Tryz.ntmps5
    go_wp2_with (go_at_call 6; refine C1.mono ?_; clear C1; rintro e W1 ⟨rfl, hb1⟩)
    go_ret
    exact ⟨rfl, hb1⟩
end Go.Proofs.YtpcdfficlheopaaGreatDoor
