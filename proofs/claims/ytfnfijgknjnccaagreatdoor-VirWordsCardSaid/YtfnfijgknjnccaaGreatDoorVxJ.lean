/-
  vir's reader: a line behind the first four, whichever.
-/
import Derived.Test.YtfnfijgknjnccaaGreatDoorVxI
namespace Go.Proofs.YtfnfijgknjnccaaGreatDoor
open Go.RowKit Go.Sort
theorem LineP.after {R base : Nat} {r : RdV} {w W w' : World} (hb : Below w.heap.size w W) (h : LineP R base r W w') : LineP R base r w w' :=
  ⟨h.rd, (Stays.of_below hb).trans h.st, (KeepsOthers.of_below' hb).trans h.ko, fun B h1 h2 h3 => (hb.mono h3).trans (h.low B h1 h2 (Nat.le_trans h3 hb.size))⟩
set_option maxHeartbeats 8000000
set_option maxRecDepth 100000
/-- The body's line of an instruction. -/
theorem body_ins {R base : Nat} {r : RdV} {l : List InsX} {ws : List ByteArray} {j : Nat} {f : FormV} {w : World} (hE : EnvF w) (h : RdAt R base r w) (hbase : base ≤ w.heap.size) (hbs : r.bs = some l) (hl4 : l.length < 400) (hws : WsOk ws j f) (h0 : ws ≠ []) (hnb : ∀ x, x ∈ ws → NoB 32 x) (hlen : (joinSp ws).length ≤ 65000) :
    Calls Tryz.prog 36 #[.pointer (some ⟨R, 0, none⟩), .string (txt (32 :: 32 :: joinSp ws))] w fun e w' => e = .returned (.int .i64 0) ∧ LineP R base { r with bs := some (l ++ [yS ws f]) } w w' := by
  have K1 := prefix_any (32 :: 32 :: joinSp ws) w
  rw [(prefix_ins (joinSp ws)).1, (prefix_ins (joinSp ws)).2] at K1
  have K2 := split_words hE.env h0 hnb (by omega)
  have hB : Below w.heap.size w (w.alloc (.cells (ws.map Value.string).toArray 9)) := belowN
  have K3 := reader_ins (hE.below hB) (h.below hB) (Nat.le_trans hbase hB.size) hbs hl4 hws (strs_of_cells (Cells.new w 9 (ws.map Value.string).toArray)) (by simp) (Nat.le_refl _)
  have hfin : Hid (∀ W r', LineP R base r' (w.alloc (.cells (ws.map Value.string).toArray 9)) W → LineP R base r' w W) := Lib.hid fun W r' h => h.after hB
  obtain ⟨va, vc, pa, pc, bv, r1, r2, r3, r4⟩ := h
  rw [hbs] at r4
  obtain ⟨g, gc, ia, ic, l', hl', rfl, q1, q2, q3⟩ := r4
  have c4 := r1.cell (j := 4) (v := .slice (some ⟨g, 0, none⟩) 1 gc) rfl
  generalize { r with bs := some (l ++ [yS ws f]) } = r' at *
  generalize txt (32 :: 32 :: joinSp ws) = s at *
  generalize txt (joinSp ws) = t at *
  generalize ws.length = n at *
  generalize (ws.map Value.string).toArray = cs at *
  clear hE r1 r2 r3 q1 q2 q3 hB hbs hws h0 hnb hlen hl4
  go_enter Tryz.func36, Tryz.ntmps36
  go_wp2_with (first
    | (go_at_call 62; refine K1.mono ?_; clear K1; rintro e w1 ⟨rfl, rfl⟩)
    | (go_at_call 30; refine K2.mono ?_; clear K2; rintro e w1 ⟨rfl, rfl⟩)
    | (go_at_call 63; refine K3.mono ?_; clear K3; rintro e W3 ⟨rfl, hL⟩; have hL2 := Lib.hid (hfin.out _ _ hL); clear hL))
  go_ret
  exact ⟨rfl, hL2.out⟩
/-- A line behind the first four. -/
theorem line5_any {R base : Nat} {r r' : RdV} {l : List UInt8} {k : Int} {w : World} (hE : EnvV w) (h : RdAt R base r w) (hen : r.en = false) (hk : 5 ≤ k) (hlen : l.length ≤ 65536)
    (hK : ∀ W, Below w.heap.size w W → RdAt R base r W → Calls Tryz.prog 36 #[.pointer (some ⟨R, 0, none⟩), .string (txt l)] W fun e w' => e = .returned (.int .i64 0) ∧ LineP R base r' W w') :
    Calls Tryz.prog 14 #[.pointer (some ⟨R, 0, none⟩), .int .i64 k, .string (txt (l ++ [10]))] w fun e w' => e = .returned (.int .i64 0) ∧ LineP R base r' w w' := by
  have K1 := cut_any l w hlen
  have K2 := split_any hE hlen
  have hB := belowN (w := w) (o := .cells ((Lib.splitB ⟨#[32]⟩ 0 (Lib.countB (txt l) ⟨#[32]⟩) (txt l)).map Value.string).toArray 9)
  have K3 := hK _ hB (h.below hB)
  have hfin : Hid (∀ W, LineP R base r' (w.alloc (.cells ((Lib.splitB ⟨#[32]⟩ 0 (Lib.countB (txt l) ⟨#[32]⟩) (txt l)).map Value.string).toArray 9)) W → LineP R base r' w W) := Lib.hid fun W h => h.after hB
  obtain ⟨va, vc, pa, pc, bv, r1, r2, r3, r4⟩ := h
  rw [hen] at r1
  have c5 := r1.cell (j := 5) (v := .bool false) rfl
  generalize ((Lib.splitB ⟨#[32]⟩ 0 (Lib.countB (txt l) ⟨#[32]⟩) (txt l)).map Value.string).toArray = cs at *
  generalize Lib.countB (txt l) ⟨#[32]⟩ + 1 = n at *
  generalize txt (l ++ [10]) = s at *
  generalize txt l = t at *
  clear hE r1 r2 r3 r4 hB hK hlen
  have k1 : ¬ k = 1 := by omega
  have k2 : ¬ k = 2 := by omega
  have k3 : ¬ k = 3 := by omega
  have k4 : ¬ k = 4 := by omega
  clear hk
  go_enter Tryz.func14, Tryz.ntmps14
  go_wp2_with (first
    | (go_at_call 29; refine K1.mono ?_; clear K1; rintro e w1 ⟨rfl, rfl⟩)
    | (go_at_call 30; refine K2.mono ?_; clear K2; rintro e w1 ⟨rfl, rfl⟩)
    | (go_at_call 36; refine K3.mono ?_; clear K3; rintro e W3 ⟨rfl, hL⟩; have hL2 := Lib.hid (hfin.out _ hL); clear hL))
  go_ret
  exact ⟨rfl, hL2.out⟩
end Go.Proofs.YtfnfijgknjnccaaGreatDoor
