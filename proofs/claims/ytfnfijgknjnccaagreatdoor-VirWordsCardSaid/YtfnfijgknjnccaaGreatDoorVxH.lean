/-
  vir's reader: the lines of blocks, instructions, and the end.
-/
import Derived.Test.YtfnfijgknjnccaaGreatDoorVxG
namespace Go.Proofs.YtfnfijgknjnccaaGreatDoor
open Go.RowKit Go.Sort
def blockL : List UInt8 := [98, 108, 111, 99, 107]
def endL : List UInt8 := [101, 110, 100]
theorem prefix_any (l : List UInt8) (w : World) : Calls Tryz.prog 62 #[.string (txt l), .string ⟨#[32, 32]⟩] w fun e w' => e = .returned (.tuple #[.string (txt (Lib.trimPrefix l [32, 32])), .bool (Lib.hasPrefix l [32, 32])]) ∧ w' = w := by
  have K := Tryz.strings_CutPrefix (txt l) ⟨#[32, 32]⟩ w
  rw [txt_list, show (⟨#[32, 32]⟩ : ByteArray).data.toList = [32, 32] from rfl] at K
  exact K
theorem prefix_ins (l : List UInt8) : Lib.trimPrefix (32 :: 32 :: l) [32, 32] = l ∧ Lib.hasPrefix (32 :: 32 :: l) [32, 32] = true := by
  have h : Lib.hasPrefix (32 :: 32 :: l) [32, 32] = true := by simp [Lib.hasPrefix, List.isPrefixOf]
  refine ⟨?_, h⟩
  unfold Lib.trimPrefix
  rw [h, if_pos rfl]
  rfl
set_option maxHeartbeats 8000000
set_option maxRecDepth 100000
/-- The body's line 'block', where there is none so far. -/
theorem body_block {R base : Nat} {r : RdV} {w : World} (h : RdAt R base r w) (hRb : R < base) (hbase : base ≤ w.heap.size) (hbs : r.bs = none) :
    Calls Tryz.prog 36 #[.pointer (some ⟨R, 0, none⟩), .string (txt blockL)] w fun e w' => e = .returned (.int .i64 0) ∧ LineP R base { r with bs := some [] } w w' := by
  obtain ⟨va, vc, pa, pc, bv, r1, r2, r3, r4⟩ := h
  rw [hbs] at r4
  have hbv : bv = .slice none 0 0 := r4
  subst hbv
  have K1 := prefix_any blockL w
  rw [show Lib.trimPrefix blockL [32, 32] = blockL by decide, show Lib.hasPrefix blockL [32, 32] = false by decide] at K1
  have K2 := addB_nil r1 (j := 4) rfl
  have hfin : Hid (∀ g c W1, W1.ownsRow w.heap.size 26 1 (.slice (some ⟨g, 0, none⟩) 1 c) 1 [.slice none 0 0] → Below w.heap.size w W1 → LineP R base { r with bs := some [] } w (W1.setCell ⟨R, 4, none⟩ (.slice (some ⟨g, 0, none⟩) 1 c))) := Lib.hid fun g c W1 hrow hb => by
    have hs := set_stays (j := 4) (v := .slice (some ⟨g, 0, none⟩) 1 c) hb r1
    refine line_set hb r1 ⟨va, vc, pa, pc, .slice (some ⟨g, 0, none⟩) 1 c, (r1.below hb r1.lt).set (j := 4) (.slice (some ⟨g, 0, none⟩) 1 c), hs.row r2 (by decide), hs.row r3 (by decide), ?_⟩
    refine ⟨g, c, none, 0, [], rfl, rfl, ownsRow_setCell_below (a := ⟨R, 4, none⟩) (row_mono hrow hbase) hRb _, World.ownsRow_nil _ _ _ _, fun y hy => by simp at hy⟩
  obtain ⟨s, hs⟩ : ∃ s, s = txt blockL := ⟨_, rfl⟩
  have hsl : s.toList = [98, 108, 111, 99, 107] := by rw [hs, ByteArray.toList_eq]; simp [txt, blockL]
  rw [← hs] at K1 ⊢
  clear r1 r2 r3 r4 hs
  go_enter Tryz.func36, Tryz.ntmps36
  go_wp2_with (first
    | (go_at_call 62; refine K1.mono ?_; clear K1; rintro e w1 ⟨rfl, rfl⟩)
    | (go_at_call 64; refine K2.mono ?_; clear K2; rintro e W3 ⟨rfl, g, c, W1, hrow, hb, rfl⟩; have hL := Lib.hid (hfin.out g c W1 hrow hb); clear hrow hb))
  go_ret
  exact ⟨rfl, hL.out⟩
/-- The body's line 'end'. -/
theorem body_end {R base : Nat} {r : RdV} {w : World} (h : RdAt R base r w) :
    Calls Tryz.prog 36 #[.pointer (some ⟨R, 0, none⟩), .string (txt endL)] w fun e w' => e = .returned (.int .i64 0) ∧ LineP R base { r with en := true } w w' := by
  obtain ⟨va, vc, pa, pc, bv, r1, r2, r3, r4⟩ := h
  have K1 := prefix_any endL w
  rw [show Lib.trimPrefix endL [32, 32] = endL by decide, show Lib.hasPrefix endL [32, 32] = false by decide] at K1
  have c5 := r1.cell (j := 5) rfl
  have f5 := r1.frozen 5
  have hs := set_stays (j := 5) (v := .bool true) (Below.refl w.heap.size w) r1
  have hfin : LineP R base { r with en := true } w (w.setCell ⟨R, 5, none⟩ (.bool true)) :=
    line_set (Below.refl _ _) r1 ⟨va, vc, pa, pc, bv, r1.set (j := 5) (.bool true), hs.row r2 (by decide), hs.row r3 (by decide), r4.stays hs (by decide) (by decide) (by decide)⟩
  replace hfin := Lib.hid hfin
  obtain ⟨s, hs'⟩ : ∃ s, s = txt endL := ⟨_, rfl⟩
  have hsl : s.toList = [101, 110, 100] := by rw [hs', ByteArray.toList_eq]; simp [txt, endL]
  rw [← hs'] at K1 ⊢
  clear r1 r2 r3 r4 hs hs'
  go_enter Tryz.func36, Tryz.ntmps36
  go_wp2_with (go_at_call 62; refine K1.mono ?_; clear K1; rintro e w1 ⟨rfl, rfl⟩)
  go_ret
  exact ⟨rfl, hfin.out⟩
end Go.Proofs.YtfnfijgknjnccaaGreatDoor
