/-
  law11's alive, and Do of values in a new row.
-/
import Derived.Test.YtpekbaikbgcnmaaVrJ
namespace Go.Proofs.Ytpekbaikbgcnmaa
open Go.RowKit Go.Maps
theorem intsL_one (w : World) (x : Int) (t : TypeId) : IntsL (w.alloc (.cells #[.int .i64 x] t)) (some ⟨w.heap.size, 0, none⟩) [x] := fun j z hz => by
  have h := heap_new w (.cells #[.int .i64 x] t)
  match j, hz with
  | 0, hz => cases hz; exact ⟨_, _, rfl, cell_of_one h⟩
  | j + 1, hz => simp at hz
theorem intsL_two (w : World) (x y : Int) (t : TypeId) : IntsL (w.alloc (.cells #[.int .i64 x, .int .i64 y] t)) (some ⟨w.heap.size, 0, none⟩) [x, y] := fun j z hz => by
  have h := heap_new w (.cells #[.int .i64 x, .int .i64 y] t)
  match j, hz with
  | 0, hz => cases hz; exact ⟨_, _, rfl, (cells_two h).1⟩
  | 1, hz => cases hz; exact ⟨_, _, rfl, (cells_two h).2.1⟩
  | j + 2, hz => simp at hz
theorem below_new (w : World) (o : Obj) : Below w.heap.size w (w.alloc o) := (Below.refl _ _).alloc (Nat.le_refl _) _
/-- Do of two values in a new row. -/
theorem vrDo2 {s : ByteArray} {width x y : Int} {t : TypeId} {w : World} (hs : s.size ≤ maxLen) :
    Calls Try.prog 7 #[.string s, .int .i64 width, .slice (some ⟨w.heap.size, 0, none⟩) 2 2] (w.alloc (.cells #[.int .i64 x, .int .i64 y] t)) fun e w' => e = .returned (.tuple #[.int .i64 (doS s width [x, y]).1, .bool (doS s width [x, y]).2]) ∧ Below w.heap.size w w' :=
  (vrDo (l := [x, y]) hs (intsL_two w x y t)).mono fun _ _ ⟨h1, h2⟩ => ⟨h1, (below_new w _).trans (h2.mono (below_new w _).size)⟩
theorem sizeL {s : ByteArray} (h : s.size ≤ 3) : s.size ≤ maxLen := by unfold maxLen; omega
theorem size_add : (⟨#[97, 100, 100]⟩ : ByteArray).size ≤ maxLen := sizeL (by decide)
theorem size_div : (⟨#[100, 105, 118]⟩ : ByteArray).size ≤ maxLen := sizeL (by decide)
theorem size_not : (⟨#[110, 111, 116]⟩ : ByteArray).size ≤ maxLen := sizeL (by decide)
set_option maxHeartbeats 4000000
set_option maxRecDepth 100000
theorem vrAlive (w : World) : Calls Try.prog 6 #[] w fun e w' => e = .returned (.bool true) ∧ Below w.heap.size w w' := by
  have h1 : (doS ⟨#[97, 100, 100]⟩ 8 [255, 1]).1 = 0 := by decide +kernel
  have h2 : (doS ⟨#[97, 100, 100]⟩ 8 [255, 1]).2 = true := by decide +kernel
  have h3 : (doS ⟨#[100, 105, 118]⟩ 8 [1, 0]).2 = false := by decide +kernel
  have h4 : arityS ⟨#[110, 111, 116]⟩ = 1 := by decide +kernel
  have hB := Lib.hid (Below.refl w.heap.size w)
  go_enter Try.func6, Try.ntmps6
  go_wp2_with (first | (go_at_call 7; refine (vrDo2 (by first | exact size_add | exact size_div)).mono ?_; rintro e W1 ⟨rfl, hb⟩; replace hB := Lib.hid (hB.out.trans (hb.mono hB.out.size)); clear hb) | (go_at_call 9; refine (vrArity _ size_not _).mono ?_; rintro e W3 ⟨rfl, hb⟩; replace hB := Lib.hid (hB.out.trans (hb.mono hB.out.size)); clear hb))
  go_ret
  exact ⟨rfl, hB.out⟩
/-- law11's own do. -/
theorem vrLaw {s : ByteArray} {width : Int} {a : Option Addr} {c Bw : Nat} {l : List Int} {W : World} (hs : s.size ≤ maxLen) (hw : W.cell? ⟨Bw, 0, none⟩ = some (.int .i64 width)) (hl : IntsL W a l) :
    Calls Try.prog 11 #[.string s, .slice a l.length c, .pointer (some ⟨Bw, 0, none⟩)] W fun e w' => e = .returned (.int .i64 (doS s width l).1) ∧ Below W.heap.size W w' := by
  have K := vrDo (width := width) (c := c) hs hl
  generalize doS s width l = q at *
  generalize l.length = n at *
  clear hl
  go_enter Try.func11, Try.ntmps11
  go_wp2_with (go_at_call 7; refine K.mono ?_; rintro e W1 ⟨rfl, hb1⟩)
  go_ret
  exact ⟨rfl, hb1⟩
theorem vrLaw2 {s : ByteArray} {width x y : Int} {t : TypeId} {Bw : Nat} {w : World} (hs : s.size ≤ maxLen) (hw : w.cell? ⟨Bw, 0, none⟩ = some (.int .i64 width)) :
    Calls Try.prog 11 #[.string s, .slice (some ⟨w.heap.size, 0, none⟩) 2 2, .pointer (some ⟨Bw, 0, none⟩)] (w.alloc (.cells #[.int .i64 x, .int .i64 y] t)) fun e w' => e = .returned (.int .i64 (doS s width [x, y]).1) ∧ Below w.heap.size w w' :=
  (vrLaw (l := [x, y]) hs (cell_below (below_new w _) hw) (intsL_two w x y t)).mono fun _ _ ⟨h1, h2⟩ => ⟨h1, (below_new w _).trans (h2.mono (below_new w _).size)⟩
theorem vrLaw1 {s : ByteArray} {width x : Int} {t : TypeId} {Bw : Nat} {w : World} (hs : s.size ≤ maxLen) (hw : w.cell? ⟨Bw, 0, none⟩ = some (.int .i64 width)) :
    Calls Try.prog 11 #[.string s, .slice (some ⟨w.heap.size, 0, none⟩) 1 1, .pointer (some ⟨Bw, 0, none⟩)] (w.alloc (.cells #[.int .i64 x] t)) fun e w' => e = .returned (.int .i64 (doS s width [x]).1) ∧ Below w.heap.size w w' :=
  (vrLaw (l := [x]) hs (cell_below (below_new w _) hw) (intsL_one w x t)).mono fun _ _ ⟨h1, h2⟩ => ⟨h1, (below_new w _).trans (h2.mono (below_new w _).size)⟩
end Go.Proofs.Ytpekbaikbgcnmaa
