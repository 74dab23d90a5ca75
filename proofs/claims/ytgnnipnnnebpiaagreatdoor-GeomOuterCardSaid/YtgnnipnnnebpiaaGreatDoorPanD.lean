/-
  geom's 'add' where it panics: a register more than there may be; one whose width is wrong.
-/
import Derived.Test.YtgnnipnnnebpiaaGreatDoorGeoD
namespace Go.Proofs.YtgnnipnnnebpiaaGreatDoor
open Go.RowKit

/-- The panic of add with the error n. -/
def faultOf (n : Int) : List PanicEntry := [{ v := .iface 39 (.int .i64 n), recovered := false }]

set_option maxHeartbeats 800000 in
theorem fits_no (nm : ByteArray) (wd at_ deep root aAt aW : Int) (sv av : Value) (w : World) (h : wd < 1 ∨ (¬ wd < 1 ∧ 64 < wd)) :
    Calls Tryz.prog 25 #[.agg #[.string nm, .int .i64 wd, .int .i64 at_, sv, .int .i64 deep, .int .i64 root, .int .i64 aAt, .int .i64 aW, av]] w fun e w' =>
      e = .returned (.bool false) ∧ Below w.heap.size w w' := by
  rcases h with h | ⟨h', h⟩
  · have i1 : ¬ 1 ≤ wd := by omega
    go_enter Tryz.func25, Tryz.ntmps25
    go_wp2
    go_ret
    exact ⟨rfl, (Below.refl _ _).alloc (Nat.le_refl _) _⟩
  · have i1 : 1 ≤ wd := by omega
    have i2 : ¬ wd ≤ 64 := by omega
    go_enter Tryz.func25, Tryz.ntmps25
    go_wp2
    go_ret
    exact ⟨rfl, (Below.refl _ _).alloc (Nat.le_refl _) _⟩

set_option maxRecDepth 100000 in
set_option maxHeartbeats 2000000 in
theorem add_full (base T : Nat) (ns : List ByteArray) (ps : List (Int × Int × Int)) (nm : ByteArray) (wd at_ deep root aAt aW : Int) (sv av : Value) (w : World) (hk : ns.length = 200) (hT : Taken base T ns ps w) (hd : deep ≤ 6) :
    Calls Tryz.prog 15 #[.pointer (some ⟨T, 0, none⟩), .agg #[.string nm, .int .i64 wd, .int .i64 at_, sv, .int .i64 deep, .int .i64 root, .int .i64 aAt, .int .i64 aW, av]] w fun e w' =>
      e = .panicked (faultOf 2) ∧ Below w.heap.size w w' := by
  obtain ⟨nV, pV, hTc, hn, hp⟩ := hT
  rw [hk] at hn
  obtain ⟨na, ncap, rfl⟩ := ownsRow_form hn
  have t0 := hTc.cell (j := 0) (v := .slice na 200 ncap) rfl
  have t1 := fun o => cell_alloc o t0
  have hd' : ¬ 6 < deep := by omega
  go_enter Tryz.func15, Tryz.ntmps15
  go_wp2_with fail
  exact ⟨rfl, rfl, (Below.refl _ _).alloc (Nat.le_refl _) _⟩

set_option maxRecDepth 100000 in
set_option maxHeartbeats 4000000 in
theorem add_wide (base T : Nat) (ns : List ByteArray) (ps : List (Int × Int × Int)) (nm : ByteArray) (wd at_ deep root aAt aW : Int) (sv av : Value) (w : World) (hE : Env w) (hN : IsName nm) (hW : NotWord nm) (hno : nm ∉ ns) (hk : ns.length < 200) (hT : Taken base T ns ps w) (hd : deep ≤ 6)
    (hw : wd < 1 ∨ (¬ wd < 1 ∧ 64 < wd)) :
    Calls Tryz.prog 15 #[.pointer (some ⟨T, 0, none⟩), .agg #[.string nm, .int .i64 wd, .int .i64 at_, sv, .int .i64 deep, .int .i64 root, .int .i64 aAt, .int .i64 aW, av]] w fun e w' =>
      e = .panicked (faultOf 6) ∧ Below w.heap.size w w' := by
  obtain ⟨nV, pV, hTc, hn, hp⟩ := hT
  obtain ⟨k, hkn⟩ : ∃ k, ns.length = k := ⟨_, rfl⟩
  rw [hkn] at hn hk
  have hkn := Lib.hid hkn
  obtain ⟨na, ncap, rfl⟩ := ownsRow_form hn
  obtain ⟨w0, hw0⟩ : ∃ w0, w0 = w.alloc (.cells #[.string nm, .int .i64 wd, .int .i64 at_, sv, .int .i64 deep, .int .i64 root, .int .i64 aAt, .int .i64 aW, av] 51) := ⟨_, rfl⟩
  have hb0 : Below w.heap.size w w0 := by rw [hw0]; exact (Below.refl _ _).alloc (Nat.le_refl _) _
  have hs0 : Cells w0 w.heap.size 51 #[.string nm, .int .i64 wd, .int .i64 at_, sv, .int .i64 deep, .int .i64 root, .int .i64 aAt, .int .i64 aW, av] := by rw [hw0]; exact Cells.new _ _ _
  have hTc0 := hTc.below hb0 hTc.lt
  have hk2 : (((k : Nat) : Int) == 200) = false := by simp; omega
  have hd' : ¬ 6 < deep := by omega
  have C1 : ∀ W, Below w0.heap.size w0 W → Calls Tryz.prog 23 #[.string nm] W fun e w' => e = .returned (.bool true) ∧ Below W.heap.size W w' := fun W hb => geomIsName_yes nm W ((hE.below hb0).below hb) hN hW
  have C2 : ∀ W, Below w0.heap.size w0 W → Calls Tryz.prog 24 #[.slice na k ncap, .string nm] W fun e w' => e = .returned (.bool false) ∧ W = w' := fun W hb =>
    contains_no base k _ ns nm W hkn.out (by omega) (ownsRow_below (ownsRow_below hn hb0) hb) hno
  have C3 := fun W => fits_no nm wd at_ deep root aAt aW sv av W hw
  have hread : ∀ W, Below w0.heap.size w0 W → (W.cell? ⟨w.heap.size, 0, none⟩ = some (.string nm) ∧ W.cell? ⟨w.heap.size, 1, none⟩ = some (.int .i64 wd) ∧ W.cell? ⟨w.heap.size, 2, none⟩ = some (.int .i64 at_) ∧ W.cell? ⟨w.heap.size, 3, none⟩ = some sv ∧
      W.cell? ⟨w.heap.size, 4, none⟩ = some (.int .i64 deep) ∧ W.cell? ⟨w.heap.size, 5, none⟩ = some (.int .i64 root) ∧ W.cell? ⟨w.heap.size, 6, none⟩ = some (.int .i64 aAt) ∧ W.cell? ⟨w.heap.size, 7, none⟩ = some (.int .i64 aW) ∧ W.cell? ⟨w.heap.size, 8, none⟩ = some av ∧
      W.cell? ⟨T, 0, none⟩ = some (.slice na k ncap)) := fun W hb => by
    have a := hs0.below hb hs0.lt
    have b := hTc0.below hb hTc0.lt
    exact ⟨a.cell rfl, a.cell rfl, a.cell rfl, a.cell rfl, a.cell rfl, a.cell rfl, a.cell rfl, a.cell rfl, a.cell rfl, b.cell rfl⟩
  have hR0 := hread w0 (Below.refl _ _)
  rw [hw0] at hR0
  obtain ⟨r0, r1, r2, r3, r4, r5, r6, r7, r8, r9⟩ := hR0
  clear hw
  go_enter Tryz.func15, Tryz.ntmps15
  go_wp2_with fail
  rw [← hw0]
  clear r0 r1 r2 r3 r4 r5 r6 r7 r8 r9 hw0
  obtain ⟨r0, r1, r2, r3, r4, r5, r6, r7, r8, r9⟩ := hread w0 (Below.refl _ _)
  go_region_held3 (fun w' => w'.cell? ⟨w.heap.size, 0, none⟩ = some (.string nm) ∧ w'.cell? ⟨w.heap.size, 1, none⟩ = some (.int .i64 wd) ∧ w'.cell? ⟨w.heap.size, 2, none⟩ = some (.int .i64 at_) ∧ w'.cell? ⟨w.heap.size, 3, none⟩ = some (sv) ∧ w'.cell? ⟨w.heap.size, 4, none⟩ = some (.int .i64 deep) ∧ w'.cell? ⟨w.heap.size, 5, none⟩ = some (.int .i64 root) ∧ w'.cell? ⟨w.heap.size, 6, none⟩ = some (.int .i64 aAt) ∧ w'.cell? ⟨w.heap.size, 7, none⟩ = some (.int .i64 aW) ∧ w'.cell? ⟨w.heap.size, 8, none⟩ = some (av) ∧ w'.cell? ⟨T, 0, none⟩ = some (.slice na k ncap))
    (go_keep)
    ((first
      | (go_at_call 23; refine (C1 _ ((Below.refl _ _).drew)).mono ?_; clear C1; rintro e W1 ⟨rfl, hb⟩; have hB1 : Below w0.heap.size w0 W1 := ((Below.refl _ _).drew).trans hb; have hR1 := hread W1 hB1)
      | (go_at_call 24; refine (C2 _ hB1).mono ?_; clear C2; rintro e W2 ⟨rfl, rfl⟩)))
  clear r0 r1 r2 r3 r4 r5 r6 r7 r8 r9
  go_wp2_with (go_at_call 25; refine (C3 _).mono ?_; clear C3; rintro e W3 ⟨rfl, hb3⟩; have hB3 := hB1.trans (hb3.mono hB1.size))
  exact ⟨rfl, rfl, hb0.trans (hB3.mono hb0.size)⟩
end Go.Proofs.YtgnnipnnnebpiaaGreatDoor
