/-
  law9's num and alive.
-/
import Derived.Test.YtfnfijgknjnccaaGreatDoorVwX
import Derived.Test.YtfnfijgknjnccaaGreatDoorVxN
namespace Go.Proofs.YtfnfijgknjnccaaGreatDoor
open Go.RowKit Go.Sort
set_option maxHeartbeats 4000000
set_option maxRecDepth 100000
theorem lawNum0 (w : World) : Calls Tryz.prog 9 #[.int .i64 0] w fun e w' => e = .returned (.int .i64 0) ∧ w = w' := by
  go_enter Tryz.func9, Tryz.ntmps9
  go_wp2
  go_ret
  exact ⟨rfl, rfl⟩
theorem cells_3v (w : World) (A B C : Array Value) (t1 t2 t3 : TypeId) :
    let X := ((w.alloc (.cells A t1)).alloc (.cells B t2)).alloc (.cells C t3)
    X.heap.size = w.heap.size + 3 ∧ Below w.heap.size w X ∧ Cells X w.heap.size t1 A ∧ Cells X (w.heap.size + 1) t2 B ∧ Cells X (w.heap.size + 1 + 1) t3 C := by
  intro X
  have s1 := World.size_alloc w (.cells A t1)
  have s2 := World.size_alloc (w.alloc (.cells A t1)) (.cells B t2)
  have q1 := Cells.new w t1 A
  have q2 := Cells.new (w.alloc (.cells A t1)) t2 B
  have q3 := Cells.new ((w.alloc (.cells A t1)).alloc (.cells B t2)) t3 C
  rw [s1] at q2 s2
  rw [s2] at q3
  exact ⟨by simp [X], (belowN.alloc (by simp) _).alloc (by simp; omega) _, (q1.alloc _).alloc _, q2.alloc _, q3⟩
theorem cells_5v (w : World) (A B C D E : Array Value) (t1 t2 t3 t4 t5 : TypeId) :
    let X := ((((w.alloc (.cells A t1)).alloc (.cells B t2)).alloc (.cells C t3)).alloc (.cells D t4)).alloc (.cells E t5)
    X.heap.size = w.heap.size + 5 ∧ Below w.heap.size w X ∧ Cells X w.heap.size t1 A ∧ Cells X (w.heap.size + 1) t2 B ∧ Cells X (w.heap.size + 1 + 1) t3 C ∧ Cells X (w.heap.size + 1 + 1 + 1) t4 D ∧ Cells X (w.heap.size + 1 + 1 + 1 + 1) t5 E := by
  intro X
  obtain ⟨h1, h2, h3, h4, h5⟩ := cells_3v w A B C t1 t2 t3
  have s1 := World.size_alloc (((w.alloc (.cells A t1)).alloc (.cells B t2)).alloc (.cells C t3)) (.cells D t4)
  have q1 := Cells.new (((w.alloc (.cells A t1)).alloc (.cells B t2)).alloc (.cells C t3)) t4 D
  have q2 := Cells.new ((((w.alloc (.cells A t1)).alloc (.cells B t2)).alloc (.cells C t3)).alloc (.cells D t4)) t5 E
  rw [h1] at q1 s1
  rw [s1] at q2
  exact ⟨by simp [X], (h2.alloc (by simp; omega) _).alloc (by simp; omega) _, (h3.alloc _).alloc _, (h4.alloc _).alloc _, (h5.alloc _).alloc _, q1.alloc _, q2⟩
theorem ints_cells {W : World} {k : Nat} {l : List Int} (h : Cells W k 3 (l.map (Value.int .i64)).toArray) : IntsL W (some ⟨k, 0, none⟩) l := fun j x hx =>
  ⟨k, 0, rfl, by rw [Nat.zero_add]; exact h.cell (by rw [List.getElem?_toArray, List.getElem?_map, hx]; rfl)⟩
/-- Such a function stands. -/
theorem fnAt_one {W : World} {I B vc pc bc : Nat} {nm res : ByteArray} {va pa : Option Addr} {vr : List ByteArray} {ps : List Int} {y : InsX} (hv : StrsL W va vr) (hp : IntsL W pa ps) (hi : Cells W I 25 y.1.cells) (hb : Cells W B 26 #[.slice (some ⟨I, 0, none⟩) 1 1]) (ha : IntsL W y.1.sa y.2 ∧ y.1.sn = y.2.length) :
    FnAt W ⟨nm, va, vc, vr, pa, pc, ps, res, some ⟨B, 0, none⟩, bc, [⟨some ⟨I, 0, none⟩, 1, [y]⟩]⟩ := by
  refine ⟨hv, hp, fun j x hx => ?_, fun b hm j x hx => ?_, fun b hm z hz => ?_⟩
  · have hj : j < 1 := (List.getElem?_eq_some_iff.1 hx).1
    obtain rfl : j = 0 := by omega
    cases hx
    exact ⟨B, 0, rfl, hb.cell rfl⟩
  · rw [List.mem_singleton] at hm
    subst hm
    have hj : j < 1 := (List.getElem?_eq_some_iff.1 hx).1
    obtain rfl : j = 0 := by omega
    cases hx
    refine ⟨I, 0, rfl, fun i v hv => ?_⟩
    rw [show 0 + 0 * 9 + i = i by omega]
    exact hi.cell hv
  · rw [List.mem_singleton] at hm
    subst hm
    rw [List.mem_singleton] at hz
    subst hz
    exact ha
/-- What is asked of such a function. -/
theorem fnOk_one {vc pc bc ic : Nat} {nm res : ByteArray} {va pa ba ia : Option Addr} {vr : List ByteArray} {ps : List Int} {y : InsX} (h1 : IsName nm) (h2 : IsName res) (h3 : ∀ x, x ∈ vr → IsName x) (h4 : ∀ x, x ∈ ps → In64 x) (h5 : InsOk y.1 y.2) (h6 : vr.length ≤ 100000) (h7 : ps.length ≤ 100000) :
    FnOk ⟨nm, va, vc, vr, pa, pc, ps, res, ba, bc, [⟨ia, ic, [y]⟩]⟩ := by
  refine ⟨h1, h2, h3, h4, fun b hm z hz => ?_, h6, h7, by show 1 ≤ 100000; omega, fun b hm => ?_⟩
  · rw [List.mem_singleton] at hm
    subst hm
    rw [List.mem_singleton] at hz
    subst hz
    exact h5
  · rw [List.mem_singleton] at hm
    subst hm
    show 1 ≤ 100000
    omega
theorem plain_one {vc pc bc ic : Nat} {nm res : ByteArray} {va pa ba ia : Option Addr} {vr : List ByteArray} {ps : List Int} {y : InsX} (h1 : vr.length ≤ 500) (h2 : ps.length ≤ 16) (h3 : ∀ x, x ∈ ps → 0 ≤ x ∧ x ≤ 99999) (h4 : insB y = true) :
    plainB ⟨nm, va, vc, vr, pa, pc, ps, res, ba, bc, [⟨ia, ic, [y]⟩]⟩ = true := by
  unfold plainB blkB
  dsimp only
  have e : (ps.all fun n => decide (0 ≤ n) && decide (n ≤ 99999)) = true := by
    rw [List.all_eq_true]
    intro x hx
    have := h3 x hx
    rw [decide_eq_true this.1, decide_eq_true this.2]
    rfl
  have e2 : decide ((vr.length : Int) ≤ 500) = true := decide_eq_true (by omega)
  have e3 : decide ((ps.length : Int) ≤ 16) = true := decide_eq_true (by omega)
  rw [e, e2, e3]
  simp [h4]
def sR : ByteArray := ⟨#[102, 117, 110, 99, 32, 102, 10, 114, 101, 103, 115, 32, 103, 10, 112, 97, 114, 97, 109, 115, 32, 48, 10, 114, 101, 115, 117, 108, 116, 32, 103, 10, 98, 108, 111, 99, 107, 10, 32, 32, 114, 101, 116, 32, 48, 10, 101, 110, 100, 10]⟩
theorem sR_is : txt (textOf tR.lines) = sR := by
  rw [text_r]
  rfl
theorem alive9 {w : World} (hE : EnvF w) : Calls Tryz.prog 6 #[] w fun e w' => e = .returned (.bool true) ∧ Below w.heap.size w w' := by
  obtain ⟨hz, hB, x0, x1, x2, x3, x4⟩ := cells_5v w #[.string ⟨#[103]⟩] #[.int .i64 0] #[.int .i64 9, .int .i64 0, .int .i64 0, .int .i64 0, .int .i64 0, .string ⟨#[]⟩, .slice none 0 0, .int .i64 0, .int .i64 0] #[.slice (some ⟨w.heap.size + 1 + 1, 0, none⟩) 1 1] #[.string ⟨#[102]⟩, .slice (some ⟨w.heap.size, 0, none⟩) 1 1, .slice (some ⟨w.heap.size + 1, 0, none⟩) 1 1, .string ⟨#[103]⟩, .slice (some ⟨w.heap.size + 1 + 1 + 1, 0, none⟩) 1 1] 9 3 25 26 30
  have KR := read_any tR_ok (hE.below hB)
  rw [sR_is] at KR
  have hK : Hid (∀ W, Below w.heap.size w W → StrsL W (some ⟨w.heap.size, 0, none⟩) [⟨#[103]⟩] → IntsL W (some ⟨w.heap.size + 1, 0, none⟩) [0] → Cells W (w.heap.size + 1 + 1) 25 yR.1.cells → Cells W (w.heap.size + 1 + 1 + 1) 26 #[.slice (some ⟨w.heap.size + 1 + 1, 0, none⟩) 1 1] →
      FnAt W ⟨⟨#[102]⟩, some ⟨w.heap.size, 0, none⟩, 1, [⟨#[103]⟩], some ⟨w.heap.size + 1, 0, none⟩, 1, [0], ⟨#[103]⟩, some ⟨w.heap.size + 1 + 1 + 1, 0, none⟩, 1, [⟨some ⟨w.heap.size + 1 + 1, 0, none⟩, 1, [yR]⟩]⟩ ∧
      Calls Tryz.prog 8 #[.agg #[.string ⟨#[102]⟩, .slice (some ⟨w.heap.size, 0, none⟩) 1 1, .slice (some ⟨w.heap.size + 1, 0, none⟩) 1 1, .string ⟨#[103]⟩, .slice (some ⟨w.heap.size + 1 + 1 + 1, 0, none⟩) 1 1]] W fun e w' => e = .returned (.string sR) ∧ Below W.heap.size W w') := Lib.hid fun W hb h1 h2 h3 h4 => by
    have hf := fnAt_one (W := W) (nm := ⟨#[102]⟩) (res := ⟨#[103]⟩) (vc := 1) (pc := 1) (bc := 1) (y := yR) h1 h2 h3 h4 ⟨fun j x hx => (by cases hx), rfl⟩
    refine ⟨hf, ?_⟩
    have ht : textF (⟨⟨#[102]⟩, some ⟨w.heap.size, 0, none⟩, 1, [⟨#[103]⟩], some ⟨w.heap.size + 1, 0, none⟩, 1, [0], ⟨#[103]⟩, some ⟨w.heap.size + 1 + 1 + 1, 0, none⟩, 1, [⟨some ⟨w.heap.size + 1 + 1, 0, none⟩, 1, [yR]⟩]⟩ : FnV) = textOf tR.lines := textF_one rfl rfl rfl rfl rfl rfl words_r (by decide)
    have K := print_any _ (hE.below hb) hf (fnOk_one nmF_ok nmG_ok (fun x hx => by rw [List.mem_singleton] at hx; subst hx; exact nmG_ok) (fun x hx => by rw [List.mem_singleton] at hx; subst hx; unfold In64; omega) insOk_r (by decide) (by decide)) (plain_one (by decide) (by decide) (fun x hx => by rw [List.mem_singleton] at hx; subst hx; omega) insB_r) (by rw [ht, text_r]; decide)
    rw [ht, show (⟨(textOf tR.lines).toArray⟩ : ByteArray) = txt (textOf tR.lines) from rfl, sR_is] at K
    exact K
  have i0 := strs_cells (l := [⟨#[103]⟩]) x0
  have i1 := ints_cells (l := [0]) x1
  have hnext : Hid (∀ W1 (g : FnV), Below (w.heap.size + 5) _ W1 → FnIs g tR → FnAt W1 g → W1.heap.size < (W1.alloc (.cells g.cells 30)).heap.size ∧ Calls Tryz.prog 8 #[.agg #[.string ⟨#[102]⟩, .slice (some ⟨w.heap.size, 0, none⟩) 1 1, .slice (some ⟨w.heap.size + 1, 0, none⟩) 1 1, .string ⟨#[103]⟩, .slice (some ⟨w.heap.size + 1 + 1 + 1, 0, none⟩) 1 1]] (W1.alloc (.cells g.cells 30)) (fun e w' => e = .returned (.string sR) ∧ Below (W1.alloc (.cells g.cells 30)).heap.size (W1.alloc (.cells g.cells 30)) w') ∧
      Cells (W1.alloc (.cells g.cells 30)) (w.heap.size + 1 + 1 + 1 + 1) 30 #[.string ⟨#[102]⟩, .slice (some ⟨w.heap.size, 0, none⟩) 1 1, .slice (some ⟨w.heap.size + 1, 0, none⟩) 1 1, .string ⟨#[103]⟩, .slice (some ⟨w.heap.size + 1 + 1 + 1, 0, none⟩) 1 1] ∧
      (∀ W3, Below (W1.alloc (.cells g.cells 30)).heap.size (W1.alloc (.cells g.cells 30)) W3 → Below w.heap.size w W3 ∧ Cells W3 (w.heap.size + 1 + 1 + 1 + 1) 30 #[.string ⟨#[102]⟩, .slice (some ⟨w.heap.size, 0, none⟩) 1 1, .slice (some ⟨w.heap.size + 1, 0, none⟩) 1 1, .string ⟨#[103]⟩, .slice (some ⟨w.heap.size + 1 + 1 + 1, 0, none⟩) 1 1] ∧ Cells W3 W1.heap.size 30 g.cells ∧
        Calls Tryz.prog 10 #[.agg #[.string ⟨#[102]⟩, .slice (some ⟨w.heap.size, 0, none⟩) 1 1, .slice (some ⟨w.heap.size + 1, 0, none⟩) 1 1, .string ⟨#[103]⟩, .slice (some ⟨w.heap.size + 1 + 1 + 1, 0, none⟩) 1 1], .agg g.cells] W3 fun e w' => e = .returned (.bool true) ∧ Below W3.heap.size W3 w')) := Lib.hid fun W1 g hb hg hf => by
    have hlt := hb.size
    rw [hz] at hlt
    have hBA := belowN (w := W1) (o := .cells g.cells 30)
    have hb2 := hb.trans (hBA.mono hlt)
    have hB2 := hB.trans (hb2.mono (by omega))
    have z4 := x4.below hb2 (by omega)
    have mg := Cells.new W1 30 g.cells
    have hsz := World.size_alloc W1 (.cells g.cells 30)
    have hat := hf.below hBA
    have K := hK.out _ hB2 (i0.below (by rw [hz]; exact hb2)) (i1.below (by rw [hz]; exact hb2)) (x2.below hb2 (by omega)) (x3.below hb2 (by omega))
    refine ⟨by omega, K.2, z4, fun W3 hb3 => ?_⟩
    refine ⟨hB2.trans (hb3.mono hB2.size), z4.below hb3 (by omega), mg.below hb3 (by omega), ?_⟩
    have KS := sameFunc (sameF_of (f := ⟨⟨#[102]⟩, some ⟨w.heap.size, 0, none⟩, 1, [⟨#[103]⟩], some ⟨w.heap.size + 1, 0, none⟩, 1, [0], ⟨#[103]⟩, some ⟨w.heap.size + 1 + 1 + 1, 0, none⟩, 1, [⟨some ⟨w.heap.size + 1 + 1, 0, none⟩, 1, [yR]⟩]⟩) hg rfl rfl rfl rfl rfl rfl yS_r) (K.1.below hb3) (hat.below hb3) (by show 1 ≤ 100000; omega) (by show 1 ≤ 100000; omega) (by show 1 ≤ 100000; omega) (fun b hm => by
      rw [List.mem_singleton] at hm
      subst hm
      refine ⟨by show 1 ≤ 100000; omega, fun y hy => ?_⟩
      rw [List.mem_singleton] at hy
      subst hy
      show 0 ≤ 100000
      omega)
    exact KS
  clear hK i0 i1 x0 x1 x2 x3 x4 hE
  have hs : Hid (sR = ⟨#[102, 117, 110, 99, 32, 102, 10, 114, 101, 103, 115, 32, 103, 10, 112, 97, 114, 97, 109, 115, 32, 48, 10, 114, 101, 115, 117, 108, 116, 32, 103, 10, 98, 108, 111, 99, 107, 10, 32, 32, 114, 101, 116, 32, 48, 10, 101, 110, 100, 10]⟩) := Lib.hid rfl
  rw [hz] at KR
  go_enter Tryz.func6, Tryz.ntmps6
  rw [← hs.out]
  generalize sR = s at *
  clear hs
  go_wp2_with (first
    | (go_at_call 7; refine KR.mono ?_; clear KR; rintro e W1 ⟨hb1, g, rfl, hg, hf⟩; obtain ⟨hl, K2, m0, hn⟩ := hnext.out W1 g hb1 hg hf; clear hnext hg hf; replace hn := Lib.hid hn; obtain ⟨gn, gva, gvc, gvr, gpa, gpc, gps, gres, gba, gbc, gbl⟩ := g; unfold FnV.cells at *; dsimp only at *; have p0 := m0.cell (j := 0) rfl; have p1 := m0.cell (j := 1) rfl; have p2 := m0.cell (j := 2) rfl; have p3 := m0.cell (j := 3) rfl; have p4 := m0.cell (j := 4) rfl)
    | (go_at_call 8; refine K2.mono ?_; clear K2; rintro e W3 ⟨rfl, hb3⟩; obtain ⟨hB3, m3, mg, K4⟩ := hn.out W3 hb3; clear hn; have u0 := m3.cell (j := 0) rfl; have u1 := m3.cell (j := 1) rfl; have u2 := m3.cell (j := 2) rfl; have u3 := m3.cell (j := 3) rfl; have u4 := m3.cell (j := 4) rfl; have v0 := mg.cell (j := 0) rfl; have v1 := mg.cell (j := 1) rfl; have v2 := mg.cell (j := 2) rfl; have v3 := mg.cell (j := 3) rfl; have v4 := mg.cell (j := 4) rfl)
    | (go_at_call 9; refine (lawNum0 W3).mono ?_; rintro e W4 ⟨rfl, rfl⟩)
    | (go_at_call 10; refine K4.mono ?_; clear K4; rintro e W5 ⟨rfl, hb5⟩))
  go_ret
  exact ⟨rfl, hB3.trans (hb5.mono hB3.size)⟩
end Go.Proofs.YtfnfijgknjnccaaGreatDoor
