/-
  law9's VirWords.
-/
import Derived.Test.YtfnfijgknjnccaaGreatDoorVyE
namespace Go.Proofs.YtfnfijgknjnccaaGreatDoor
open Go.RowKit Go.Sort
set_option maxHeartbeats 4000000
set_option maxRecDepth 100000
/-- Five blocks one behind the other: what the law lays. -/
def worldW (W : World) (m qd qa qb : ByteArray) (d a b : Int) : World :=
  ((((W.alloc (.cells #[.int .i64 a, .int .i64 b] 3)).alloc (.cells #[.int .i64 a] 3)).alloc (.cells #[.int .i64 a, .int .i64 b, .int .i64 a] 3)).alloc (.cells ((ysW W.heap.size d a b).flatMap fun y => y.1.cells.toList).toArray 25)).alloc (.cells ((wsW m qd qa qb).map Value.string).toArray 9)
/-- The function that is made of one of them. -/
def worldF (X : World) (y : InsX) : World := ((X.alloc (.cells y.1.cells 25)).alloc (.cells #[.slice (some ⟨X.heap.size, 0, none⟩) 1 1] 26)).alloc (.cells #[.string ⟨#[102]⟩, .slice none 0 0, .slice none 0 0, .string ⟨#[103]⟩, .slice (some ⟨X.heap.size + 1, 0, none⟩) 1 1] 30)
def fnCells (h : Nat) : Array Value := #[.string ⟨#[102]⟩, .slice none 0 0, .slice none 0 0, .string ⟨#[103]⟩, .slice (some ⟨h + 1, 0, none⟩) 1 1]
/-- The function as the law makes it. -/
def fnL (h : Nat) (y : InsX) : FnV := ⟨⟨#[102]⟩, none, 0, [], none, 0, [], ⟨#[103]⟩, some ⟨h + 1, 0, none⟩, 1, [⟨some ⟨h, 0, none⟩, 1, [y]⟩]⟩
theorem fnL_cells (h : Nat) (y : InsX) : (fnL h y).cells = fnCells h := rfl
/-- What follows when the function is made. -/
def RestW (w X : World) (y : InsX) (u : ByteArray) : Prop :=
  Cells (worldF X y) (X.heap.size + 1 + 1) 30 (fnCells X.heap.size) ∧
  Calls Tryz.prog 7 #[.string u] (worldF X y) fun e W3 => ∃ g : FnV, e = .returned (.tuple #[.agg g.cells, .int .i64 0, .int .i64 0]) ∧
    (Cells (W3.alloc (.cells g.cells 30)) (X.heap.size + 1 + 1) 30 (fnCells X.heap.size) ∧
     Calls Tryz.prog 8 #[.agg (fnCells X.heap.size)] (W3.alloc (.cells g.cells 30)) fun e W4 => e = .returned (.string u) ∧ Below w.heap.size w W4 ∧ Cells W4 (X.heap.size + 1 + 1) 30 (fnCells X.heap.size) ∧ Cells W4 W3.heap.size 30 g.cells ∧
      Calls Tryz.prog 10 #[.agg (fnCells X.heap.size), .agg g.cells] W4 fun e w' => e = .returned (.bool true) ∧ Below W4.heap.size W4 w')
theorem worldF_cells (X : World) (y : InsX) : (worldF X y).heap.size = X.heap.size + 3 ∧ Below X.heap.size X (worldF X y) ∧ Cells (worldF X y) X.heap.size 25 y.1.cells ∧ Cells (worldF X y) (X.heap.size + 1) 26 #[.slice (some ⟨X.heap.size, 0, none⟩) 1 1] ∧ Cells (worldF X y) (X.heap.size + 1 + 1) 30 (fnCells X.heap.size) := by
  unfold worldF fnCells
  exact cells_3v X _ _ _ _ _ _
theorem rest_w {w X : World} {y : InsX} {u : ByteArray} {t : TxV} (hE : EnvF w) (hX : Below w.heap.size w X) (h : ShapeOk y t) (hu : u = txt (textOf t.lines)) (ha : IntsL X y.1.sa y.2) (hn : y.1.sn = y.2.length) (hl : y.2.length ≤ 3) : RestW w X y u := by
  obtain ⟨hz, hB, x0, x1, x2⟩ := worldF_cells X y
  unfold RestW
  generalize worldF X y = Y at *
  subst hu
  refine ⟨x2, ?_⟩
  have hEY := hE.below (hX.trans (hB.mono hX.size))
  have hf : FnAt Y (fnL X.heap.size y) := fnAt_one (fun j x hx => (by cases hx)) (fun j x hx => (by cases hx)) x0 x1 ⟨ha.below hB, hn⟩
  refine (read_any h.ok hEY).mono fun e W3 ⟨hb3, g, he, hg, hgf⟩ => ⟨g, he, ?_⟩
  have hBA := belowN (w := W3) (o := .cells g.cells 30)
  have h24 := hb3.trans (hBA.mono hb3.size)
  refine ⟨x2.below h24 (by omega), ?_⟩
  have ho : FnOk (fnL X.heap.size y) := fnOk_one nmF_ok nmG_ok (fun x hx => (by cases hx)) (fun x hx => (by cases hx)) h.io (by decide) (by decide)
  have hp : plainB (fnL X.heap.size y) = true := plain_one (by decide) (by decide) (fun x hx => (by cases hx)) h.ib
  have ht : textF (fnL X.heap.size y) = textOf t.lines := textF_one h.nm.symm h.vr.symm h.ps.symm h.rs.symm rfl rfl h.wd h.ok.w0
  have KP := print_any _ (hEY.below h24) (hf.below h24) ho hp (by rw [ht]; have := h.ok.lines.2; omega)
  rw [ht, fnL_cells] at KP
  refine KP.mono fun e W4 ⟨he4, hb4⟩ => ⟨he4, ?_⟩
  have h25 := h24.trans (hb4.mono h24.size)
  refine ⟨hX.trans ((hB.trans (h25.mono hB.size)).mono hX.size), x2.below h25 (by omega), (Cells.new W3 30 g.cells).below hb4 (by simp), ?_⟩
  have KS := sameFunc (sameF_of (f := fnL X.heap.size y) hg h.nm.symm h.vr.symm h.ps.symm h.rs.symm rfl rfl h.rd) (hf.below h25) ((hgf.below hBA).below hb4) (by show 0 ≤ 100000; omega) (by show 0 ≤ 100000; omega) (by show 1 ≤ 100000; omega) (fun b hm => by
    have hm := List.mem_singleton.1 hm
    subst hm
    refine ⟨by show 1 ≤ 100000; omega, fun z hz => ?_⟩
    have hz := List.mem_singleton.1 hz
    subst hz
    omega)
  rw [fnL_cells] at KS
  exact KS
theorem worldW_cells (W : World) (m qd qa qb : ByteArray) (d a b : Int) : (worldW W m qd qa qb d a b).heap.size = W.heap.size + 5 ∧ Below W.heap.size W (worldW W m qd qa qb d a b) ∧ Cells (worldW W m qd qa qb d a b) W.heap.size 3 #[.int .i64 a, .int .i64 b] ∧ Cells (worldW W m qd qa qb d a b) (W.heap.size + 1) 3 #[.int .i64 a] ∧ Cells (worldW W m qd qa qb d a b) (W.heap.size + 1 + 1) 3 #[.int .i64 a, .int .i64 b, .int .i64 a] ∧ Cells (worldW W m qd qa qb d a b) (W.heap.size + 1 + 1 + 1) 25 ((ysW W.heap.size d a b).flatMap fun y => y.1.cells.toList).toArray ∧ Cells (worldW W m qd qa qb d a b) (W.heap.size + 1 + 1 + 1 + 1) 9 ((wsW m qd qa qb).map Value.string).toArray := by
  unfold worldW
  exact cells_5v W _ _ _ _ _ _ _ _ _ _
/-- What stands before the choice, and what follows it. -/
theorem pick_w {k d a b : Nat} {m : ByteArray} (hm : m = wordN (-(a : Int))) (hk : k < 11) (hd : d ≤ 99999) (ha : a ≤ 99999) (hb : b ≤ 99999) {w W1 : World} (hE : EnvF w) (hb1 : Below w.heap.size w W1) :
    ∃ (y : InsX) (s : ByteArray), s.size ≤ 40000 ∧ (worldW W1 m (wordN d) (wordN a) (wordN b) d a b).heap.size = W1.heap.size + 1 + 1 + 1 + 1 + 1 ∧ (∀ i v, y.1.cells[i]? = some v → (worldW W1 m (wordN d) (wordN a) (wordN b) d a b).cell? ⟨W1.heap.size + 1 + 1 + 1, k * 9 + i, none⟩ = some v) ∧
      (∀ o1 o2 o3, ((((worldW W1 m (wordN d) (wordN a) (wordN b) d a b).alloc o1).alloc o2).alloc o3).cell? ⟨W1.heap.size + 1 + 1 + 1 + 1, k, none⟩ = some (.string s)) ∧ RestW w (worldW W1 m (wordN d) (wordN a) (wordN b) d a b) y (preW ++ s ++ postW) := by
  obtain ⟨hz, hB, x0, x1, x2, x3, x4⟩ := worldW_cells W1 m (wordN d) (wordN a) (wordN b) d a b
  generalize worldW W1 m (wordN d) (wordN a) (wordN b) d a b = X at *
  obtain ⟨y, s, t, hy, hs, hsh, hst, hi, hn, hl⟩ := pick_word (X := X) hk hd ha hb (ints_cells (l := [(a : Int), (b : Int)]) x0) (ints_cells (l := [(a : Int)]) x1) (ints_cells (l := [(a : Int), (b : Int), (a : Int)]) x2)
  rw [← hm] at hs
  refine ⟨y, s, size_w hsh hst, by omega, fun i v hv => ?_, fun o1 o2 o3 => ?_, rest_w hE (hb1.trans (hB.mono hb1.size)) hsh (text_w hsh hst) hi hn hl⟩
  · have h9 : i < 9 := (Array.getElem?_eq_some_iff.1 hv).1
    refine x3.cell ?_
    rw [List.getElem?_toArray, flat9 _ k i y hy h9, hv]
  · refine (((x4.alloc o1).alloc o2).alloc o3).cell ?_
    rw [List.getElem?_toArray, List.getElem?_map, hs]
    rfl
end Go.Proofs.YtfnfijgknjnccaaGreatDoor
