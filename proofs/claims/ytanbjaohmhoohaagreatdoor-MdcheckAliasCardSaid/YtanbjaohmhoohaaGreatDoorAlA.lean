/-
  MdcheckAlias: what lies in memory of a machine with one register of two within it, and what Check answers of it.
-/
import Derived.Test.YtanbjaohmhoohaaGreatDoorPanI
import Derived.Test.YtanbjaohmhoohaaGreatDoorPanJ
import Derived.Test.YtanbjaohmhoohaaGreatDoorSwC
namespace Go.Proofs.YtanbjaohmhoohaaGreatDoor
open Go.RowKit

theorem fine_local {w : World} {E : List Spot} (hloc : ∀ x, x ∈ E → Local w x) (hnd : (E.map (·.name)).Nodup) (hlen : E.length ≤ 200) : ∀ pre x, pre ++ [x] <+: E → Fine w pre x := by
  intro pre x h
  have hmem : x ∈ E := h.subset (by simp)
  obtain ⟨hv, l, h1, hal⟩ := hloc x hmem
  have hpl : pre.length + 1 ≤ E.length := by have := h.length_le; simpa using this
  refine ⟨h1.name, h1.word, ?_, by omega, h1.deep, h1.a0, h1.a1, h1.b0, by have := h1.b1; omega, h1.w0, h1.w1, h1.c1, h1.fits, hv, l, h1.few, hal, h1.ahead⟩
  obtain ⟨t, ht⟩ := h
  rw [← ht] at hnd
  intro hc
  rw [List.map_append, List.map_append, List.append_assoc] at hnd
  have := (List.nodup_append.1 hnd).2.2 x.name hc x.name (by simp)
  exact this rfl

def nmWd : ByteArray := ⟨#[119, 105, 100, 101]⟩
def nmOne : ByteArray := ⟨#[111, 110, 101]⟩
def nmTwo : ByteArray := ⟨#[116, 119, 111]⟩
theorem nmWd_ok : IsName nmWd ∧ NotWord nmWd := ⟨isName_of (by decide +kernel) (by decide +kernel) (by decide +kernel), notWord_of (by decide +kernel)⟩
theorem nmOne_ok : IsName nmOne ∧ NotWord nmOne := ⟨isName_of (by decide +kernel) (by decide +kernel) (by decide +kernel), notWord_of (by decide +kernel)⟩
theorem nmTwo_ok : IsName nmTwo ∧ NotWord nmTwo := ⟨isName_of (by decide +kernel) (by decide +kernel) (by decide +kernel), notWord_of (by decide +kernel)⟩

def alSub (a wa b wb : Int) : RegL := .cons nmOne wa a (.slice none 0 0) .nil (.cons nmTwo wb b (.slice none 0 0) .nil .nil)
def alTwo (S : Nat) : Value := .slice (some ⟨S, 0, none⟩) 2 2
def alL (width a wa b wb : Int) (S : Nat) : RegL :=
  .cons (sname 0) 8 0 (.slice none 0 0) .nil (.cons (sname 1) 8 0 (.slice none 0 0) .nil (.cons (sname 2) 8 0 (.slice none 0 0) .nil (.cons nmWd width 0 (alTwo S) (alSub a wa b wb) .nil)))
def sp (i : Nat) : Spot := ⟨sname i, 8, 0, .slice none 0 0, 1, i, 0, 8, .slice none 0 0⟩
def spW (width : Int) (S : Nat) : Spot := ⟨nmWd, width, 0, alTwo S, 1, 3, 0, width, .slice none 0 0⟩
def sp1 (width a wa : Int) (S : Nat) : Spot := ⟨nmOne, wa, a, .slice none 0 0, 2, 3, 0, width, .slice (some ⟨S, 0, none⟩) 0 2⟩
def sp2 (width b wb : Int) (S : Nat) : Spot := ⟨nmTwo, wb, b, .slice none 0 0, 2, 3, 0, width, .slice (some ⟨S, 0, none⟩) 1 2⟩
theorem al_spots (width a wa b wb : Int) (S : Nat) : spotsOut 0 (alL width a wa b wb S) = [sp 0, sp 1, sp 2, spW width S, sp1 width a wa S, sp2 width b wb S] := rfl
def alNames : List ByteArray := [sname 0, sname 1, sname 2, nmWd, nmOne, nmTwo]
def alE (width a wa b wb : Int) : List Plc := [(0, 0 + 0, 8), (1, 0 + 0, 8), (2, 0 + 0, 8), (3, 0 + 0, width), (3, 0 + a, wa), (3, 0 + b, wb)]
theorem al_names (width a wa b wb : Int) (S : Nat) : (spotsOut 0 (alL width a wa b wb S)).map (·.name) = alNames := rfl
theorem al_places (width a wa b wb : Int) (S : Nat) : (spotsOut 0 (alL width a wa b wb S)).map Spot.place = alE width a wa b wb := rfl
theorem al_nodup : alNames.Nodup := by decide +kernel

def alRow (width : Int) (S : Nat) : List Value := sCells 3 ++ [.string nmWd, .int .i64 width, .int .i64 0, alTwo S]
def alSubCells (a wa b wb : Int) : Array Value := #[.string nmOne, .int .i64 wa, .int .i64 a, .slice none 0 0, .string nmTwo, .int .i64 wb, .int .i64 b, .slice none 0 0]

/-- What lies in memory. -/
structure AMem (w : World) (B N S g cap : Nat) (u : SlV) (width a wa b wb : Int) (W : World) : Prop where
  below : Below w.heap.size w W
  m : Cells W B 27 (MV.cells8 { smMV ⟨some ⟨g, 0, none⟩, 4, cap⟩ N with regs := ⟨some ⟨g, 0, none⟩, 4, cap⟩ })
  k : Cells W N 46 #[.string nmG, .slice u.a u.n u.c]
  regs : W.ownsRow w.heap.size 44 4 (.slice (some ⟨g, 0, none⟩) 4 cap) 4 (alRow width S)
  subs : Cells W S 44 (alSubCells a wa b wb)
  names : W.ownsRow w.heap.size 9 1 (.slice u.a u.n u.c) 3 ((sNames 3).map Value.string)
  u0 : Cells W (N + 1 + 1) 48 #[.string ⟨#[103]⟩, .string ⟨#[]⟩, .string ⟨#[103]⟩, .string ⟨#[]⟩]
  u1 : Cells W (N + 1 + 1 + 1) 48 #[.string ⟨#[103]⟩, .string ⟨#[]⟩]
  u2 : Cells W (N + 1 + 1 + 1 + 1) 48 #[.string ⟨#[103]⟩, .string ⟨#[]⟩, .string ⟨#[103]⟩, .string ⟨#[]⟩]
  o : Cells W (N + 1 + 1 + 1 + 1 + 1) 51 (opsCells N)
  a : Cells W (N + 1 + 1 + 1 + 1 + 1 + 1) 9 #[.string nmR]

theorem AMem.of {w W3 W5 W' : World} {B N g cap : Nat} {v u : SlV} {width a wa b wb : Int} (H : SBase w B N 3 v u W3) (hb : Below W3.heap.size W3 W5) (hs : Cells W5 W3.heap.size 44 (alSubCells a wa b wb))
    (hg : W5.grownBy W' (Value.slice v.a v.n v.c).ownBlock) (hk : W'.ownsRow w.heap.size 44 4 (.slice (some ⟨g, 0, none⟩) 4 cap) 4 (alRow width W3.heap.size)) :
    AMem w B N W3.heap.size g cap u width a wa b wb (W'.setCell ⟨B, 1, none⟩ (.slice (some ⟨g, 0, none⟩) 4 cap)) := by
  have H5 := H.step hb
  have K1 : KeepsT 44 W5 W' := KeepsT.of_grown H5.regs hg
  have hm := K1.block _ _ _ (by decide) H5.m
  have K2 := KeepsT.of_set hm 1 (.slice (some ⟨g, 0, none⟩) 4 cap)
  have hB' : Below w.heap.size w W' := H5.below.grown hg H5.below.size (fun b e => (ownsRow_block H5.regs e).1)
  have hs' : Cells W' W3.heap.size 44 (alSubCells a wa b wb) := hs.kept hg (fun e => by
    obtain ⟨_, cur, hcur⟩ := ownsRow_block H.regs e.symm
    exact absurd hcur.lt (Nat.lt_irrefl _))
  exact {
    below := hB'.setCell (p := ⟨B, 1, none⟩) H.hB _
    m := hm.set (j := 1) _
    k := K2.block _ _ _ (by decide) (K1.block _ _ _ (by decide) H5.k)
    regs := K2.row hk (by decide)
    subs := K2.block _ _ _ (by decide) hs'
    names := K2.row (K1.row H5.names (by decide)) (by decide)
    u0 := K2.block _ _ _ (by decide) (K1.block _ _ _ (by decide) H5.u0)
    u1 := K2.block _ _ _ (by decide) (K1.block _ _ _ (by decide) H5.u1)
    u2 := K2.block _ _ _ (by decide) (K1.block _ _ _ (by decide) H5.u2)
    o := K2.block _ _ _ (by decide) (K1.block _ _ _ (by decide) H5.o)
    a := K2.block _ _ _ (by decide) (K1.block _ _ _ (by decide) H5.a) }

theorem AMem.holds {w W V : World} {B N S g cap : Nat} {u : SlV} {width a wa b wb : Int} (H : AMem w B N S g cap u width a wa b wb W) (hb : Below W.heap.size W V) : HoldsAt V.heap.size V g 0 (alL width a wa b wb S) := by
  have hr := ownsRow_below H.regs hb
  have hs := H.subs.below hb H.subs.lt
  have hg : g < V.heap.size := by
    obtain ⟨_, cur, hcur⟩ := ownsRow_block hr rfl
    exact hcur.lt
  have hc : ∀ {j : Nat} {v : Value}, (alRow width S)[j]? = some v → V.cell? ⟨g, j, none⟩ = some v := fun hj => ownsRow_cell hr hj
  exact ⟨hg, ⟨hc rfl, hc rfl, hc rfl, hc rfl⟩, ⟨hg, ⟨hc rfl, hc rfl, hc rfl, hc rfl⟩, ⟨hg, ⟨hc rfl, hc rfl, hc rfl, hc rfl⟩, ⟨hg, ⟨hc rfl, hc rfl, hc rfl, hc rfl⟩, trivial,
    .inr ⟨S, 0, 2, rfl, show 2 ≤ 2 by decide, show 2 ≤ 1000 by decide, ⟨hs.lt, ⟨hs.cell rfl, hs.cell rfl, hs.cell rfl, hs.cell rfl⟩, ⟨hs.lt, ⟨hs.cell rfl, hs.cell rfl, hs.cell rfl, hs.cell rfl⟩, trivial, .inl ⟨rfl, rfl⟩⟩, .inl ⟨rfl, rfl⟩⟩⟩⟩, .inl ⟨rfl, rfl⟩⟩, .inl ⟨rfl, rfl⟩⟩, .inl ⟨rfl, rfl⟩⟩

/-- The numbers of the statement. -/
structure AlNum (width a wa b wb : Int) : Prop where
  w1 : 1 ≤ width
  w2 : width ≤ 64
  a0 : 0 ≤ a
  a1 : a ≤ 64
  wa1 : 1 ≤ wa
  wa2 : wa ≤ 64
  b0 : 0 ≤ b
  b1 : b ≤ 64
  wb1 : 1 ≤ wb
  wb2 : wb ≤ 64

section
variable {w W V : World} {B N S g cap : Nat} {u : SlV} {width a wa b wb : Int}
theorem local_sp (V : World) (i : Nat) (hi : i < 64) : Local V (sp i) :=
  ⟨⟨⟨_, _, _, rfl⟩, _, _, _, rfl⟩, [], lap_none (sname_ok i hi).1 (sname_ok i hi).2 (show (1 : Int) ≤ 6 ∧ (0 : Int) ≤ 0 ∧ (0 : Int) ≤ 500 ∧ (0 : Int) ≤ 0 ∧ (0 : Int) ≤ 64 ∧ (1 : Int) ≤ 8 ∧ (8 : Int) ≤ 64 ∧ (8 : Int) ≤ 1000 ∧ (0 : Int) + 8 ≤ 8 by decide), .inl ⟨rfl, rfl⟩⟩
theorem local_w (V : World) (h : AlNum width a wa b wb) : Local V (spW width S) :=
  ⟨⟨⟨_, _, _, rfl⟩, _, _, _, rfl⟩, [], lap_none nmWd_ok.1 nmWd_ok.2 (show (1 : Int) ≤ 6 ∧ (0 : Int) ≤ 0 ∧ (0 : Int) ≤ 500 ∧ (0 : Int) ≤ 0 ∧ (0 : Int) ≤ 64 ∧ 1 ≤ width ∧ width ≤ 64 ∧ width ≤ 1000 ∧ 0 + width ≤ width by have := h.w1; have := h.w2; omega), .inl ⟨rfl, rfl⟩⟩
theorem local_1 (V : World) (h : AlNum width a wa b wb) (hf : a + wa ≤ width) : Local V (sp1 width a wa S) :=
  ⟨⟨⟨_, _, _, rfl⟩, _, _, _, rfl⟩, [], lap_none nmOne_ok.1 nmOne_ok.2 (show (2 : Int) ≤ 6 ∧ (0 : Int) ≤ 0 ∧ (0 : Int) ≤ 500 ∧ 0 ≤ a ∧ a ≤ 64 ∧ 1 ≤ wa ∧ wa ≤ 64 ∧ width ≤ 1000 ∧ a + wa ≤ width by have := h.w2; exact ⟨by decide, by decide, by decide, h.a0, h.a1, h.wa1, h.wa2, by omega, hf⟩), .inr ⟨S, 0, 2, rfl, fun i r hi => by simp at hi⟩⟩
theorem ahead_2 (H : AMem w B N S g cap u width a wa b wb W) (hb : Below W.heap.size W V) : AheadIs V (.slice (some ⟨S, 0, none⟩) 1 2) [⟨nmOne, wa, a, .slice none 0 0⟩] := by
  have hs := H.subs.below hb H.subs.lt
  refine .inr ⟨S, 0, 2, rfl, fun i r hi => ?_⟩
  match i, hi with
  | 0, hi => cases hi; exact ⟨hs.cell rfl, hs.cell rfl, hs.cell rfl, hs.cell rfl⟩
  | i + 1, hi => simp at hi
theorem local_2 (H : AMem w B N S g cap u width a wa b wb W) (hb : Below W.heap.size W V) (h : AlNum width a wa b wb) (hf : b + wb ≤ width) (hl : ¬ (a < b + wb ∧ b < a + wa)) : Local V (sp2 width b wb S) := by
  refine ⟨⟨⟨_, _, _, rfl⟩, _, _, _, rfl⟩, [⟨nmOne, wa, a, .slice none 0 0⟩], ⟨nmTwo_ok.1, nmTwo_ok.2, show (2 : Int) ≤ 6 by decide, show (0 : Int) ≤ 0 by decide, show (0 : Int) ≤ 500 by decide, h.b0, h.b1, h.wb1, h.wb2, by have := h.w2; show width ≤ 1000; omega, hf, show 1 ≤ 200 by decide, fun r hr => ?_⟩, ahead_2 H hb⟩
  obtain rfl : r = ⟨nmOne, wa, a, .slice none 0 0⟩ := by simpa using hr
  have h1 := h.a0
  have h2 := h.a1
  have h3 := h.wa1
  have h4 := h.wa2
  refine ⟨⟨h1, by dsimp only; omega, h3, by dsimp only; omega⟩, ?_⟩
  show lapB (0 + a) wa (0 + b) wb = false
  unfold lapB
  by_cases hx : 0 + a < 0 + b + wb
  · rw [decide_eq_false (show ¬ 0 + b < 0 + a + wa by omega), Bool.and_false]
  · rw [decide_eq_false hx]; rfl

theorem calm_sp (i : Nat) : Calm (sp i) := by unfold Calm sp; dsimp only; omega
theorem calm_w : Calm (spW width S) := by unfold Calm spW; dsimp only; omega
theorem calm_1 (h : AlNum width a wa b wb) : Calm (sp1 width a wa S) := by have := h.a0; have := h.a1; unfold Calm sp1; dsimp only; omega
end
end Go.Proofs.YtanbjaohmhoohaaGreatDoor
