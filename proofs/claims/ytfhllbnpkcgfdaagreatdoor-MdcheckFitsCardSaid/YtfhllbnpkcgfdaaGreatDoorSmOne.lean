/-
  Small: a machine of n registers is made. And what follows: see the heads within.
-/
import Derived.Test.YtfhllbnpkcgfdaaGreatDoorMdFour
import Derived.IntWalk
import Derived.Deep.RegionLaw
import Derived.BigQuiet
import Derived.Deep.CutBlock
import Derived.Deep.AppendLies
/-! Small: a machine of n registers is made. -/
namespace Go.Proofs.YtfhllbnpkcgfdaaGreatDoor
open Go.RowKit
theorem Tryz.infoRegS : (Tryz.prog.info? 76).map (fun i => (i.zero, i.size, i.bytes)) = some (some (.agg #[.string ⟨#[]⟩, .int .i64 0, .int .i64 0, .slice none 0 0]), 4, 56) := by kernel_rfl
theorem Tryz.infoStrS : (Tryz.prog.info? 9).map (fun i => (i.zero, i.size, i.bytes)) = some (some (.string ⟨#[]⟩), 1, 16) := by kernel_rfl
def digs10 : ByteArray := ⟨#[48, 49, 50, 51, 52, 53, 54, 55, 56, 57]⟩
def sname (k : Nat) : ByteArray := (⟨#[114]⟩ ++ digs10.extract (k / 10) (k / 10 + 1)) ++ digs10.extract (k % 10) (k % 10 + 1)
def sCell (k : Nat) : List Value := [.string (sname k), .int .i64 8, .int .i64 0, .slice none 0 0]
def sCells (k : Nat) : List Value := (List.range k).flatMap sCell
def sNames (k : Nat) : List ByteArray := (List.range k).map sname
theorem sCells_succ (k : Nat) : sCells (k + 1) = sCells k ++ sCell k := by simp [sCells, List.range_succ]
theorem sNames_succ (k : Nat) : sNames (k + 1) = sNames k ++ [sname k] := by simp [sNames, List.range_succ]
/-- At the head of the loop: k registers are made, and named in the class. -/
structure SmInv (w : World) (k : Nat) (v u : SlV) (wr : World) : Prop where
  below : Below w.heap.size w wr
  res : Cells wr w.heap.size 27 #[.string ⟨#[]⟩, .slice none 0 0, .slice none 0 0, .slice none 0 0, .slice none 0 0, .string ⟨#[]⟩, .slice none 0 0, .int .i64 0]
  m : Cells wr (w.heap.size + 1) 27 #[.string ⟨#[109]⟩, .slice v.a v.n v.c, .slice none 0 0, .slice none 0 0, .slice none 0 0, .string ⟨#[]⟩, .slice none 0 0, .int .i64 100]
  c : Cells wr (w.heap.size + 1 + 1) 46 #[.string ⟨#[103]⟩, .slice u.a u.n u.c]
  regs : wr.ownsRow w.heap.size 76 4 (.slice v.a v.n v.c) k (sCells k)
  names : wr.ownsRow w.heap.size 9 1 (.slice u.a u.n u.c) k ((sNames k).map Value.string)
theorem SmInv.step {w : World} {k : Nat} {v u : SlV} {A B : World} (h : SmInv w k v u A) (hb : Below A.heap.size A B) : SmInv w k v u B :=
  ⟨h.below.trans (hb.mono h.below.size), h.res.below hb h.res.lt, h.m.below hb h.m.lt, h.c.below hb h.c.lt, ownsRow_below h.regs hb, ownsRow_below h.names hb⟩
def opO1 : Obj := .cells #[.string ⟨#[103]⟩, .string ⟨#[]⟩] 48
def opO2 : Obj := .cells #[.string ⟨#[103]⟩, .string ⟨#[]⟩, .string ⟨#[103]⟩, .string ⟨#[]⟩] 48
/-- The three operations; the block of the class is N. -/
def opsCells (N : Nat) : Array Value := #[.string ⟨#[97, 100, 100]⟩, .string ⟨#[103]⟩, .string ⟨#[]⟩, .slice (some ⟨N + 1 + 1, 0, none⟩) 2 2, .int .i64 (-1), .slice none 0 0,
  .string ⟨#[110, 111, 116]⟩, .string ⟨#[103]⟩, .string ⟨#[]⟩, .slice (some ⟨N + 1 + 1 + 1, 0, none⟩) 1 1, .int .i64 (-1), .slice none 0 0,
  .string ⟨#[100, 105, 118]⟩, .string ⟨#[103]⟩, .string ⟨#[]⟩, .slice (some ⟨N + 1 + 1 + 1 + 1, 0, none⟩) 2 2, .int .i64 (-1), .slice none 0 0]
def smCells (v : SlV) (ks os av : Value) (res : ByteArray) : Array Value := #[.string ⟨#[109]⟩, .slice v.a v.n v.c, ks, os, av, .string res, .slice none 0 0, .int .i64 100]
def noCells : Array Value := #[.string ⟨#[]⟩, .slice none 0 0, .slice none 0 0, .slice none 0 0, .slice none 0 0, .string ⟨#[]⟩, .slice none 0 0, .int .i64 0]
/-- Behind the class. -/
structure Sm1 (w : World) (k N : Nat) (v u : SlV) (W : World) : Prop where
  below : Below w.heap.size w W
  size : W.heap.size = N + 1
  base : w.heap.size + 1 + 1 < N
  res : Cells W w.heap.size 27 noCells
  m : Cells W (w.heap.size + 1) 27 (smCells v (.slice (some ⟨N, 0, none⟩) 1 1) (.slice none 0 0) (.slice none 0 0) ⟨#[]⟩)
  c : Cells W N 46 #[.string ⟨#[103]⟩, .slice u.a u.n u.c]
  regs : W.ownsRow w.heap.size 76 4 (.slice v.a v.n v.c) k (sCells k)
  names : W.ownsRow w.heap.size 9 1 (.slice u.a u.n u.c) k ((sNames k).map Value.string)
  regsB : ∀ b, (Value.slice v.a v.n v.c).ownBlock = some b → b < N
  namesB : ∀ b, (Value.slice u.a u.n u.c).ownBlock = some b → b < N
/-- Behind the operations. -/
structure Sm2 (w : World) (k N : Nat) (v u : SlV) (W : World) : Prop where
  below : Below w.heap.size w W
  size : W.heap.size = N + 1 + 1 + 1 + 1 + 1 + 1
  base : w.heap.size + 1 + 1 < N
  res : Cells W w.heap.size 27 noCells
  m : Cells W (w.heap.size + 1) 27 (smCells v (.slice (some ⟨N, 0, none⟩) 1 1) (.slice (some ⟨N + 1 + 1 + 1 + 1 + 1, 0, none⟩) 3 3) (.slice none 0 0) ⟨#[]⟩)
  c : Cells W N 46 #[.string ⟨#[103]⟩, .slice u.a u.n u.c]
  regs : W.ownsRow w.heap.size 76 4 (.slice v.a v.n v.c) k (sCells k)
  names : W.ownsRow w.heap.size 9 1 (.slice u.a u.n u.c) k ((sNames k).map Value.string)
  regsB : ∀ b, (Value.slice v.a v.n v.c).ownBlock = some b → b < N
  namesB : ∀ b, (Value.slice u.a u.n u.c).ownBlock = some b → b < N
  u0 : Cells W (N + 1 + 1) 48 #[.string ⟨#[103]⟩, .string ⟨#[]⟩, .string ⟨#[103]⟩, .string ⟨#[]⟩]
  u1 : Cells W (N + 1 + 1 + 1) 48 #[.string ⟨#[103]⟩, .string ⟨#[]⟩]
  u2 : Cells W (N + 1 + 1 + 1 + 1) 48 #[.string ⟨#[103]⟩, .string ⟨#[]⟩, .string ⟨#[103]⟩, .string ⟨#[]⟩]
  o : Cells W (N + 1 + 1 + 1 + 1 + 1) 51 (opsCells N)
def world1 (W : World) (B N : Nat) (u : SlV) : World := (W.setCell ⟨B, 2, none⟩ (.slice (some ⟨N, 0, none⟩) 1 1)).alloc (.cells #[.string ⟨#[103]⟩, .slice u.a u.n u.c] 46)
def world2 (W : World) (B N : Nat) : World := (((((W.alloc opO1).alloc opO2).alloc opO1).alloc opO2).alloc (.cells (opsCells N) 51)).setCell ⟨B, 3, none⟩ (.slice (some ⟨N + 1 + 1 + 1 + 1 + 1, 0, none⟩) 3 3)
theorem SmInv.next {w W : World} {k : Nat} {v u : SlV} (h : SmInv w k v u W) : Sm1 w k W.heap.size v u (world1 W (w.heap.size + 1) W.heap.size u) := by
  have hbs := h.below.size
  have hclt := h.c.lt
  have hk1 := Cells.new (W.setCell ⟨w.heap.size + 1, 2, none⟩ (.slice (some ⟨W.heap.size, 0, none⟩) 1 1)) 46 #[.string ⟨#[103]⟩, .slice u.a u.n u.c]
  rw [World.size_setCell] at hk1
  exact {
    below := (h.below.setCell (p := ⟨w.heap.size + 1, 2, none⟩) (by simp) _).alloc (by simp; omega) _
    size := by unfold world1; simp
    base := hclt
    res := (h.res.other (show w.heap.size ≠ w.heap.size + 1 by omega) (j := 2) _).alloc _
    m := (h.m.set (.slice (some ⟨W.heap.size, 0, none⟩) 1 1) (j := 2)).alloc _
    c := hk1
    regs := (row_set h.m h.regs (by decide) 2 _).alloc _
    names := (row_set h.m h.names (by decide) 2 _).alloc _
    regsB := fun b hb => by
      obtain ⟨_, cur, hc⟩ := ownsRow_block h.regs hb
      exact hc.lt
    namesB := fun b hb => by
      obtain ⟨_, cur, hc⟩ := ownsRow_block h.names hb
      exact hc.lt }
theorem Sm1.next {w W : World} {k N : Nat} {v u : SlV} (h : Sm1 w k N v u W) : Sm2 w k N v u (world2 W (w.heap.size + 1) N) := by
  have hbs := h.below.size
  have hsz := h.size
  have hba := h.base
  have hu0 := Cells.new (W.alloc opO1) 48 #[.string ⟨#[103]⟩, .string ⟨#[]⟩, .string ⟨#[103]⟩, .string ⟨#[]⟩]
  rw [World.size_alloc, hsz] at hu0
  have hu1 := Cells.new ((W.alloc opO1).alloc opO2) 48 #[.string ⟨#[103]⟩, .string ⟨#[]⟩]
  rw [World.size_alloc, World.size_alloc, hsz] at hu1
  have hu2 := Cells.new (((W.alloc opO1).alloc opO2).alloc opO1) 48 #[.string ⟨#[103]⟩, .string ⟨#[]⟩, .string ⟨#[103]⟩, .string ⟨#[]⟩]
  rw [World.size_alloc, World.size_alloc, World.size_alloc, hsz] at hu2
  have ho := Cells.new ((((W.alloc opO1).alloc opO2).alloc opO1).alloc opO2) 51 (opsCells N)
  rw [World.size_alloc, World.size_alloc, World.size_alloc, World.size_alloc, hsz] at ho
  have hm5 := ((((h.m.alloc opO1).alloc opO2).alloc opO1).alloc opO2).alloc (.cells (opsCells N) 51)
  exact {
    below := (((((h.below.alloc hbs _).alloc (by simp; omega) _).alloc (by simp; omega) _).alloc (by simp; omega) _).alloc (by simp; omega) _).setCell (p := ⟨w.heap.size + 1, 3, none⟩) (by simp) _
    size := by unfold world2; simp [hsz]
    base := hba
    res := (((((h.res.alloc _).alloc _).alloc _).alloc _).alloc _).other (by omega) _
    m := hm5.set _ (j := 3)
    c := (((((h.c.alloc _).alloc _).alloc _).alloc _).alloc _).other (by omega) _
    regs := row_set hm5 (((((h.regs.alloc _).alloc _).alloc _).alloc _).alloc _) (by decide) 3 _
    names := row_set hm5 (((((h.names.alloc _).alloc _).alloc _).alloc _).alloc _) (by decide) 3 _
    regsB := h.regsB
    namesB := h.namesB
    u0 := (((hu0.alloc _).alloc _).alloc _).other (by omega) _
    u1 := ((hu1.alloc _).alloc _).other (by omega) _
    u2 := (hu2.alloc _).other (by omega) _
    o := ho.other (by omega) _ }
/-- Behind the arguments and the result. -/
structure Sm3 (w : World) (k N : Nat) (v u : SlV) (W : World) : Prop where
  below : Below w.heap.size w W
  size : W.heap.size = N + 1 + 1 + 1 + 1 + 1 + 1 + 1
  base : w.heap.size + 1 + 1 < N
  res : Cells W w.heap.size 27 noCells
  m : Cells W (w.heap.size + 1) 27 (smCells v (.slice (some ⟨N, 0, none⟩) 1 1) (.slice (some ⟨N + 1 + 1 + 1 + 1 + 1, 0, none⟩) 3 3) (.slice (some ⟨N + 1 + 1 + 1 + 1 + 1 + 1, 0, none⟩) 1 1) ⟨#[114, 48, 48]⟩)
  c : Cells W N 46 #[.string ⟨#[103]⟩, .slice u.a u.n u.c]
  regs : W.ownsRow w.heap.size 76 4 (.slice v.a v.n v.c) k (sCells k)
  names : W.ownsRow w.heap.size 9 1 (.slice u.a u.n u.c) k ((sNames k).map Value.string)
  regsB : ∀ b, (Value.slice v.a v.n v.c).ownBlock = some b → b < N
  namesB : ∀ b, (Value.slice u.a u.n u.c).ownBlock = some b → b < N
  u0 : Cells W (N + 1 + 1) 48 #[.string ⟨#[103]⟩, .string ⟨#[]⟩, .string ⟨#[103]⟩, .string ⟨#[]⟩]
  u1 : Cells W (N + 1 + 1 + 1) 48 #[.string ⟨#[103]⟩, .string ⟨#[]⟩]
  u2 : Cells W (N + 1 + 1 + 1 + 1) 48 #[.string ⟨#[103]⟩, .string ⟨#[]⟩, .string ⟨#[103]⟩, .string ⟨#[]⟩]
  o : Cells W (N + 1 + 1 + 1 + 1 + 1) 51 (opsCells N)
  a : Cells W (N + 1 + 1 + 1 + 1 + 1 + 1) 9 #[.string ⟨#[114, 48, 48]⟩]
def world3 (W : World) (B N : Nat) : World := ((W.alloc (.cells #[.string ⟨#[114, 48, 48]⟩] 9)).setCell ⟨B, 4, none⟩ (.slice (some ⟨N + 1 + 1 + 1 + 1 + 1 + 1, 0, none⟩) 1 1)).setCell ⟨B, 5, none⟩ (.string ⟨#[114, 48, 48]⟩)
theorem Sm2.next {w W : World} {k N : Nat} {v u : SlV} (h : Sm2 w k N v u W) : Sm3 w k N v u (world3 W (w.heap.size + 1) N) := by
  have hbs := h.below.size
  have hsz := h.size
  have hba := h.base
  have ha := Cells.new W 9 #[.string ⟨#[114, 48, 48]⟩]
  rw [hsz] at ha
  have hm1 := h.m.alloc (.cells #[.string ⟨#[114, 48, 48]⟩] 9)
  have hm2 := hm1.set (.slice (some ⟨N + 1 + 1 + 1 + 1 + 1 + 1, 0, none⟩) 1 1) (j := 4)
  exact {
    below := ((h.below.alloc hbs _).setCell (p := ⟨w.heap.size + 1, 4, none⟩) (by simp) _).setCell (p := ⟨w.heap.size + 1, 5, none⟩) (by simp) _
    size := by unfold world3; simp [hsz]
    base := hba
    res := ((h.res.alloc _).other (by omega) _).other (by omega) _
    m := hm2.set _ (j := 5)
    c := ((h.c.alloc _).other (by omega) _).other (by omega) _
    regs := row_set hm2 (row_set hm1 (h.regs.alloc _) (by decide) 4 _) (by decide) 5 _
    names := row_set hm2 (row_set hm1 (h.names.alloc _) (by decide) 4 _) (by decide) 5 _
    regsB := h.regsB
    namesB := h.namesB
    u0 := ((h.u0.alloc _).other (by omega) _).other (by omega) _
    u1 := ((h.u1.alloc _).other (by omega) _).other (by omega) _
    u2 := ((h.u2.alloc _).other (by omega) _).other (by omega) _
    o := ((h.o.alloc _).other (by omega) _).other (by omega) _
    a := (ha.other (by omega) _).other (by omega) _ }
/-- The machine as it is answered. -/
def smMV (v : SlV) (N : Nat) : MV := ⟨⟨#[109]⟩, v, ⟨some ⟨N, 0, none⟩, 1, 1⟩, ⟨some ⟨N + 1 + 1 + 1 + 1 + 1, 0, none⟩, 3, 3⟩, ⟨some ⟨N + 1 + 1 + 1 + 1 + 1 + 1, 0, none⟩, 1, 1⟩, ⟨#[114, 48, 48]⟩, ⟨none, 0, 0⟩, 100⟩
/-- What Small has made. -/
structure SmallAt (w : World) (k N : Nat) (v u : SlV) (W : World) : Prop where
  below : Below w.heap.size w W
  size : W.heap.size = N + 1 + 1 + 1 + 1 + 1 + 1 + 1
  base : w.heap.size + 1 + 1 < N
  c : Cells W N 46 #[.string ⟨#[103]⟩, .slice u.a u.n u.c]
  regs : W.ownsRow w.heap.size 76 4 (.slice v.a v.n v.c) k (sCells k)
  names : W.ownsRow w.heap.size 9 1 (.slice u.a u.n u.c) k ((sNames k).map Value.string)
  regsB : ∀ b, (Value.slice v.a v.n v.c).ownBlock = some b → b < N
  namesB : ∀ b, (Value.slice u.a u.n u.c).ownBlock = some b → b < N
  u0 : Cells W (N + 1 + 1) 48 #[.string ⟨#[103]⟩, .string ⟨#[]⟩, .string ⟨#[103]⟩, .string ⟨#[]⟩]
  u1 : Cells W (N + 1 + 1 + 1) 48 #[.string ⟨#[103]⟩, .string ⟨#[]⟩]
  u2 : Cells W (N + 1 + 1 + 1 + 1) 48 #[.string ⟨#[103]⟩, .string ⟨#[]⟩, .string ⟨#[103]⟩, .string ⟨#[]⟩]
  o : Cells W (N + 1 + 1 + 1 + 1 + 1) 51 (opsCells N)
  a : Cells W (N + 1 + 1 + 1 + 1 + 1 + 1) 9 #[.string ⟨#[114, 48, 48]⟩]
def SmallPost (w : World) (k : Nat) (e : Ending) (W : World) : Prop := ∃ (N : Nat) (v u : SlV), e = .returned (smMV v N).val ∧ SmallAt w k N v u W
def world4 (W : World) (B N : Nat) (v : SlV) : World :=
  (((((((W.setCell ⟨B, 0, none⟩ (.string ⟨#[109]⟩)).setCell ⟨B, 1, none⟩ (.slice v.a v.n v.c)).setCell ⟨B, 2, none⟩ (.slice (some ⟨N, 0, none⟩) 1 1)).setCell ⟨B, 3, none⟩ (.slice (some ⟨N + 1 + 1 + 1 + 1 + 1, 0, none⟩) 3 3)).setCell ⟨B, 4, none⟩ (.slice (some ⟨N + 1 + 1 + 1 + 1 + 1 + 1, 0, none⟩) 1 1)).setCell ⟨B, 5, none⟩ (.string ⟨#[114, 48, 48]⟩)).setCell ⟨B, 6, none⟩ (.slice none 0 0)).setCell ⟨B, 7, none⟩ (.int .i64 100)
theorem Sm3.next {w W : World} {k N : Nat} {v u : SlV} (h : Sm3 w k N v u W) : SmallAt w k N v u (world4 W w.heap.size N v) ∧ Cells (world4 W w.heap.size N v) w.heap.size 27 (smCells v (.slice (some ⟨N, 0, none⟩) 1 1) (.slice (some ⟨N + 1 + 1 + 1 + 1 + 1, 0, none⟩) 3 3) (.slice (some ⟨N + 1 + 1 + 1 + 1 + 1 + 1, 0, none⟩) 1 1) ⟨#[114, 48, 48]⟩) := by
  have hba := h.base
  have hkb : KeptBut w.heap.size W (world4 W w.heap.size N v) := (((((((KeptBut.set (fun _ _ _ => rfl)).set).set).set).set).set).set).set
  have hk : ∀ {b : Nat} {t : TypeId} {cs : Array Value}, Cells W b t cs → b ≠ w.heap.size → Cells (world4 W w.heap.size N v) b t cs := fun hc hne => (hkb _ hc.lt hne).trans hc
  refine ⟨{
    below := (((((((h.below.setCell (p := ⟨w.heap.size, 0, none⟩) (by simp) _).setCell (p := ⟨w.heap.size, 1, none⟩) (by simp) _).setCell (p := ⟨w.heap.size, 2, none⟩) (by simp) _).setCell (p := ⟨w.heap.size, 3, none⟩) (by simp) _).setCell (p := ⟨w.heap.size, 4, none⟩) (by simp) _).setCell (p := ⟨w.heap.size, 5, none⟩) (by simp) _).setCell (p := ⟨w.heap.size, 6, none⟩) (by simp) _).setCell (p := ⟨w.heap.size, 7, none⟩) (by simp) _
    size := by unfold world4; simp [h.size]
    base := hba
    c := hk h.c (by omega)
    regs := hkb.row h.res h.regs (by decide)
    names := hkb.row h.res h.names (by decide)
    regsB := h.regsB
    namesB := h.namesB
    u0 := hk h.u0 (by omega)
    u1 := hk h.u1 (by omega)
    u2 := hk h.u2 (by omega)
    o := hk h.o (by omega)
    a := hk h.a (by omega) }, ?_⟩
  exact (((((((h.res.set (.string ⟨#[109]⟩) (j := 0)).set (.slice v.a v.n v.c) (j := 1)).set (.slice (some ⟨N, 0, none⟩) 1 1) (j := 2)).set (.slice (some ⟨N + 1 + 1 + 1 + 1 + 1, 0, none⟩) 3 3) (j := 3)).set (.slice (some ⟨N + 1 + 1 + 1 + 1 + 1 + 1, 0, none⟩) 1 1) (j := 4)).set (.string ⟨#[114, 48, 48]⟩) (j := 5)).set (.slice none 0 0) (j := 6)).set (.int .i64 100) (j := 7)
set_option maxRecDepth 100000 in
set_option maxHeartbeats 8000000 in
theorem small_any (n : Nat) (w : World) (hn : n ≤ 100) :
    Calls Tryz.prog 15 #[.int .i64 n] w (SmallPost w n) := by
  obtain ⟨i0, hi, hz0, hz1, hz2⟩ := info_parts Tryz.infoRegS
  obtain ⟨j0, hj, hj0, hj1, hj2⟩ := info_parts Tryz.infoStrS
  go_enter Tryz.func15, Tryz.ntmps15
  go_wp2_with fail
  go_loopw [5] (fun i wr => ∃ (k : Nat) (v u : SlV), i = .int .i64 k ∧ k ≤ n ∧ SmInv w k v u wr) (fun i _ => n - (intOf i).toNat)
  case atStart =>
    refine ⟨0, ⟨none, 0, 0⟩, ⟨none, 0, 0⟩, rfl, Nat.zero_le _, ?_⟩
    exact {
      below := (((Below.refl _ _).alloc (Nat.le_refl _) _).alloc (by simp) _).alloc (by simp; omega) _
      res := ((Cells.new _ _ _).alloc _).alloc _
      m := by
        have := (Cells.new (w.alloc (.cells #[.string ⟨#[]⟩, .slice none 0 0, .slice none 0 0, .slice none 0 0, .slice none 0 0, .string ⟨#[]⟩, .slice none 0 0, .int .i64 0] 27)) 27 #[.string ⟨#[109]⟩, .slice none 0 0, .slice none 0 0, .slice none 0 0, .slice none 0 0, .string ⟨#[]⟩, .slice none 0 0, .int .i64 100]).alloc (.cells #[.string ⟨#[103]⟩, .slice none 0 0] 46)
        rw [World.size_alloc] at this; exact this
      c := by
        have := Cells.new ((w.alloc (.cells #[.string ⟨#[]⟩, .slice none 0 0, .slice none 0 0, .slice none 0 0, .slice none 0 0, .string ⟨#[]⟩, .slice none 0 0, .int .i64 0] 27)).alloc (.cells #[.string ⟨#[109]⟩, .slice none 0 0, .slice none 0 0, .slice none 0 0, .slice none 0 0, .string ⟨#[]⟩, .slice none 0 0, .int .i64 100] 27)) 46 #[.string ⟨#[103]⟩, .slice none 0 0]
        rw [World.size_alloc, World.size_alloc] at this; exact this
      regs := World.ownsRow_nil _ _ _ _
      names := World.ownsRow_nil _ _ _ _ }
  case round =>
    obtain ⟨k, v, u, rfl, hk, inv⟩ := hrel
    have k0 : (0 : Int) ≤ k := Int.natCast_nonneg _
    by_cases hlt : k < n
    · have k1 : (k : Int) < n := by omega
      obtain ⟨d1, hd1⟩ : ∃ d, d = k / 10 := ⟨_, rfl⟩
      obtain ⟨d2, hd2⟩ : ∃ d, d = k % 10 := ⟨_, rfl⟩
      have q1 : IntKind.i64.wrap ((k : Int) / 10) = d1 := by rw [IntWalk.i64_in _ (by omega)]; omega
      have m2 : (k : Int).tmod 10 = d2 := by rw [IntWalk.rem_in _ _ (by omega)]; omega
      have s1 : IntKind.i64.wrap ((d1 : Int) + 1) = d1 + 1 := IntWalk.i64_in _ (by omega)
      have s2 : IntKind.i64.wrap ((d2 : Int) + 1) = d2 + 1 := IntWalk.i64_in _ (by omega)
      have n1 : (0 : Int) ≤ (d1 : Int) := Int.natCast_nonneg _
      have n2 : (0 : Int) ≤ (d2 : Int) := Int.natCast_nonneg _
      have u1 : (d1 : Int) + 1 ≤ 10 := by omega
      have u2 : (d2 : Int) + 1 ≤ 10 := by omega
      have p1 : (d1 : Int) ≤ (d1 : Int) + 1 := by omega
      have p2 : (d2 : Int) ≤ (d2 : Int) + 1 := by omega
      have z1 : (0 : Int) ≤ (d1 : Int) + 1 := by omega
      have z2 : (0 : Int) ≤ (d2 : Int) + 1 := by omega
      have t1 : ((d1 : Int) + 1).toNat = d1 + 1 := by omega
      have t2 : ((d2 : Int) + 1).toNat = d2 + 1 := by omega
      have hcat1 : ¬ 9223372036854775807 < 1 + (min (d1 + 1) 10 - d1) := by omega
      have hcat2 : ¬ 9223372036854775807 < 1 + (min (d1 + 1) 10 - d1) + (min (d2 + 1) 10 - d2) := by omega
      have hname : Hid (sname k = ((⟨#[114]⟩ : ByteArray) ++ (⟨#[48, 49, 50, 51, 52, 53, 54, 55, 56, 57]⟩ : ByteArray).extract d1 (d1 + 1)) ++ (⟨#[48, 49, 50, 51, 52, 53, 54, 55, 56, 57]⟩ : ByteArray).extract d2 (d2 + 1)) := Lib.hid (by subst hd1 hd2; rfl)
      replace hd1 := Lib.hid hd1
      replace hd2 := Lib.hid hd2
      have inv2 := Lib.hid inv
      clear inv
      go_wp2_with fail
      go_quiet (fail)
      have inv3 := inv2.out.step (below_drewN (Below.refl _ _) nq)
      generalize wr.drewN nq = wq at inv3
      rw [← hname.out]
      have hbs := inv3.below.size
      have c1 := inv3.m.cell (j := 1) (v := .slice v.a v.n v.c) rfl
      have hnr := inv3.m.not_row (by decide) inv3.regs
      clear inv2 q1 m2 s1 s2 n1 n2 u1 u2 p1 p2 z1 z2 t1 t2 hcat1 hcat2 hname hd1 hd2
      have hk1 : IntKind.i64.wrap ((k : Int) + 1) = k + 1 := IntWalk.i64_in _ (by omega)
      have hnl : (sNames k).length = k := by simp [sNames]
      go_wp2_with (first
        | (at_builtin; refine wpList_append_own_at _ rfl _ _ 22 rfl w.heap.size 76 i0 _ 4 56 Tryz.underlying22 hi hz0 hz1 hz2 rfl (by decide) _ k (sCells k) rfl (inv3.regs.alloc _) ⟨wq.heap.size, 0, none⟩ 1 1 (sCell k) rfl rfl (new_cells _ _ _ _ rfl) (by simp [Value.oneCell', sCell]) (by unfold maxLen; omega) (by omega) (by simp; omega) ?_; intro v' W7 hown7 hgrow _ hblk; obtain ⟨g', cap', rfl⟩ := ownsRow_succ hown7; have hT7 := (inv3.m.alloc (.cells #[.string (sname k), .int .i64 8, .int .i64 0, .slice none 0 0] 76)).kept hgrow hnr; have f7 := hT7.frozen 1; have c7 := hT7.cell (j := 1) (v := .slice v.a v.n v.c) rfl; have hG := append_step (v := .slice v.a v.n v.c) inv3.m (j := 1) rfl (by decide) (by omega) (Below.refl _ _) inv3.regs hown7 hgrow hblk; have hC8 := hG.block _ _ _ inv3.c (by omega) (by decide); have c8 := hC8.cell (j := 1) (v := .slice u.a u.n u.c) rfl; have hn8 := hG.rows _ _ _ _ _ inv3.names (by decide) (by decide); have hR8 := hG.block _ _ _ inv3.res (by omega) (by decide); have hnr8 := hC8.not_row (by decide) hn8; have hs8 := hG.below.size; rw [World.size_setCell] at hs8)
        | (at_builtin; go_loud (refine wpList_append_own_at _ rfl _ _ 25 rfl w.heap.size 9 j0 _ 1 16 Tryz.underlying25 hj hj0 hj1 hj2 rfl (by decide) _ k ((sNames k).map Value.string) rfl (hn8.alloc _) ⟨W7.heap.size, 0, none⟩ 1 1 [.string (sname k)] rfl rfl (by have hnc := new_cells (W7.setCell ⟨w.heap.size + 1, 1, none⟩ (.slice (some ⟨g', 0, none⟩) (k + 1) cap')) #[.string (sname k)] 9 [.string (sname k)] rfl; rw [World.size_setCell] at hnc; exact hnc) (by simp [Value.oneCell']) (by unfold maxLen; omega) (by omega) (by simp; omega) ?_; intro v2 W9 hown9 hgrow9 _ hblk9; obtain ⟨g2, cap2, rfl⟩ := ownsRow_succ hown9; have hT9 := (hC8.alloc (.cells #[.string (sname k)] 9)).kept hgrow9 hnr8; have f9 := hT9.frozen 1; have c9 := hT9.cell (j := 1) (v := .slice u.a u.n u.c) rfl; have hG2 := append_step (v := .slice u.a u.n u.c) hC8 (j := 1) rfl (by decide) (by omega) (Below.refl _ _) hn8 hown9 hgrow9 hblk9)))
      refine ⟨⟨k + 1, ⟨some ⟨g', 0, none⟩, k + 1, cap'⟩, ⟨some ⟨g2, 0, none⟩, k + 1, cap2⟩, by go_num, by omega, ?_⟩, by simp [intOf]; omega⟩
      exact {
        below := inv3.below.trans ((hG.below.trans hG2.below).mono (Nat.le_refl _))
        res := hG2.block _ _ _ hR8 (by omega) (by decide)
        m := hG2.block _ _ _ hG.cells (by omega) (by decide)
        c := hG2.cells
        regs := by
          rw [sCells_succ]
          exact hG2.rows _ _ _ _ _ hG.row (by decide) (by decide)
        names := by
          rw [sNames_succ, List.map_append]
          exact hG2.row }
    · obtain rfl : k = n := by omega
      have hbs := inv.below.size
      have hclt := inv.c.lt
      have hmlt := inv.m.lt
      have f2 := inv.m.frozen 2
      have r2 := inv.m.cell (j := 2) (v := .slice none 0 0) rfl
      have c0 := inv.c.cell (j := 0) (v := .string ⟨#[103]⟩) rfl
      have c1 := inv.c.cell (j := 1) (v := .slice u.a u.n u.c) rfl
      have h1 := inv.next
      clear inv
      replace h1 := Lib.hid h1
      go_upto_region 10 with (fail)
      change Code.wp _ _ _ _ (world1 wr (w.heap.size + 1) wr.heap.size u)
      clear f2 r2 c0 c1 hclt hmlt hbs hi hj hz0 hz2 hj0 hj1 hj2
      generalize wr.heap.size = N at h1 ⊢
      generalize world1 wr (w.heap.size + 1) N u = W1 at h1 ⊢
      have f3 := fun o1 o2 o3 o4 o5 => (((((h1.out.m.alloc o1).alloc o2).alloc o3).alloc o4).alloc o5).frozen 3
      have r3 := fun o1 o2 o3 o4 o5 => (((((h1.out.m.alloc o1).alloc o2).alloc o3).alloc o4).alloc o5).cell (j := 3) (v := .slice none 0 0) rfl
      go_upto_region 12 with (fail)
      rw [h1.out.size]
      change Code.wp _ _ _ _ (world2 W1 (w.heap.size + 1) N)
      have h2 := Lib.hid h1.out.next
      clear h1 f3 r3
      generalize world2 W1 (w.heap.size + 1) N = W2 at h2 ⊢
      have f4 := fun o => (h2.out.m.alloc o).frozen 4
      have r4 := fun o => (h2.out.m.alloc o).cell (j := 4) (v := .slice none 0 0) rfl
      have f5 := fun o v => ((h2.out.m.alloc o).set v (j := 4)).frozen 5
      have r5 := fun o v => ((h2.out.m.alloc o).set v (j := 4)).cell (j := 5) (v := .string ⟨#[]⟩) rfl
      go_upto_region 14 with (fail)
      rw [h2.out.size]
      change Code.wp _ _ _ _ (world3 W2 (w.heap.size + 1) N)
      have h3 := Lib.hid h2.out.next
      clear h2 f4 r4 f5 r5
      generalize world3 W2 (w.heap.size + 1) N = W3 at h3 ⊢
      have m0 := h3.out.m.cell (j := 0) (v := .string ⟨#[109]⟩) rfl
      have m1 := h3.out.m.cell (j := 1) (v := .slice v.a v.n v.c) rfl
      have m2 := h3.out.m.cell (j := 2) (v := .slice (some ⟨N, 0, none⟩) 1 1) rfl
      have m3 := h3.out.m.cell (j := 3) (v := .slice (some ⟨N + 1 + 1 + 1 + 1 + 1, 0, none⟩) 3 3) rfl
      have m4 := h3.out.m.cell (j := 4) (v := .slice (some ⟨N + 1 + 1 + 1 + 1 + 1 + 1, 0, none⟩) 1 1) rfl
      have m5 := h3.out.m.cell (j := 5) (v := .string ⟨#[114, 48, 48]⟩) rfl
      have m6 := h3.out.m.cell (j := 6) (v := .slice none 0 0) rfl
      have m7 := h3.out.m.cell (j := 7) (v := .int .i64 100) rfl
      have e0 := h3.out.res.cell (j := 0) (v := .string ⟨#[]⟩) rfl
      have e1 := h3.out.res.cell (j := 1) (v := .slice none 0 0) rfl
      have e2 := h3.out.res.cell (j := 2) (v := .slice none 0 0) rfl
      have e3 := h3.out.res.cell (j := 3) (v := .slice none 0 0) rfl
      have e4 := h3.out.res.cell (j := 4) (v := .slice none 0 0) rfl
      have e5 := h3.out.res.cell (j := 5) (v := .string ⟨#[]⟩) rfl
      have e6 := h3.out.res.cell (j := 6) (v := .slice none 0 0) rfl
      have e7 := h3.out.res.cell (j := 7) (v := .int .i64 0) rfl
      have g0 := h3.out.res.frozen 0
      have g1 := h3.out.res.frozen 1
      have g2 := h3.out.res.frozen 2
      have g3 := h3.out.res.frozen 3
      have g4 := h3.out.res.frozen 4
      have g5 := h3.out.res.frozen 5
      have g6 := h3.out.res.frozen 6
      have g7 := h3.out.res.frozen 7
      go_wp2_with fail
      change bodyPost _ _ _ _ _ (world4 W3 w.heap.size N v)
      obtain ⟨h4, hr4⟩ := h3.out.next
      generalize world4 W3 w.heap.size N v = W4 at h4 hr4 ⊢
      have z0 := hr4.cell (j := 0) (v := .string ⟨#[109]⟩) rfl
      have z1 := hr4.cell (j := 1) (v := .slice v.a v.n v.c) rfl
      have z2 := hr4.cell (j := 2) (v := .slice (some ⟨N, 0, none⟩) 1 1) rfl
      have z3 := hr4.cell (j := 3) (v := .slice (some ⟨N + 1 + 1 + 1 + 1 + 1, 0, none⟩) 3 3) rfl
      have z4 := hr4.cell (j := 4) (v := .slice (some ⟨N + 1 + 1 + 1 + 1 + 1 + 1, 0, none⟩) 1 1) rfl
      have z5 := hr4.cell (j := 5) (v := .string ⟨#[114, 48, 48]⟩) rfl
      have z6 := hr4.cell (j := 6) (v := .slice none 0 0) rfl
      have z7 := hr4.cell (j := 7) (v := .int .i64 100) rfl
      exact bodyPost_ret (v := (smMV v N).val) (by simp [results, Tryz.results15, go_sem, smMV, MV.val, z0, z1, z2, z3, z4, z5, z6, z7]) rfl ⟨N, v, u, rfl, h4⟩
end Go.Proofs.YtfhllbnpkcgfdaaGreatDoor
/-! A plain machine's registers and classes as numbers: none of them lap. -/
namespace Go.Proofs.YtfhllbnpkcgfdaaGreatDoor
open Go.RowKit
/-- n registers of 8 bits, each a root of its own. -/
def smL : Nat → Nat → RegL
  | 0, _ => .nil
  | m + 1, i => .cons (sname i) 8 0 (.slice none 0 0) .nil (smL m (i + 1))
def plN (n : Nat) : List Plc := (List.range n).map fun (j : Nat) => ((j : Int), (0 : Int), (8 : Int))
def nums (n : Nat) : List Int := (List.range n).map fun (j : Nat) => (j : Int)
theorem smL_length : ∀ m i, (smL m i).length = m
  | 0, _ => rfl
  | m + 1, i => by simp [smL, RegL.length, smL_length m (i + 1)]
theorem smL_height : ∀ m i, (smL m i).height ≤ 1
  | 0, _ => Nat.zero_le _
  | m + 1, i => by have := smL_height m (i + 1); simp only [smL, RegL.height]; omega
theorem smL_small : ∀ m i, (smL m i).small
  | 0, _ => trivial
  | m + 1, i => ⟨by decide, trivial, smL_small m (i + 1)⟩
theorem smL_spots : ∀ m i, (spotsOut i (smL m i)).map (·.name) = (List.range' i m).map sname ∧ (spotsOut i (smL m i)).map Spot.place = (List.range' i m).map (fun (j : Nat) => ((j : Int), (0 : Int), (8 : Int)))
  | 0, _ => ⟨rfl, rfl⟩
  | m + 1, i => by
    obtain ⟨h1, h2⟩ := smL_spots m (i + 1)
    simp only [smL, spotsOut, spotsIn, List.map_append, List.map_cons, List.map_nil, List.range'_succ]
    rw [h1, h2]
    exact ⟨rfl, rfl⟩
theorem smL_names (n : Nat) : (spotsOut 0 (smL n 0)).map (·.name) = sNames n := by rw [(smL_spots n 0).1, ← List.range_eq_range']; rfl
theorem smL_places (n : Nat) : (spotsOut 0 (smL n 0)).map Spot.place = plN n := by rw [(smL_spots n 0).2, ← List.range_eq_range']; rfl
theorem smL_len (n : Nat) : (spotsOut 0 (smL n 0)).length = n := by
  have := congrArg List.length (smL_names n)
  simpa [sNames] using this
theorem sname_ok : ∀ k, k < 64 → IsName (sname k) ∧ NotWord (sname k) := by
  have h : ∀ k : Fin 64, decide (0 < (sname k).size ∧ (sname k).size ≤ 20) = true ∧ letterB ((sname k).data.toList.headD 0).toNat = true ∧ ((sname k).data.toList.all fun c => inNameB c.toNat) = true ∧ (words.all fun x => !((sname k).toList == x)) = true := by decide +kernel
  intro k hk
  obtain ⟨a, b, c, d⟩ := h ⟨k, hk⟩
  exact ⟨isName_of a b c, notWord_of d⟩
theorem sNames_nodup (n : Nat) (hn : n ≤ 64) : (sNames n).Nodup := by
  have h : (sNames 64).Nodup := by decide +kernel
  refine List.Sublist.nodup ?_ h
  refine List.Sublist.map _ ?_
  have : List.range n = (List.range 64).take n := by rw [List.take_range, Nat.min_eq_left hn]
  rw [this]; exact List.take_sublist _ _
theorem sNames_length (n : Nat) : (sNames n).length = n := by simp [sNames]
theorem sNames_get {n i : Nat} (h : i < n) : (sNames n)[i]? = some (sname i) := by simp [sNames, h]
theorem smL_sound (n : Nat) (hn : n ≤ 64) : ∀ m i, i + m ≤ n → SoundOut (smL m i)
  | 0, _, _ => trivial
  | m + 1, i, h => by
    obtain ⟨hN, hW⟩ := sname_ok i (by omega)
    exact ⟨lap_none hN hW (by decide), trivial, smL_sound n hn m (i + 1) (by omega)⟩
theorem regN_sname {n i : Nat} (hn : n ≤ 64) (h : i < n) : regN (sNames n) (sname i) = i := by
  refine idxP_hit (a := sname i) (fun j hj b hb => ?_) (sNames_get h) (decide_eq_true rfl)
  rw [sNames_get (by omega)] at hb
  obtain rfl : sname j = b := by simpa using hb
  refine decide_eq_false fun e => ?_
  have hnd := sNames_nodup n hn
  have hjl : j < (sNames n).length := by rw [sNames_length]; omega
  have hil : i < (sNames n).length := by rw [sNames_length]; exact h
  have hne := List.pairwise_iff_getElem.1 hnd j i hjl hil hj
  have h1 : (sNames n)[j] = sname j := by
    have := sNames_get (n := n) (i := j) (by omega)
    rw [List.getElem?_eq_getElem hjl] at this; exact Option.some.inj this
  have h2 : (sNames n)[i] = sname i := by
    have := sNames_get (n := n) (i := i) h
    rw [List.getElem?_eq_getElem hil] at this; exact Option.some.inj this
  rw [h1, h2] at hne
  exact hne e
theorem regsL_names {n c : Nat} (hn : n ≤ 64) (h : c ≤ n) : regsL (sNames n) (sNames c) = nums c := by
  unfold regsL nums
  show ((List.range c).map sname).map (regN (sNames n)) = _
  rw [List.map_map]
  refine List.map_congr_left fun j hj => ?_
  exact regN_sname hn (Nat.lt_of_lt_of_le (List.mem_range.1 hj) h)
theorem regN_miss {n : Nat} (hn : n ≤ 64) {s : ByteArray} (h : ∀ k : Fin 64, sname k ≠ s) : regN (sNames n) s = -1 := by
  refine idxP_miss fun j b hb => ?_
  have hj : j < n := by have := (List.getElem?_eq_some_iff.1 hb).1; rwa [sNames_length] at this
  rw [sNames_get hj] at hb
  obtain rfl : sname j = b := by simpa using hb
  exact decide_eq_false (h ⟨j, by omega⟩)
/-- Numbers of registers. -/
def InN (n : Nat) (l : List Int) : Prop := ∀ x, x ∈ l → 0 ≤ x ∧ x < n
theorem nums_in {n c : Nat} (h : c ≤ n) : InN n (nums c) := fun x hx => by
  obtain ⟨j, hj, rfl⟩ := List.mem_map.1 hx
  have := List.mem_range.1 hj
  omega
theorem plc_at {n : Nat} {x : Int} (h : 0 ≤ x ∧ x < n) : plc (plN n) x = (x, 0, 8) := by
  unfold plc plN
  have hx : x.toNat < n := by omega
  rw [List.getD_eq_getElem?_getD, List.getElem?_map, List.getElem?_range hx]
  show (((x.toNat : Nat) : Int), (0 : Int), (8 : Int)) = _
  rw [Int.toNat_of_nonneg h.1]
theorem lapP_at {n : Nat} {x y : Int} (hx : 0 ≤ x ∧ x < n) (hy : 0 ≤ y ∧ y < n) : lapP (plc (plN n) x) (plc (plN n) y) = decide (x = y) := by
  rw [plc_at hx, plc_at hy]
  unfold lapP
  dsimp only
  have : lapB 0 8 0 8 = true := by decide
  rw [this, Bool.and_true]
theorem lapsOne_at {n : Nat} {x : Int} {l : List Int} (hx : 0 ≤ x ∧ x < n) (hl : InN n l) : lapsOneB (plN n) x l = l.contains x := by
  unfold lapsOneB
  rw [Bool.eq_iff_iff, List.any_eq_true, List.contains_iff_mem]
  constructor
  · rintro ⟨y, hy, h⟩
    rw [lapP_at hx (hl y hy)] at h
    rw [of_decide_eq_true h]; exact hy
  · intro h
    exact ⟨x, h, by rw [lapP_at hx hx]; exact decide_eq_true rfl⟩
theorem apartFrom_pl {n : Nat} : ∀ (l pre : List Int), InN n l → InN n pre → apartFrom (plN n) pre l = !twiceFrom pre l
  | [], _, _, _ => rfl
  | r :: l, pre, hl, hp => by
    have hr := hl r (by simp)
    have ih := apartFrom_pl l (pre ++ [r]) (fun x hx => hl x (by simp [hx])) (fun x hx => by
      rcases List.mem_append.1 hx with h | h
      · exact hp x h
      · obtain rfl : x = r := by simpa using h
        exact hr)
    unfold apartFrom twiceFrom
    rw [lapsOne_at hr hp, ih, Bool.not_or]
theorem twiceFrom_false : ∀ (l pre : List Int), (pre ++ l).Nodup → twiceFrom pre l = false
  | [], _, _ => rfl
  | r :: l, pre, h => by
    unfold twiceFrom
    rw [twiceFrom_false l (pre ++ [r]) (by simpa using h), Bool.or_false]
    rw [List.nodup_append] at h
    have : ¬ r ∈ pre := fun hm => h.2.2 r hm r (by simp) rfl
    simpa using this
theorem nums_nodup (n : Nat) : (nums n).Nodup := by
  unfold nums
  refine List.Pairwise.map _ (fun a b hab => ?_) List.nodup_range
  intro e; exact hab (by omega)
theorem twice_nums (n : Nat) : twiceFrom [] (nums n) = false := twiceFrom_false _ _ (by simpa using nums_nodup n)
theorem oneWidth_at {n : Nat} {l : List Int} (hn : 1 ≤ n) (hl : InN n l) : oneWidthB (plN n) l = true := by
  unfold oneWidthB
  have h0 : 0 ≤ l.headD 0 ∧ l.headD 0 < n := by
    cases l with
    | nil => simp; omega
    | cons a r => exact hl a (by simp)
  rw [Bool.not_eq_true', List.any_eq_false]
  intro x hx
  rw [plc_at (hl x hx), plc_at h0]
  simp
end Go.Proofs.YtfhllbnpkcgfdaaGreatDoor
/-! What Check says of a plain machine of n registers, the first operation of which destroys the first c of them. -/
namespace Go.Proofs.YtfhllbnpkcgfdaaGreatDoor
open Go.RowKit
def nmG : ByteArray := ⟨#[103]⟩
def nmR : ByteArray := ⟨#[114, 48, 48]⟩
def opG : OperD := ⟨nmG, ⟨#[]⟩⟩
def clG (n : Nat) : ClassD := ⟨nmG, sNames n⟩
def opAdd (c : Nat) : OpD := ⟨⟨#[97, 100, 100]⟩, opG, [opG, opG], -1, sNames c⟩
def opNot : OpD := ⟨⟨#[110, 111, 116]⟩, opG, [opG], -1, []⟩
def opDiv : OpD := ⟨⟨#[100, 105, 118]⟩, opG, [opG, opG], -1, []⟩
def smD (n c : Nat) : MachD := ⟨⟨#[109]⟩, [clG n], [opAdd c, opNot, opDiv], [nmR], nmR, [], 100⟩
theorem nmR_eq : nmR = sname 0 := by decide +kernel
theorem regN_nmR {n : Nat} (h1 : 1 ≤ n) (hn : n ≤ 64) : regN (sNames n) nmR = 0 := by rw [nmR_eq]; exact regN_sname hn (by omega)
theorem regN_nmG {n : Nat} (hn : n ≤ 64) : regN (sNames n) nmG = -1 := regN_miss hn (by decide +kernel)
theorem nums_no (c : Nat) : (nums c).contains (-1) = false := by
  have : ¬ (-1 : Int) ∈ nums c := fun h => by have := nums_in (n := c) (Nat.le_refl _) _ h; omega
  simpa using this
theorem regsOk_names {n c most : Nat} (hn : n ≤ 64) (h : c ≤ n) (hm : n ≤ most) : regsOk (sNames n) (sNames c) most = true := by
  unfold regsOk
  rw [regsL_names hn h, nums_no, sNames_length, decide_eq_true (by omega)]; rfl
theorem nums_len (n : Nat) : (nums n).length = n := by simp [nums]
theorem nums_ne {n : Nat} (h : 1 ≤ n) : nums n ≠ [] := fun e => by have := nums_len n; rw [e] at this; simp at this; omega
theorem nums_mem {n : Nat} {x : Int} : x ∈ nums n ↔ 0 ≤ x ∧ x < n := by
  refine ⟨fun h => nums_in (Nat.le_refl _) _ h, fun h => ?_⟩
  exact List.mem_map.2 ⟨x.toNat, List.mem_range.2 (by omega), Int.toNat_of_nonneg h.1⟩
theorem clsOf_g {n : Nat} (hn : n ≤ 64) : clsOf (sNames n) [clG n] = [nums n] := by
  show [regsL (sNames n) (sNames n)] = _
  rw [regsL_names hn (Nat.le_refl _)]
theorem choice_g {n : Nat} (hn : n ≤ 64) : choiceS (sNames n) [clG n] opG = nums n := by
  unfold choiceS
  rw [clsOf_g hn]
  have : [clG n].findIdx? (fun x => eqB x.name opG.cls) = some 0 := by
    have : eqB (clG n).name opG.cls = true := decide_eq_true rfl
    simp [List.findIdx?_cons, this]
  have hfx : (opG.fix.toList == []) = true := by decide +kernel
  rw [this]
  dsimp only
  rw [if_pos hfx]; rfl
theorem ar_add : arityN ⟨#[97, 100, 100]⟩ = 2 := by decide +kernel
theorem ar_not : arityN ⟨#[110, 111, 116]⟩ = 1 := by decide +kernel
theorem ar_div : arityN ⟨#[100, 105, 118]⟩ = 2 := by decide +kernel
theorem classFine_g {n : Nat} (h1 : 1 ≤ n) (hn : n ≤ 64) : classFine (sNames n) (plN n) (clG n) = true := by
  unfold classFine
  show (regsOk (sNames n) (sNames n) 64 && !decide (sNames n = []) && !twiceFrom [] (regsL (sNames n) (sNames n)) && oneWidthB (plN n) (regsL (sNames n) (sNames n))) = true
  have hne : sNames n ≠ [] := fun e => by have := sNames_length n; rw [e] at this; simp at this; omega
  rw [regsOk_names hn (Nat.le_refl _) hn, regsL_names hn (Nat.le_refl _), twice_nums, oneWidth_at h1 (nums_in (Nat.le_refl _)), decide_eq_false hne]; rfl
theorem classes_g {n : Nat} (h1 : 1 ≤ n) (hn : n ≤ 64) : classesS (fun _ => true) (sNames n) (plN n) [clG n] = 0 := by
  unfold classesS classesErr classErr
  have e1 : idxP (fun x : ClassD => eqB x.name (clG n).name) [] = -1 := rfl
  have e2 : regN (sNames n) (clG n).name = -1 := regN_nmG hn
  rw [e1, e2, classFine_g h1 hn]
  rfl
theorem opFine_g {n c : Nat} (h1 : 1 ≤ n) (hn : n ≤ 64) (hc : c ≤ n) (o : OpD) (ho : o = opAdd c ∨ o = opNot ∨ o = opDiv) : opFine (sNames n) (plN n) [clG n] o = true := by
  have hcl := choice_g hn
  have hne : decide (nums n = []) = false := decide_eq_false (nums_ne h1)
  have hin : InN n (nums n) := nums_in (Nat.le_refl _)
  have hw : ∀ l : List (List Int), (∀ k, k ∈ l → k = nums n) → oneWidthB (plN n) (nums n ++ l.flatten) = true := fun l hl => oneWidth_at h1 fun x hx => by
    rcases List.mem_append.1 hx with h | h
    · exact hin x h
    · obtain ⟨k, hk, hxk⟩ := List.mem_flatten.1 h
      rw [hl k hk] at hxk; exact hin x hxk
  have hok0 : regsOk (sNames n) [] 64 = true := rfl
  rcases ho with rfl | rfl | rfl
  · unfold opFine
    have e1 : decide ((opAdd c).uses.length = arityN (opAdd c).name) = true := decide_eq_true ar_add.symm
    have e2 : tieFine (opAdd c) = true := rfl
    have e3 : regsOk (sNames n) (opAdd c).clob 64 = true := regsOk_names hn hc hn
    have e4 : twiceFrom [] (regsL (sNames n) (opAdd c).clob) = false := by
      show twiceFrom [] (regsL (sNames n) (sNames c)) = false
      rw [regsL_names hn hc]; exact twice_nums c
    have e5 : ((opAdd c).uses.all fun u => !decide (choiceS (sNames n) [clG n] u = [])) = true := by
      show ([opG, opG].all fun u => !decide (choiceS (sNames n) [clG n] u = [])) = true
      simp only [List.all_cons, List.all_nil, hcl, hne]; rfl
    have e6 : choiceS (sNames n) [clG n] (opAdd c).d = nums n := hcl
    have e7 : (opAdd c).uses.map (choiceS (sNames n) [clG n]) = [nums n, nums n] := by show [choiceS _ _ opG, choiceS _ _ opG] = _; rw [hcl]
    rw [e1, e2, e3, e4, e5, e6, e7, hne, hw _ (by simp)]; rfl
  · unfold opFine
    have e1 : decide (opNot.uses.length = arityN opNot.name) = true := decide_eq_true ar_not.symm
    have e2 : tieFine opNot = true := rfl
    have e5 : (opNot.uses.all fun u => !decide (choiceS (sNames n) [clG n] u = [])) = true := by
      show ([opG].all fun u => !decide (choiceS (sNames n) [clG n] u = [])) = true
      simp only [List.all_cons, List.all_nil, hcl, hne]; rfl
    have e6 : choiceS (sNames n) [clG n] opNot.d = nums n := hcl
    have e7 : opNot.uses.map (choiceS (sNames n) [clG n]) = [nums n] := by show [choiceS _ _ opG] = _; rw [hcl]
    have e8 : regsOk (sNames n) opNot.clob 64 = true := hok0
    have e9 : twiceFrom [] (regsL (sNames n) opNot.clob) = false := rfl
    rw [e1, e2, e8, e9, e5, e6, e7, hne, hw _ (by simp)]; rfl
  · unfold opFine
    have e1 : decide (opDiv.uses.length = arityN opDiv.name) = true := decide_eq_true ar_div.symm
    have e2 : tieFine opDiv = true := rfl
    have e5 : (opDiv.uses.all fun u => !decide (choiceS (sNames n) [clG n] u = [])) = true := by
      show ([opG, opG].all fun u => !decide (choiceS (sNames n) [clG n] u = [])) = true
      simp only [List.all_cons, List.all_nil, hcl, hne]; rfl
    have e6 : choiceS (sNames n) [clG n] opDiv.d = nums n := hcl
    have e7 : opDiv.uses.map (choiceS (sNames n) [clG n]) = [nums n, nums n] := by show [choiceS _ _ opG, choiceS _ _ opG] = _; rw [hcl]
    have e8 : regsOk (sNames n) opDiv.clob 64 = true := hok0
    have e9 : twiceFrom [] (regsL (sNames n) opDiv.clob) = false := rfl
    rw [e1, e2, e8, e9, e5, e6, e7, hne, hw _ (by simp)]; rfl
/-- Which lists can go together where no two registers lap. -/
theorem together_in {n : Nat} : ∀ (ls : List (List Int)), (∀ l, l ∈ ls → InN n l) → togetherB (plN n) ls = (choicesS ls).any fun t => !twiceFrom [] t := fun ls h => by
  have hin : ∀ (ls : List (List Int)), (∀ l, l ∈ ls → InN n l) → ∀ t, t ∈ choicesS ls → InN n t := by
    intro ls
    induction ls with
    | nil => intro _ t ht x hx; have : t = [] := by simpa [choicesS] using ht
             subst this; cases hx
    | cons a rest ih =>
      intro h t ht x hx
      simp only [choicesS, List.mem_flatMap, List.mem_map] at ht
      obtain ⟨r, hr, t2, ht2, rfl⟩ := ht
      rcases List.mem_cons.1 hx with rfl | hx
      · exact h a (by simp) _ hr
      · exact ih (fun l hl => h l (by simp [hl])) t2 ht2 x hx
  unfold togetherB
  rw [Bool.eq_iff_iff, List.any_eq_true, List.any_eq_true]
  constructor
  · rintro ⟨t, ht, hp⟩
    refine ⟨t, ht, ?_⟩
    rw [← apartFrom_pl t [] (hin ls h t ht) (fun x hx => by cases hx)]; exact hp
  · rintro ⟨t, ht, hp⟩
    refine ⟨t, ht, ?_⟩
    show apartFrom (plN n) [] t = true
    rw [apartFrom_pl t [] (hin ls h t ht) (fun x hx => by cases hx)]; exact hp
theorem together_sm2 {n : Nat} {a b : List Int} (ha : InN n a) (hb : InN n b) : togetherB (plN n) [a, b] = a.any fun r => b.any fun s => decide (r ≠ s) := by
  rw [together_in _ (fun l hl => by
    rcases List.mem_cons.1 hl with rfl | hl
    · exact ha
    · have : l = b := by simpa using hl
      subst this; exact hb)]
  rw [Bool.eq_iff_iff, List.any_eq_true, List.any_eq_true]
  have ht : ∀ r s : Int, twiceFrom [] [r, s] = decide (r = s) := fun r s => by
    unfold twiceFrom twiceFrom twiceFrom
    by_cases h : r = s
    · subst h; simp
    · have : ¬ s = r := fun e => h e.symm
      simp [h, this]
  constructor
  · rintro ⟨t, h1, h2⟩
    simp only [choicesS, List.mem_flatMap, List.mem_map, List.mem_singleton] at h1
    obtain ⟨r, hr, t2, ⟨s, hs, t3, rfl, rfl⟩, rfl⟩ := h1
    refine ⟨r, hr, List.any_eq_true.2 ⟨s, hs, ?_⟩⟩
    rw [ht] at h2
    simpa using h2
  · rintro ⟨r, hr, h⟩
    obtain ⟨s, hs, h2⟩ := List.any_eq_true.1 h
    refine ⟨[r, s], ?_, ?_⟩
    · simp only [choicesS, List.mem_flatMap, List.mem_map, List.mem_singleton]
      exact ⟨r, hr, [s], ⟨s, hs, [], rfl, rfl⟩, rfl⟩
    · rw [ht]; simpa using h2
theorem together_sm {n : Nat} {a : List Int} (ha : InN n a) (hne : a ≠ []) : togetherB (plN n) [a] = true := by
  rw [together_in _ (fun l hl => by
    have : l = a := by simpa using hl
    subst this; exact ha)]
  obtain ⟨r, hr⟩ := List.exists_mem_of_ne_nil a hne
  refine List.any_eq_true.2 ⟨[r], ?_, ?_⟩
  · simp only [choicesS, List.mem_flatMap, List.mem_map, List.mem_singleton]
    exact ⟨r, hr, [], rfl, rfl⟩
  · simp [twiceFrom]
theorem together_nums (n : Nat) : togetherB (plN n) [nums n, nums n] = decide (2 ≤ n) := by
  rw [together_sm2 (nums_in (Nat.le_refl _)) (nums_in (Nat.le_refl _)), Bool.eq_iff_iff, List.any_eq_true, decide_eq_true_eq]
  constructor
  · rintro ⟨r, hr, h⟩
    obtain ⟨s, hs, h2⟩ := List.any_eq_true.1 h
    have h2 := of_decide_eq_true h2
    have := nums_mem.1 hr
    have := nums_mem.1 hs
    omega
  · intro h
    refine ⟨0, nums_mem.2 (by omega), List.any_eq_true.2 ⟨1, nums_mem.2 (by omega), rfl⟩⟩
theorem defLeft_g {n c : Nat} (hc : c ≤ n) (uses : List (List Int)) (t : Int) : (defLeft (plN n) ⟨nums n, uses, t, nums c⟩ = []) ↔ n ≤ c := by
  show (nums n).filter (fun r => !lapsOneB (plN n) r (nums c)) = [] ↔ _
  rw [List.filter_eq_nil_iff]
  constructor
  · intro h
    refine Nat.le_of_not_lt fun hlt => ?_
    have hm : (c : Int) ∈ nums n := nums_mem.2 (by omega)
    have := h _ hm
    rw [lapsOne_at (nums_in (Nat.le_refl _) _ hm) (nums_in hc)] at this
    have hno : ¬ (c : Int) ∈ nums c := fun h => by have := nums_mem.1 h; omega
    simp [hno] at this
  · intro h x hx
    have := nums_mem.1 hx
    rw [lapsOne_at (nums_in (Nat.le_refl _) _ hx) (nums_in hc)]
    have : x ∈ nums c := nums_mem.2 (by omega)
    simp [this]
end Go.Proofs.YtfhllbnpkcgfdaaGreatDoor
/-! Check's answer about a plain machine. -/
namespace Go.Proofs.YtfhllbnpkcgfdaaGreatDoor
open Go.RowKit
theorem opR_add {n c : Nat} (hn : n ≤ 64) (hc : c ≤ n) : opR (sNames n) [clG n] (opAdd c) = ⟨nums n, [nums n, nums n], -1, nums c⟩ := by
  show OpR.mk (choiceS _ _ opG) [choiceS _ _ opG, choiceS _ _ opG] (-1) (regsL (sNames n) (sNames c)) = _
  rw [choice_g hn, regsL_names hn hc]
theorem opR_not {n : Nat} (hn : n ≤ 64) : opR (sNames n) [clG n] opNot = ⟨nums n, [nums n], -1, nums 0⟩ := by
  show OpR.mk (choiceS _ _ opG) [choiceS _ _ opG] (-1) (regsL (sNames n) []) = _
  rw [choice_g hn]; rfl
theorem opR_div {n : Nat} (hn : n ≤ 64) : opR (sNames n) [clG n] opDiv = ⟨nums n, [nums n, nums n], -1, nums 0⟩ := by
  show OpR.mk (choiceS _ _ opG) [choiceS _ _ opG, choiceS _ _ opG] (-1) (regsL (sNames n) []) = _
  rw [choice_g hn]; rfl
theorem fits_g {n c : Nat} (hc : c ≤ n) (uses : List (List Int)) : fitsB (plN n) ⟨nums n, uses, -1, nums c⟩ = (decide (c < n) && togetherB (plN n) uses) := by
  unfold fitsB
  have h1 : usesLeft (plN n) ⟨nums n, uses, -1, nums c⟩ = uses := by unfold usesLeft; exact if_neg (show ¬ (0 : Int) ≤ -1 by decide)
  rw [h1]
  congr 1
  have := defLeft_g hc uses (-1)
  by_cases h : c < n
  · rw [decide_eq_true h, decide_eq_false (fun e => by have := this.1 e; omega)]; rfl
  · rw [decide_eq_false h, decide_eq_true (this.2 (by omega))]; rfl
theorem fits_add {n c : Nat} (hn : n ≤ 64) (hc : c ≤ n) : fitsB (plN n) (opR (sNames n) [clG n] (opAdd c)) = decide (c < n ∧ 2 ≤ n) := by
  rw [opR_add hn hc, fits_g hc, together_nums]
  simp
theorem pairs_g (n : Nat) : pairsFrom (plN n) [nums n] = decide (2 ≤ n) := by
  show ([nums n].all (fun b => togetherB (plN n) [nums n, b]) && true) = _
  simp [together_nums]
theorem room_g {n c : Nat} (h1 : 1 ≤ n) (hn : n ≤ 64) (hc : c ≤ n) : roomFine (plN n) (clsOf (sNames n) [clG n]) ([opAdd c, opNot, opDiv].map (opR (sNames n) [clG n])) = decide (c < n ∧ 2 ≤ n) := by
  unfold roomFine
  rw [clsOf_g hn, pairs_g]
  show (([opR (sNames n) [clG n] (opAdd c), opR (sNames n) [clG n] opNot, opR (sNames n) [clG n] opDiv]).all (fitsB (plN n)) && decide (2 ≤ n)) = _
  have e2 : fitsB (plN n) (opR (sNames n) [clG n] opNot) = true := by
    rw [opR_not hn, fits_g (Nat.zero_le _), together_sm (nums_in (Nat.le_refl _)) (nums_ne h1), decide_eq_true (by omega)]; rfl
  have e3 : fitsB (plN n) (opR (sNames n) [clG n] opDiv) = decide (2 ≤ n) := by
    rw [opR_div hn, fits_g (Nat.zero_le _), together_nums, decide_eq_true (show 0 < n by omega)]; simp
  simp only [List.all_cons, List.all_nil, fits_add hn hc, e2, e3]
  by_cases h : 2 ≤ n <;> simp [h]
theorem ops_g {n c : Nat} (h1 : 1 ≤ n) (hn : n ≤ 64) (hc : c ≤ n) : opsS (sNames n) (plN n) [clG n] [opAdd c, opNot, opDiv] = 0 := by
  have f1 := opFine_g h1 hn hc (opAdd c) (.inl rfl)
  have f2 := opFine_g h1 hn hc opNot (.inr (.inl rfl))
  have f3 := opFine_g h1 hn hc opDiv (.inr (.inr rfl))
  have i2 : idxP (fun x : OpD => eqB x.name opNot.name) [opAdd c] = -1 := by
    have : eqB (opAdd c).name opNot.name = false := decide_eq_false (by decide +kernel : (⟨#[97, 100, 100]⟩ : ByteArray) ≠ ⟨#[110, 111, 116]⟩)
    unfold idxP; simp [List.findIdx?_cons, this]
  have i3 : idxP (fun x : OpD => eqB x.name opDiv.name) [opAdd c, opNot] = -1 := by
    have h1 : eqB (opAdd c).name opDiv.name = false := decide_eq_false (by decide +kernel : (⟨#[97, 100, 100]⟩ : ByteArray) ≠ ⟨#[100, 105, 118]⟩)
    have h2 : eqB opNot.name opDiv.name = false := decide_eq_false (by decide +kernel : (⟨#[110, 111, 116]⟩ : ByteArray) ≠ ⟨#[100, 105, 118]⟩)
    unfold idxP; simp [List.findIdx?_cons, h1, h2]
  have a1 : arityN (opAdd c).name = 2 := ar_add
  have a2 : arityN opNot.name = 1 := ar_not
  have a3 : arityN opDiv.name = 2 := ar_div
  have x1 : opErr (sNames n) (plN n) [clG n] [] (opAdd c) = 0 := by unfold opErr; rw [f1, a1]; rfl
  have x2 : opErr (sNames n) (plN n) [clG n] ([] ++ [opAdd c]) opNot = 0 := by unfold opErr; rw [List.nil_append, f2, a2, i2]; rfl
  have x3 : opErr (sNames n) (plN n) [clG n] ([] ++ [opAdd c] ++ [opNot]) opDiv = 0 := by unfold opErr; rw [List.nil_append, List.singleton_append, f3, a3, i3]; rfl
  unfold opsS opsErr opsErr opsErr opsErr
  rw [x1, x2, x3]; rfl
theorem conv_g {n : Nat} (h1 : 1 ≤ n) (hn : n ≤ 64) : convFine (sNames n) (plN n) [nmR] nmR [] 100 = true := by
  have h0 := regN_nmR h1 hn
  have hin : InN n [0] := fun x hx => by
    obtain rfl : x = 0 := by simpa using hx
    omega
  have ha : apartB (plN n) [0] = true := by
    show apartFrom (plN n) [] [0] = true
    rw [apartFrom_pl [0] [] hin (fun x hx => by cases hx)]; rfl
  unfold convFine regsOk regsL
  simp only [List.map_cons, List.map_nil, h0, List.nil_append, ha]
  rfl
theorem homes_g {n : Nat} (h1 : 1 ≤ n) (hn : n ≤ 64) : homesFine (clsOf (sNames n) [clG n]) (regsL (sNames n) [nmR] ++ [regN (sNames n) nmR]) = true := by
  rw [clsOf_g hn]
  unfold homesFine regsL
  simp only [List.map_cons, List.map_nil, regN_nmR h1 hn]
  have : (0 : Int) ∈ nums n := nums_mem.2 (by omega)
  simp [this]
theorem check_g {n c : Nat} (h1 : 1 ≤ n) (hn : n ≤ 64) (hc : c ≤ n) : checkS (fun _ => true) (smD n c) 0 (sNames n) (plN n) = if c < n ∧ 2 ≤ n then 0 else 11 := by
  have hne : sNames n ≠ [] := fun e => by have := sNames_length n; rw [e] at this; simp at this; omega
  unfold checkS smD
  dsimp only
  rw [classes_g h1 hn, ops_g h1 hn hc, conv_g h1 hn, homes_g h1 hn, room_g h1 hn hc]
  rw [if_neg (by simp), if_neg (by simp), if_neg hne]
  by_cases h : c < n ∧ 2 ≤ n
  · rw [decide_eq_true h, if_pos h]; simp
  · rw [decide_eq_false h, if_neg h]; simp
end Go.Proofs.YtfhllbnpkcgfdaaGreatDoor
/-! A plain machine in memory is one that Check can read. -/
namespace Go.Proofs.YtfhllbnpkcgfdaaGreatDoor
open Go.RowKit
theorem nmM_ok : IsName ⟨#[109]⟩ ∧ NotWord ⟨#[109]⟩ := ⟨isName_of (by decide) (by decide) (by decide), notWord_of (by decide +kernel)⟩
theorem nmG_ok : IsName nmG ∧ NotWord nmG := ⟨isName_of (by decide +kernel) (by decide +kernel) (by decide +kernel), notWord_of (by decide +kernel)⟩
theorem sCells_length : ∀ n, (sCells n).length = n * 4
  | 0 => rfl
  | n + 1 => by rw [sCells_succ, List.length_append, sCells_length n]; simp [sCell]; omega
theorem sCells_get : ∀ n i c, i < n → c < 4 → (sCells n)[i * 4 + c]? = (sCell i)[c]?
  | 0, _, _, h, _ => absurd h (Nat.not_lt_zero _)
  | n + 1, i, c, hi, hc => by
    rw [sCells_succ]
    by_cases h : i < n
    · rw [List.getElem?_append_left (by rw [sCells_length]; omega), sCells_get n i c h hc]
    · obtain rfl : i = n := by omega
      rw [List.getElem?_append_right (by rw [sCells_length]; omega), sCells_length]
      congr 1; omega
theorem smL_holds {W : World} {g n₀ n : Nat} (hg : g < n₀) (hc : ∀ j v, (sCells n)[j]? = some v → W.cell? ⟨g, j, none⟩ = some v) : ∀ m i, i + m ≤ n → HoldsAt n₀ W g (0 + i * 4) (smL m i)
  | 0, _, _ => trivial
  | m + 1, i, h => by
    have hr := fun c hc4 => sCells_get n i c (by omega) hc4
    refine ⟨hg, ⟨?_, ?_, ?_, ?_⟩, ?_, .inl ⟨⟨_, rfl⟩, rfl⟩⟩
    · rw [Nat.zero_add]; exact hc _ _ (hr 0 (by omega))
    · rw [Nat.zero_add]; exact hc _ _ (hr 1 (by omega))
    · rw [Nat.zero_add]; exact hc _ _ (hr 2 (by omega))
    · rw [Nat.zero_add]; exact hc _ _ (hr 3 (by omega))
    · have := smL_holds hg hc m (i + 1) (by omega)
      rw [show 0 + (i + 1) * 4 = 0 + i * 4 + 4 by omega] at this; exact this
/-- The three operations; what the first destroys is cl. -/
def opsCellsC (N : Nat) (cl : SlV) : Array Value := #[.string ⟨#[97, 100, 100]⟩, .string ⟨#[103]⟩, .string ⟨#[]⟩, .slice (some ⟨N + 1 + 1, 0, none⟩) 2 2, .int .i64 (-1), .slice cl.a cl.n cl.c,
  .string ⟨#[110, 111, 116]⟩, .string ⟨#[103]⟩, .string ⟨#[]⟩, .slice (some ⟨N + 1 + 1 + 1, 0, none⟩) 1 1, .int .i64 (-1), .slice none 0 0,
  .string ⟨#[100, 105, 118]⟩, .string ⟨#[103]⟩, .string ⟨#[]⟩, .slice (some ⟨N + 1 + 1 + 1 + 1, 0, none⟩) 2 2, .int .i64 (-1), .slice none 0 0]
/-- What lies in memory of a plain machine. -/
structure SmMem (n c N : Nat) (v u cl : SlV) (W : World) : Prop where
  k : Cells W N 46 #[.string ⟨#[103]⟩, .slice u.a u.n u.c]
  regs : W.ownsRow 0 76 4 (.slice v.a v.n v.c) n (sCells n)
  names : StrsAt W u (sNames n)
  clob : StrsAt W cl (sNames c)
  u0 : Cells W (N + 1 + 1) 48 #[.string ⟨#[103]⟩, .string ⟨#[]⟩, .string ⟨#[103]⟩, .string ⟨#[]⟩]
  u1 : Cells W (N + 1 + 1 + 1) 48 #[.string ⟨#[103]⟩, .string ⟨#[]⟩]
  u2 : Cells W (N + 1 + 1 + 1 + 1) 48 #[.string ⟨#[103]⟩, .string ⟨#[]⟩, .string ⟨#[103]⟩, .string ⟨#[]⟩]
  o : Cells W (N + 1 + 1 + 1 + 1 + 1) 51 (opsCellsC N cl)
  a : Cells W (N + 1 + 1 + 1 + 1 + 1 + 1) 9 #[.string ⟨#[114, 48, 48]⟩]
theorem SmMem.below {n c N : Nat} {v u cl : SlV} {W W' : World} (h : SmMem n c N v u cl W) (hb : Below W.heap.size W W') : SmMem n c N v u cl W' :=
  ⟨h.k.below hb h.k.lt, ownsRow_below h.regs hb, h.names.below hb, h.clob.below hb, h.u0.below hb h.u0.lt, h.u1.below hb h.u1.lt, h.u2.below hb h.u2.lt, h.o.below hb h.o.lt, h.a.below hb h.a.lt⟩
theorem opersTwo {W : World} {b : Nat} (h : Cells W b 48 #[.string ⟨#[103]⟩, .string ⟨#[]⟩, .string ⟨#[103]⟩, .string ⟨#[]⟩]) : OpersAt W ⟨some ⟨b, 0, none⟩, 2, 2⟩ [opG, opG] :=
  ⟨rfl, Nat.le_refl _, fun j x hj => ⟨b, 0, rfl, by
    match j, hj with
    | 0, hj => cases hj; exact ⟨h.cell (j := 0) rfl, h.cell (j := 1) rfl⟩
    | 1, hj => cases hj; exact ⟨h.cell (j := 2) rfl, h.cell (j := 3) rfl⟩
    | j + 2, hj => simp at hj⟩⟩
theorem opersOne {W : World} {b : Nat} (h : Cells W b 48 #[.string ⟨#[103]⟩, .string ⟨#[]⟩]) : OpersAt W ⟨some ⟨b, 0, none⟩, 1, 1⟩ [opG] :=
  ⟨rfl, Nat.le_refl _, fun j x hj => ⟨b, 0, rfl, by
    match j, hj with
    | 0, hj => cases hj; exact ⟨h.cell (j := 0) rfl, h.cell (j := 1) rfl⟩
    | j + 1, hj => simp at hj⟩⟩
theorem strsNil (W : World) : StrsAt W ⟨none, 0, 0⟩ [] := ⟨rfl, Nat.le_refl _, fun j x hj => by simp at hj⟩
theorem readable_g {n c N : Nat} {v u cl : SlV} {W : World} (h : SmMem n c N v u cl W) (hE : Env W) (h1 : 1 ≤ n) (hn : n ≤ 64) (hc : c ≤ n) : Readable W (smMV v N) (smD n c) (spotsOut 0 (smL n 0)) := by
  have hnm := smL_names n
  have hpl := smL_places n
  have hln := smL_len n
  have i2 : idxP (fun x : OpD => eqB x.name opNot.name) [opAdd c] = -1 := by
    have : eqB (opAdd c).name opNot.name = false := decide_eq_false (by decide +kernel : (⟨#[97, 100, 100]⟩ : ByteArray) ≠ ⟨#[110, 111, 116]⟩)
    unfold idxP; simp [List.findIdx?_cons, this]
  have i3 : idxP (fun x : OpD => eqB x.name opDiv.name) [opAdd c, opNot] = -1 := by
    have h1 : eqB (opAdd c).name opDiv.name = false := decide_eq_false (by decide +kernel : (⟨#[97, 100, 100]⟩ : ByteArray) ≠ ⟨#[100, 105, 118]⟩)
    have h2 : eqB opNot.name opDiv.name = false := decide_eq_false (by decide +kernel : (⟨#[110, 111, 116]⟩ : ByteArray) ≠ ⟨#[100, 105, 118]⟩)
    unfold idxP; simp [List.findIdx?_cons, h1, h2]
  exact {
    env := hE
    result := rfl
    slots := rfl
    name := fun V hb => mdIsName_yes _ V (hE.below hb) nmM_ok.1 nmM_ok.2
    ne := fun e => by rw [e] at hln; simp at hln; omega
    few := by omega
    ok := fun p hp => by
      rw [hpl] at hp
      obtain ⟨j, _, rfl⟩ := List.mem_map.1 hp
      exact ⟨show (0 : Int) ≤ 0 by decide, show (0 : Int) ≤ 1000 by decide, show (1 : Int) ≤ 8 by decide, show (8 : Int) ≤ 1000 by decide⟩
    places := fun V hb => by
      have hr := ownsRow_below h.regs hb
      obtain ⟨m, rfl⟩ : ∃ m, n = m + 1 := ⟨n - 1, by omega⟩
      obtain ⟨g, cap, hv⟩ := ownsRow_succ hr
      have hgl : g < V.heap.size := by
        rw [hv] at hr
        obtain ⟨_, cur, hcur⟩ := ownsRow_block hr rfl
        exact hcur.lt
      rw [hv] at hr
      have hL : HoldsAt V.heap.size V g 0 (smL (m + 1) 0) := by
        have := smL_holds (W := V) (g := g) (n₀ := V.heap.size) (n := m + 1) hgl (fun j x hj => ownsRow_cell hr hj) (m + 1) 0 (by omega)
        simpa using this
      have P := places_ok g 0 cap (smL (m + 1) 0) V (hE.below hb) hL (smL_small _ _) (by have := smL_height (m + 1) 0; omega) (by rw [smL_length]; omega)
        (fine_out hL (smL_sound (m + 1) hn (m + 1) 0 (by omega)) (by rw [smL_names]; exact sNames_nodup _ hn) (by rw [smL_len]; omega))
      rw [smL_length] at P
      show Calls _ _ #[.slice v.a v.n v.c] _ _
      rw [hv]; exact P
    classes := ⟨rfl, Nat.le_refl _, fun j x hj => ⟨N, 0, rfl, u, by
      match j, hj with
      | 0, hj => cases hj; exact ⟨h.k.cell (j := 0) rfl, h.k.cell (j := 1) rfl, h.names⟩
      | j + 1, hj => simp [smD] at hj⟩⟩
    cnm := fun k hk V hV => by
      obtain rfl : k = clG n := by simpa [smD] using hk
      exact mdIsName_yes _ V hV nmG_ok.1 nmG_ok.2
    cnew := fun i k hi => by
      match i, hi with
      | 0, hi => rfl
      | i + 1, hi => simp [smD] at hi
    cnr := fun k hk => by
      obtain rfl : k = clG n := by simpa [smD] using hk
      rw [hnm]; exact regN_nmG hn
    ops := ⟨rfl, Nat.le_refl _, fun j x hj => ⟨N + 1 + 1 + 1 + 1 + 1, 0, rfl, by
      match j, hj with
      | 0, hj => cases hj; exact ⟨⟨some ⟨N + 1 + 1, 0, none⟩, 2, 2⟩, cl, h.o.cell (j := 0) rfl, h.o.cell (j := 1) rfl, h.o.cell (j := 2) rfl, h.o.cell (j := 3) rfl, h.o.cell (j := 4) rfl, h.o.cell (j := 5) rfl, opersTwo h.u0, h.clob⟩
      | 1, hj => cases hj; exact ⟨⟨some ⟨N + 1 + 1 + 1, 0, none⟩, 1, 1⟩, ⟨none, 0, 0⟩, h.o.cell (j := 6) rfl, h.o.cell (j := 7) rfl, h.o.cell (j := 8) rfl, h.o.cell (j := 9) rfl, h.o.cell (j := 10) rfl, h.o.cell (j := 11) rfl, opersOne h.u1, strsNil W⟩
      | 2, hj => cases hj; exact ⟨⟨some ⟨N + 1 + 1 + 1 + 1, 0, none⟩, 2, 2⟩, ⟨none, 0, 0⟩, h.o.cell (j := 12) rfl, h.o.cell (j := 13) rfl, h.o.cell (j := 14) rfl, h.o.cell (j := 15) rfl, h.o.cell (j := 16) rfl, h.o.cell (j := 17) rfl, opersTwo h.u2, strsNil W⟩
      | j + 3, hj => simp [smD] at hj⟩⟩
    onice := fun o ho => by
      rw [hnm, hpl]
      refine .inl (opFine_g h1 hn hc o ?_)
      simpa [smD] using ho
    oub := fun o ho => by
      have : o = opAdd c ∨ o = opNot ∨ o = opDiv := by simpa [smD] using ho
      rcases this with rfl | rfl | rfl
      · show 2 ≤ 100000; omega
      · show 1 ≤ 100000; omega
      · show 2 ≤ 100000; omega
    onew := fun i o hi => by
      match i, hi with
      | 0, hi => rfl
      | 1, hi => cases hi; exact i2
      | 2, hi => cases hi; exact i3
      | i + 3, hi => simp [smD] at hi
    args := ⟨rfl, Nat.le_refl _, fun j x hj => ⟨N + 1 + 1 + 1 + 1 + 1 + 1, 0, rfl, by
      match j, hj with
      | 0, hj => cases hj; exact h.a.cell (j := 0) rfl
      | j + 1, hj => simp [smD] at hj⟩⟩
    saved := strsNil W }
end Go.Proofs.YtfhllbnpkcgfdaaGreatDoor
/-! alive: a plain machine of one register has no room, one of two has. -/
namespace Go.Proofs.YtfhllbnpkcgfdaaGreatDoor
open Go.RowKit
theorem SmallAt.mem {w W : World} {n N : Nat} {v u : SlV} (h : SmallAt w n N v u W) : SmMem n 0 N v u ⟨none, 0, 0⟩ W :=
  ⟨h.c, ownsRow_mono h.regs (Nat.zero_le _), by
    have h2 : W.ownsRow w.heap.size 9 1 u.v n ((sNames n).map Value.string) := h.names
    exact StrsAt.of_row h2 (by rw [sNames_length]), strsNil W, h.u0, h.u1, h.u2, h.o, h.a⟩
theorem check_small {n c N : Nat} {v u cl : SlV} {W : World} (h : SmMem n c N v u cl W) (hE : Env W) (h1 : 1 ≤ n) (hn : n ≤ 64) (hc : c ≤ n) :
    Calls Tryz.prog 7 #[(smMV v N).val] W fun e w' => e = .returned (.int .i64 (if c < n ∧ 2 ≤ n then 0 else 11)) ∧ Below W.heap.size W w' := by
  have := check_any (readable_g h hE h1 hn hc)
  rw [smL_names, smL_places, check_g h1 hn hc] at this
  exact this
set_option maxHeartbeats 400000 in
theorem num_any (x : Int) (w : World) : Calls Tryz.prog 9 #[.int .i64 x] w fun e w' => e = .returned (.int .i64 x) ∧ w = w' := by
  go_enter Tryz.func9, Tryz.ntmps9
  go_wp2
  go_ret
  exact ⟨rfl, rfl⟩
set_option maxRecDepth 100000 in
set_option maxHeartbeats 2000000 in
theorem mdAlive (w : World) (hE : Env w) : Calls Tryz.prog 5 #[] w fun e w' => e = .returned (.bool true) ∧ Below w.heap.size w w' := by
  have S1 := small_any 1 w (by decide)
  have S2 : ∀ W, Calls Tryz.prog 15 #[.int .i64 2] W (SmallPost W 2) := fun W => small_any 2 W (by decide)
  go_enter Tryz.func5, Tryz.ntmps5
  go_wp2_with (first
    | (go_at_call 15; refine S1.mono ?_; clear S1; rintro e W1 ⟨N, v, u, rfl, h1⟩; have C1 := check_small h1.mem (hE.below h1.below) (by decide) (by decide) (by decide); have hb1 := h1.below; clear h1)
    | (go_at_call 7; refine C1.mono ?_; clear C1; rintro e W2 ⟨rfl, hb2⟩; have hB2 := hb1.trans (hb2.mono hb1.size); have S3 := S2 W2)
    | (go_at_call 15; refine S3.mono ?_; clear S3; rintro e W3 ⟨N3, v3, u3, rfl, h3⟩; have hB3 := hB2.trans (h3.below.mono hB2.size); have C3 := check_small h3.mem (hE.below hB3) (by decide) (by decide) (by decide); clear h3)
    | (go_at_call 7; refine C3.mono ?_; clear C3; rintro e W4 ⟨rfl, hb4⟩; have hB4 := hB3.trans (hb4.mono hB3.size))
    | (go_at_call 9; refine (num_any _ _).mono ?_; rintro e W5 ⟨rfl, rfl⟩))
  go_ret
  exact ⟨rfl, hB4⟩
end Go.Proofs.YtfhllbnpkcgfdaaGreatDoor
/-! MdcheckRoom answers true. -/
namespace Go.Proofs.YtfhllbnpkcgfdaaGreatDoor
open Go.RowKit
theorem StrsAt.set {A : World} {s : SlV} {l : List ByteArray} {p : Addr} {v0 v : Value} (h : StrsAt A s l) (hp : A.cell? p = some v0) (hv : ∀ x, v0 ≠ .string x) : StrsAt (A.setCell p v) s l :=
  ⟨h.1, h.2.1, fun j x hj => by
    obtain ⟨b, o, h1, h2⟩ := h.2.2 j x hj
    refine ⟨b, o, h1, ?_⟩
    rw [World.cell?_setCell_other _ _ _ _ (fun e => by rw [← e, hp] at h2; exact hv x (Option.some.inj h2))]
    exact h2⟩
end Go.Proofs.YtfhllbnpkcgfdaaGreatDoor
