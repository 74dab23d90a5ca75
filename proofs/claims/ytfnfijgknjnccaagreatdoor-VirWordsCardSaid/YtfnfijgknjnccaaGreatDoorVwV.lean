/-
  vir's Plain, of a function in memory.
-/
import Derived.Test.YtfnfijgknjnccaaGreatDoorVwT
import Derived.Test.YtfnfijgknjnccaaGreatDoorVwP
namespace Go.Proofs.YtfnfijgknjnccaaGreatDoor
open Go.RowKit Go.Sort
/-- A function. -/
structure FnV where
  nm : ByteArray
  va : Option Addr
  vc : Nat
  vr : List ByteArray
  pa : Option Addr
  pc : Nat
  ps : List Int
  res : ByteArray
  ba : Option Addr
  bc : Nat
  bl : List BlkV
def FnV.cells (f : FnV) : Array Value := #[.string f.nm, .slice f.va f.vr.length f.vc, .slice f.pa f.ps.length f.pc, .string f.res, .slice f.ba f.bl.length f.bc]
/-- What stands of a function in memory. -/
structure FnAt (W : World) (f : FnV) : Prop where
  vr : StrsL W f.va f.vr
  ps : IntsL W f.pa f.ps
  bl : BlksL W f.ba f.bl
  ins : ∀ b, b ∈ f.bl → InsL W b.a b.l
  args : ∀ b, b ∈ f.bl → ∀ y, y ∈ b.l → IntsL W y.1.sa y.2 ∧ y.1.sn = y.2.length
theorem FnAt.below {W V : World} {f : FnV} (h : FnAt W f) (hb : Below W.heap.size W V) : FnAt V f :=
  ⟨h.vr.below hb, h.ps.below hb, h.bl.below hb, fun b hm => (h.ins b hm).below hb, fun b hm y hy => ⟨(h.args b hm y hy).1.below hb, (h.args b hm y hy).2⟩⟩
/-- What is asked of a function. -/
structure FnOk (f : FnV) : Prop where
  nm : IsName f.nm
  res : IsName f.res
  vr : ∀ x, x ∈ f.vr → IsName x
  ps : ∀ x, x ∈ f.ps → In64 x
  ins : ∀ b, b ∈ f.bl → ∀ y, y ∈ b.l → InsOk y.1 y.2
  lv : f.vr.length ≤ 100000
  lp : f.ps.length ≤ 100000
  lb : f.bl.length ≤ 100000
  li : ∀ b, b ∈ f.bl → b.l.length ≤ 100000
def insB (y : InsX) : Bool := formsV.any (goodF y.1 y.2)
def blkB (b : BlkV) : Bool := decide ((b.l.length : Int) ≤ 400) && b.l.all insB
def plainB (f : FnV) : Bool := (decide ((f.vr.length : Int) ≤ 500) && f.vr.all fun _ => true) && (decide ((f.ps.length : Int) ≤ 16) && f.ps.all fun n => decide (0 ≤ n) && decide (n ≤ 99999)) && (decide ((f.bl.length : Int) ≤ 200) && f.bl.all blkB)
set_option maxHeartbeats 4000000
set_option maxRecDepth 100000
theorem isPlainBlock_any (b : BlkV) {w : World} (hE : EnvF w) (hi : InsL w b.a b.l) (ha : ∀ y, y ∈ b.l → IntsL w y.1.sa y.2 ∧ y.1.sn = y.2.length) (ho : ∀ y, y ∈ b.l → InsOk y.1 y.2) (hl : b.l.length ≤ 100000) :
    Calls Tryz.prog 26 #[.slice b.a b.l.length b.c] w fun e w' => e = .returned (.bool (blkB b)) ∧ Below w.heap.size w w' := by
  have K := everyX_any (c := b.c) (most := 400) (p := insB) (enters_of Tryz.func52 (by kernel_rfl) rfl) hi hl
    (fun W x hb hx => isPlain_any x.1 (hE.below hb) (ho x hx) ((ha x hx).1.below hb) (ha x hx).2)
  clear hE hi ha ho
  unfold blkB
  generalize (decide ((b.l.length : Int) ≤ 400) && b.l.all insB) = r at *
  go_enter Tryz.func26, Tryz.ntmps26
  go_wp2_with (go_at_call 51; refine K.mono ?_; clear K; rintro e W1 ⟨rfl, hb1⟩)
  go_ret
  exact ⟨rfl, hb1⟩
theorem plain_any (f : FnV) {w : World} (hE : EnvF w) (hf : FnAt w f) (ho : FnOk f) :
    Calls Tryz.prog 11 #[.agg f.cells] w fun e w' => e = .returned (.bool (plainB f)) ∧ Below w.heap.size w w' := by
  have hKN : ∀ W s, Below w.heap.size w W → s = f.nm ∨ s = f.res → Calls Tryz.prog 21 #[.string s] W fun e w' => e = .returned (.bool true) ∧ Below W.heap.size W w' := fun W s hb hs => names_yes s (by rcases hs with rfl | rfl; exact ho.nm; exact ho.res) W (hE.env.below hb)
  have hKS := fun W (hb : Below w.heap.size w W) => everyS_any (c := f.vc) (most := 500) (p := fun _ => true) (enters_of Tryz.func21 (by kernel_rfl) rfl) (hf.vr.below hb) ho.lv
    (fun V x hv hx => names_yes x (ho.vr x hx) V ((hE.env.below hb).below hv))
  have hKI := fun W (hb : Below w.heap.size w W) => everyI_any (c := f.pc) (most := 16) (p := fun n => decide (0 ≤ n) && decide (n ≤ 99999)) (enters_of Tryz.func24 (by kernel_rfl) rfl) (hf.ps.below hb) ho.lp
    (fun V x hv hx => (isNumber_v x V).mono fun e w' ⟨h1, h2⟩ => ⟨h1, by rw [← h2]; exact Below.refl _ _⟩)
  have hKB := fun W (hb : Below w.heap.size w W) => everyB_any (c := f.bc) (most := 200) (p := blkB) (enters_of Tryz.func26 (by kernel_rfl) rfl) (hf.bl.below hb) ho.lb
    (fun V x hv hx => isPlainBlock_any x ((hE.below hb).below hv) (((hf.ins x hx).below hb).below hv) (fun y hy => ⟨((hf.args x hx y hy).1.below hb).below hv, (hf.args x hx y hy).2⟩) (ho.ins x hx) (ho.li x hx))
  clear hE hf ho
  unfold plainB FnV.cells
  generalize (decide ((f.vr.length : Int) ≤ 500) && f.vr.all fun _ => true) = r1 at *
  generalize (decide ((f.ps.length : Int) ≤ 16) && f.ps.all fun n => decide (0 ≤ n) && decide (n ≤ 99999)) = r2 at *
  generalize (decide ((f.bl.length : Int) ≤ 200) && f.bl.all blkB) = r3 at *
  have hB : Hid (Below w.heap.size w (w.alloc (.cells #[.string f.nm, .slice f.va f.vr.length f.vc, .slice f.pa f.ps.length f.pc, .string f.res, .slice f.ba f.bl.length f.bc] 30))) := Lib.hid ((Below.refl _ _).alloc (Nat.le_refl _) _)
  have hC := Cells.new w 30 #[.string f.nm, .slice f.va f.vr.length f.vc, .slice f.pa f.ps.length f.pc, .string f.res, .slice f.ba f.bl.length f.bc]
  have c0 := hC.cell (j := 0) rfl
  have c1 := hC.cell (j := 1) rfl
  have c2 := hC.cell (j := 2) rfl
  have c3 := hC.cell (j := 3) rfl
  have c4 := hC.cell (j := 4) rfl
  clear hC
  replace hKN := Lib.hid hKN
  replace hKS := Lib.hid hKS
  replace hKI := Lib.hid hKI
  replace hKB := Lib.hid hKB
  cases r1
  all_goals cases r2
  all_goals cases r3
  all_goals
    go_enter Tryz.func11, Tryz.ntmps11
    go_wp2_with (first
      | (go_at_call 21; refine (hKN.out _ _ hB.out (by first | exact .inl rfl | exact .inr rfl)).mono ?_; rintro e W1 ⟨rfl, hb1⟩; replace hB := Lib.hid (hB.out.trans (hb1.mono hB.out.size)); replace c0 := cell_below hb1 c0; replace c1 := cell_below hb1 c1; replace c2 := cell_below hb1 c2; replace c3 := cell_below hb1 c3; replace c4 := cell_below hb1 c4; clear hb1)
      | (go_at_call 22; refine (hKS.out _ hB.out).mono ?_; rintro e W2 ⟨rfl, hb1⟩; replace hB := Lib.hid (hB.out.trans (hb1.mono hB.out.size)); replace c0 := cell_below hb1 c0; replace c1 := cell_below hb1 c1; replace c2 := cell_below hb1 c2; replace c3 := cell_below hb1 c3; replace c4 := cell_below hb1 c4; clear hb1)
      | (go_at_call 23; refine (hKI.out _ hB.out).mono ?_; rintro e W3 ⟨rfl, hb1⟩; replace hB := Lib.hid (hB.out.trans (hb1.mono hB.out.size)); replace c0 := cell_below hb1 c0; replace c1 := cell_below hb1 c1; replace c2 := cell_below hb1 c2; replace c3 := cell_below hb1 c3; replace c4 := cell_below hb1 c4; clear hb1)
      | (go_at_call 25; refine (hKB.out _ hB.out).mono ?_; rintro e W4 ⟨rfl, hb1⟩; replace hB := Lib.hid (hB.out.trans (hb1.mono hB.out.size)); replace c0 := cell_below hb1 c0; replace c1 := cell_below hb1 c1; replace c2 := cell_below hb1 c2; replace c3 := cell_below hb1 c3; replace c4 := cell_below hb1 c4; clear hb1))
    go_ret
    exact ⟨rfl, hB.out⟩
end Go.Proofs.YtfnfijgknjnccaaGreatDoor
