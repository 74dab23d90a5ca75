/-
  MdcheckSmall: one thing is changed in memory, operations, the convention, room; what Check answers then.
-/
import Derived.Test.YtanbjaohmhoohaaGreatDoorSwD
namespace Go.Proofs.YtanbjaohmhoohaaGreatDoor
open Go.RowKit

section
variable {w W : World} {B N n : Nat} {v u : SlV}

/-- The operations are others. -/
theorem sw_ops {W' : World} {na nb nc : ByteArray} {ua ub uc ka kb kc : SlV} {ta tb tc X : Int} {la lb lc : List OperD} {ca cb cc : List ByteArray} (H : SBase w B N n v u W) (hE : Env w) (h3 : 3 ≤ n) (hn : n ≤ 60)
    (K : KeepsT 51 W W') (hb : Below w.heap.size w W')
    (ho : Cells W' (N + 1 + 1 + 1 + 1 + 1) 51 (opCells3 na nb nc ua ub uc ta tb tc ka kb kc)) (ha : OpersAt W' ua la) (hbb : OpersAt W' ub lb) (hc : OpersAt W' uc lc) (sa : StrsAt W' ka ca) (sb : StrsAt W' kb cb) (sc : StrsAt W' kc cc)
    (hop : OpsNice n [clG n] [⟨na, opG, la, ta, ca⟩, ⟨nb, opG, lb, tb, cb⟩, ⟨nc, opG, lc, tc, cc⟩])
    (hx : checkS (fun _ => true) ⟨⟨#[109]⟩, [clG n], [⟨na, opG, la, ta, ca⟩, ⟨nb, opG, lb, tb, cb⟩, ⟨nc, opG, lc, tc, cc⟩], [nmR], nmR, [], 100⟩ 0 (sNames n) (plN n) = X) : ChkRel w B X W' := by
  have hk := K.block _ _ _ (by decide) H.k
  exact chk_pieces (d := ⟨⟨#[109]⟩, [clG n], [⟨na, opG, la, ta, ca⟩, ⟨nb, opG, lb, tb, cb⟩, ⟨nc, opG, lc, tc, cc⟩], [nmR], nmR, [], 100⟩) (smMV v N) hb hE (by omega) (by omega) (K.block _ _ _ (by decide) H.m) (K.row H.regs (by decide)) rfl rfl rfl
    (clsAt_one (Nat.le_refl _) (hk.cell rfl) (hk.cell rfl) (strsRow (K.row H.names (by decide)) (by rw [sNames_length])))
    (opsAt3 ho ha hbb hc sa sb sc) (strsCells (K.block _ _ _ (by decide) H.a) rfl rfl) (strsNil _) (clsNice_one (by omega) _) hop hx

theorem check_ops {cls : List ClassD} {ops : List OpD} {X : Int} (h1 : 1 ≤ n) (hn : n ≤ 64) (hc : cls = [clG n]) (h : opsS (sNames n) (plN n) [clG n] ops = X) (hX : X ≠ 0) : checkS (fun _ => true) ⟨⟨#[109]⟩, cls, ops, [nmR], nmR, [], 100⟩ 0 (sNames n) (plN n) = X := by
  subst hc
  rw [checkS_ops (sNames_ne h1) (classes_g h1 hn) (by dsimp only; rw [h]; exact hX)]
  exact h

def sB (b n c : Nat) : SlV := ⟨some ⟨b, 0, none⟩, n, c⟩
def sN : SlV := ⟨none, 0, 0⟩

/-- 5: an operation has a name that there is not. -/
theorem sw_5 (H : SBase w B N n v u W) (hE : Env w) (h3 : 3 ≤ n) (hn : n ≤ 60) (i : Nat) (hi : i < 3) : ChkRel w B 5 (W.setCell ⟨N + 1 + 1 + 1 + 1 + 1, i * 6, none⟩ (.string nmMove)) := by
  have K := KeepsT.of_set H.o (i * 6) (.string nmMove)
  have hb := H.below.setCell (p := ⟨N + 1 + 1 + 1 + 1 + 1, i * 6, none⟩) (by have := H.hN; dsimp only; omega) (.string nmMove)
  have h1 : 1 ≤ n := by omega
  have hn' : n ≤ 64 := by omega
  have hl := sNames_ne h1
  have f1 := std_fine (rest := []) h1 hl (opAdd 0) (by simp [stdOps])
  have f2 := std_fine (rest := []) h1 hl opNot (by simp [stdOps])
  have f3 := std_fine (rest := []) h1 hl opDiv (by simp [stdOps])
  have ho := H.o.set (.string nmMove) (j := i * 6)
  have U0 := opersTwo (K.block _ _ _ (by decide) H.u0)
  have U1 := opersOne (K.block _ _ _ (by decide) H.u1)
  have U2 := opersTwo (K.block _ _ _ (by decide) H.u2)
  match i, hi with
  | 0, _ =>
    refine sw_ops (na := nmMove) (ua := sB (N + 1 + 1) 2 2) (ub := sB (N + 1 + 1 + 1) 1 1) (uc := sB (N + 1 + 1 + 1 + 1) 2 2) (ka := sN) (kb := sN) (kc := sN) H hE h3 hn K hb ho U0 U1 U2 (strsNil _) (strsNil _) (strsNil _) ?_ (check_ops h1 hn' rfl (sw5a (l := sNames n) (rest := [])) (by decide))
    exact opsNice_of (.inr (.inl (by show (2 : Nat) ≠ arityN nmMove; rw [ar_move]; decide))) (.inl f2) (.inl f3) (by show 2 ≤ 100000; omega) (by show 1 ≤ 100000; omega) (by show 2 ≤ 100000; omega) nmm1 nmm2 nm23
  | 1, _ =>
    refine sw_ops (nb := nmMove) (ua := sB (N + 1 + 1) 2 2) (ub := sB (N + 1 + 1 + 1) 1 1) (uc := sB (N + 1 + 1 + 1 + 1) 2 2) (ka := sN) (kb := sN) (kc := sN) H hE h3 hn K hb ho U0 U1 U2 (strsNil _) (strsNil _) (strsNil _) ?_ (check_ops h1 hn' rfl (sw5b (rest := []) h1 hl) (by decide))
    exact opsNice_of (.inl f1) (.inr (.inl (by show (1 : Nat) ≠ arityN nmMove; rw [ar_move]; decide))) (.inl f3) (by show 2 ≤ 100000; omega) (by show 1 ≤ 100000; omega) (by show 2 ≤ 100000; omega) nmm3 nm13 nmm2
  | 2, _ =>
    refine sw_ops (nc := nmMove) (ua := sB (N + 1 + 1) 2 2) (ub := sB (N + 1 + 1 + 1) 1 1) (uc := sB (N + 1 + 1 + 1 + 1) 2 2) (ka := sN) (kb := sN) (kc := sN) H hE h3 hn K hb ho U0 U1 U2 (strsNil _) (strsNil _) (strsNil _) ?_ (check_ops h1 hn' rfl (sw5c (rest := []) h1 hl) (by decide))
    exact opsNice_of (.inl f1) (.inl f2) (.inr (.inl (by show (2 : Nat) ≠ arityN nmMove; rw [ar_move]; decide))) (by show 2 ≤ 100000; omega) (by show 1 ≤ 100000; omega) (by show 2 ≤ 100000; omega) nm12 nmm3 nmm4

/-- 6: too few uses. -/
theorem sw_6 (H : SBase w B N n v u W) (hE : Env w) (h3 : 3 ≤ n) (hn : n ≤ 60) : ChkRel w B 9 (W.setCell ⟨N + 1 + 1 + 1 + 1 + 1, 3, none⟩ (.slice (some ⟨N + 1 + 1, 0, none⟩) 1 2)) := by
  have K := KeepsT.of_set H.o 3 (.slice (some ⟨N + 1 + 1, 0, none⟩) 1 2)
  have hb := H.below.setCell (p := ⟨N + 1 + 1 + 1 + 1 + 1, 3, none⟩) (by have := H.hN; dsimp only; omega) (.slice (some ⟨N + 1 + 1, 0, none⟩) 1 2)
  have h1 : 1 ≤ n := by omega
  have hl := sNames_ne h1
  have f2 := std_fine (rest := []) h1 hl opNot (by simp [stdOps])
  have f3 := std_fine (rest := []) h1 hl opDiv (by simp [stdOps])
  have u0 := K.block _ _ _ (by decide) H.u0
  have U0 : OpersAt (W.setCell ⟨N + 1 + 1 + 1 + 1 + 1, 3, none⟩ (.slice (some ⟨N + 1 + 1, 0, none⟩) 1 2)) (sB (N + 1 + 1) 1 2) [opG] := ⟨rfl, by show 1 ≤ 2; omega, fun j x hj => ⟨N + 1 + 1, 0, rfl, by
    match j, hj with
    | 0, hj => cases hj; exact ⟨u0.cell (j := 0) rfl, u0.cell (j := 1) rfl⟩
    | j + 1, hj => simp at hj⟩⟩
  refine sw_ops (ua := sB (N + 1 + 1) 1 2) (ub := sB (N + 1 + 1 + 1) 1 1) (uc := sB (N + 1 + 1 + 1 + 1) 2 2) (ka := sN) (kb := sN) (kc := sN) H hE h3 hn K hb (H.o.set (.slice (some ⟨N + 1 + 1, 0, none⟩) 1 2) (j := 3)) U0 (opersOne (K.block _ _ _ (by decide) H.u1)) (opersTwo (K.block _ _ _ (by decide) H.u2)) (strsNil _) (strsNil _) (strsNil _) ?_ (check_ops h1 (by omega) rfl (sw6 (l := sNames n) (rest := [])) (by decide))
  exact opsNice_of (.inr (.inl (by show (1 : Nat) ≠ arityN (opAdd 0).name; decide +kernel))) (.inl f2) (.inl f3) (by show 1 ≤ 100000; omega) (by show 1 ≤ 100000; omega) (by show 2 ≤ 100000; omega) nm12 nm13 nm23

/-- 7: a tie to a use that there is not. -/
theorem sw_7 (H : SBase w B N n v u W) (hE : Env w) (h3 : 3 ≤ n) (hn : n ≤ 60) : ChkRel w B 9 (W.setCell ⟨N + 1 + 1 + 1 + 1 + 1, 10, none⟩ (.int .i64 1)) := by
  have K := KeepsT.of_set H.o 10 (.int .i64 1)
  have hb := H.below.setCell (p := ⟨N + 1 + 1 + 1 + 1 + 1, 10, none⟩) (by have := H.hN; dsimp only; omega) (.int .i64 1)
  have h1 : 1 ≤ n := by omega
  have hl := sNames_ne h1
  have f1 := std_fine (rest := []) h1 hl (opAdd 0) (by simp [stdOps])
  have f3 := std_fine (rest := []) h1 hl opDiv (by simp [stdOps])
  refine sw_ops (ua := sB (N + 1 + 1) 2 2) (ub := sB (N + 1 + 1 + 1) 1 1) (uc := sB (N + 1 + 1 + 1 + 1) 2 2) (ka := sN) (kb := sN) (kc := sN) H hE h3 hn K hb (H.o.set (.int .i64 1) (j := 10)) (opersTwo (K.block _ _ _ (by decide) H.u0)) (opersOne (K.block _ _ _ (by decide) H.u1)) (opersTwo (K.block _ _ _ (by decide) H.u2)) (strsNil _) (strsNil _) (strsNil _) ?_ (check_ops h1 (by omega) rfl (sw7 (rest := []) h1 hl) (by decide))
  exact opsNice_of (.inl f1) (.inr (.inr ⟨ar_not.symm, by decide +kernel⟩)) (.inl f3) (by show 2 ≤ 100000; omega) (by show 1 ≤ 100000; omega) (by show 2 ≤ 100000; omega) nm12 nm13 nm23

/-- The machine's own cells are others. -/
theorem sw_mach {W' : World} {aS sS : SlV} {res : ByteArray} {sl X : Int} {args saved : List ByteArray} (H : SBase w B N n v u W') (hE : Env w) (h3 : 3 ≤ n) (hn : n ≤ 60) (j : Nat) (y : Value)
    (hm : Cells (W'.setCell ⟨B, j, none⟩ y) B 27 (MV.cells8 ⟨⟨#[109]⟩, v, ⟨some ⟨N, 0, none⟩, 1, 1⟩, ⟨some ⟨N + 1 + 1 + 1 + 1 + 1, 0, none⟩, 3, 3⟩, aS, res, sS, sl⟩))
    (ha : StrsAt (W'.setCell ⟨B, j, none⟩ y) aS args) (hs : StrsAt (W'.setCell ⟨B, j, none⟩ y) sS saved)
    (hx : convFine (sNames n) (plN n) args res saved sl = false) (hX : X = 10) : ChkRel w B X (W'.setCell ⟨B, j, none⟩ y) := by
  have K := KeepsT.of_set H.m j y
  have hk := K.block _ _ _ (by decide) H.k
  have h1 : 1 ≤ n := by omega
  subst hX
  refine chk_pieces (d := ⟨⟨#[109]⟩, [clG n], [opAdd 0, opNot, opDiv], args, res, saved, sl⟩) _ (H.below.setCell (p := ⟨B, j, none⟩) H.hB _) hE (by omega) (by omega) hm (K.row H.regs (by decide)) rfl rfl rfl
    (clsAt_one (Nat.le_refl _) (hk.cell rfl) (hk.cell rfl) (strsRow (K.row H.names (by decide)) (by rw [sNames_length])))
    (opsAt3 (ua := sB (N + 1 + 1) 2 2) (ub := sB (N + 1 + 1 + 1) 1 1) (uc := sB (N + 1 + 1 + 1 + 1) 2 2) (ka := sN) (kb := sN) (kc := sN) (K.block _ _ _ (by decide) H.o) (opersTwo (K.block _ _ _ (by decide) H.u0)) (opersOne (K.block _ _ _ (by decide) H.u1)) (opersTwo (K.block _ _ _ (by decide) H.u2)) (strsNil _) (strsNil _) (strsNil _))
    ha hs (clsNice_one (by omega) _) (opsNice_std (by omega) (sNames_ne h1)) (checkS_conv (sNames_ne h1) (classes_g h1 (by omega)) (std_ops (rest := []) h1 (sNames_ne h1)) hx)

theorem sw_8 (H : SBase w B N n v u W) (hE : Env w) (h3 : 3 ≤ n) (hn : n ≤ 60) : ChkRel w B 10 (W.setCell ⟨B, 5, none⟩ (.string ⟨#[]⟩)) :=
  sw_mach (aS := sB (N + 1 + 1 + 1 + 1 + 1 + 1) 1 1) (sS := sN) (args := [nmR]) (saved := []) H hE h3 hn 5 (.string ⟨#[]⟩) (H.m.set (j := 5) _) (strsCells ((KeepsT.of_set H.m 5 (.string ⟨#[]⟩)).block _ _ _ (by decide) H.a) rfl rfl) (strsNil _) (sw8 (by omega)) rfl
theorem sw_11 (H : SBase w B N n v u W) (hE : Env w) (h3 : 3 ≤ n) (hn : n ≤ 60) : ChkRel w B 10 (W.setCell ⟨B, 7, none⟩ (.int .i64 1001)) :=
  sw_mach (aS := sB (N + 1 + 1 + 1 + 1 + 1 + 1) 1 1) (sS := sN) (args := [nmR]) (saved := []) H hE h3 hn 7 (.int .i64 1001) (H.m.set (j := 7) _) (strsCells ((KeepsT.of_set H.m 7 (.int .i64 1001)).block _ _ _ (by decide) H.a) rfl rfl) (strsNil _) sw11 rfl
/-- 10: the Result's register is saved. -/
theorem sw_10 (H : SBase w B N n v u W) (hE : Env w) (h3 : 3 ≤ n) (hn : n ≤ 60) : ChkRel w B 10 ((W.alloc (.cells #[.string nmR] 9)).setCell ⟨B, 6, none⟩ (.slice (some ⟨W.heap.size, 0, none⟩) 1 1)) := by
  have H' := H.step ((Below.refl _ W).alloc (Nat.le_refl _) (.cells #[.string nmR] 9))
  have K := KeepsT.of_set H'.m 6 (.slice (some ⟨W.heap.size, 0, none⟩) 1 1)
  have hc := K.block _ _ _ (by decide) (Cells.new W 9 #[.string nmR])
  exact sw_mach (aS := sB (N + 1 + 1 + 1 + 1 + 1 + 1) 1 1) (sS := sB W.heap.size 1 1) (args := [nmR]) (saved := [nmR]) H' hE h3 hn 6 (.slice (some ⟨W.heap.size, 0, none⟩) 1 1) (H'.m.set (j := 6) _) (strsCells (K.block _ _ _ (by decide) H'.a) rfl rfl) (strsCells hc rfl rfl) (sw10 (by omega) (by omega)) rfl
/-- 9: an argument's register twice. -/
theorem sw_9 {W5 W' : World} {g cap : Nat} (H : SBase w B N n v u W) (hE : Env w) (h3 : 3 ≤ n) (hn : n ≤ 60) (hb : Below W.heap.size W W5) (hg : W5.grownBy W' (Value.slice (some ⟨N + 1 + 1 + 1 + 1 + 1 + 1, 0, none⟩) 1 1).ownBlock)
    (hk : W'.ownsRow w.heap.size 9 1 (.slice (some ⟨g, 0, none⟩) 3 cap) 3 [.string nmR, .string nmR1, .string nmR]) : ChkRel w B 10 (W'.setCell ⟨B, 4, none⟩ (.slice (some ⟨g, 0, none⟩) 3 cap)) := by
  have H5 := H.step hb
  have hne : ∀ b t cs, t ≠ 9 → Cells W5 b t cs → Cells W' b t cs := fun b t cs ht hc => hc.kept hg (fun e => by
    have e2 : b = N + 1 + 1 + 1 + 1 + 1 + 1 := by simpa [Value.ownBlock] using e
    rw [e2] at hc
    have h2 := Option.some.inj ((show W5.heap[N + 1 + 1 + 1 + 1 + 1 + 1]? = _ from hc).symm.trans (show W5.heap[N + 1 + 1 + 1 + 1 + 1 + 1]? = _ from H5.a))
    injection h2 with _ ht2 _
    exact ht ht2)
  have K1 : KeepsT 9 W5 W' := ⟨hg.size, hne⟩
  have hB' : Below w.heap.size w W' := H5.below.grown hg H5.below.size (fun b e => by cases e; have := H.hN; show w.heap.size ≤ N + 1 + 1 + 1 + 1 + 1 + 1; omega)
  have hm := K1.block _ _ _ (by decide) H5.m
  have K2 := KeepsT.of_set hm 4 (.slice (some ⟨g, 0, none⟩) 3 cap)
  have hk2 := K2.row hk (by decide)
  have hnames : W'.ownsRow w.heap.size 9 1 (.slice u.a u.n u.c) n ((sNames n).map Value.string) := H5.names.kept hg (.inr fun e => by
    have h2 : N + 1 + 1 + 1 + 1 + 1 + 1 < N := H.namesB _ e
    omega)
  have hkc := K2.block _ _ _ (by decide) (K1.block _ _ _ (by decide) H5.k)
  have h1 : 1 ≤ n := by omega
  exact chk_pieces (d := ⟨⟨#[109]⟩, [clG n], [opAdd 0, opNot, opDiv], [nmR, nmR1, nmR], nmR, [], 100⟩) { smMV v N with args := ⟨some ⟨g, 0, none⟩, 3, cap⟩ } (hB'.setCell (p := ⟨B, 4, none⟩) H.hB _) hE (by omega) (by omega) (hm.set (j := 4) _) (K2.row (K1.row H5.regs (by decide)) (by decide)) rfl rfl rfl
    (clsAt_one (Nat.le_refl _) (hkc.cell rfl) (hkc.cell rfl) (strsRow (K2.row hnames (by decide)) (by rw [sNames_length])))
    (opsAt3 (ua := sB (N + 1 + 1) 2 2) (ub := sB (N + 1 + 1 + 1) 1 1) (uc := sB (N + 1 + 1 + 1 + 1) 2 2) (ka := sN) (kb := sN) (kc := sN) (K2.block _ _ _ (by decide) (K1.block _ _ _ (by decide) H5.o)) (opersTwo (K2.block _ _ _ (by decide) (K1.block _ _ _ (by decide) H5.u0))) (opersOne (K2.block _ _ _ (by decide) (K1.block _ _ _ (by decide) H5.u1))) (opersTwo (K2.block _ _ _ (by decide) (K1.block _ _ _ (by decide) H5.u2))) (strsNil _) (strsNil _) (strsNil _))
    (strsRow (s := ⟨some ⟨g, 0, none⟩, 3, cap⟩) hk2 rfl) (strsNil _) (clsNice_one (by omega) _) (opsNice_std (by omega) (sNames_ne h1)) (checkS_conv (sNames_ne h1) (classes_g h1 (by omega)) (std_ops (rest := []) h1 (sNames_ne h1)) (sw9 (by omega) (by omega)))

/-- 12: two uses that must be one register. -/
theorem sw_12 (H : SBase w B N n v u W) (hE : Env w) (h3 : 3 ≤ n) (hn : n ≤ 60) : ChkRel w B 11 ((W.setCell ⟨N + 1 + 1, 1, none⟩ (.string nmR1)).setCell ⟨N + 1 + 1, 3, none⟩ (.string nmR1)) := by
  have h0 := H.u0.set (.string nmR1) (j := 1)
  have K := (KeepsT.of_set H.u0 1 (.string nmR1)).trans (KeepsT.of_set h0 3 (.string nmR1))
  have hu := h0.set (.string nmR1) (j := 3)
  have hN : w.heap.size ≤ N + 1 + 1 := by have := H.hN; omega
  have hb := (H.below.setCell (p := ⟨N + 1 + 1, 1, none⟩) hN (.string nmR1)).setCell (p := ⟨N + 1 + 1, 3, none⟩) hN (.string nmR1)
  have hk := K.block _ _ _ (by decide) H.k
  have h1 : 1 ≤ n := by omega
  have hl := sNames_ne h1
  have hu1 := (H.u1.other (T := N + 1 + 1) (j := 1) (by omega) (.string nmR1)).other (T := N + 1 + 1) (j := 3) (by omega) (.string nmR1)
  have hu2 := (H.u2.other (T := N + 1 + 1) (j := 1) (by omega) (.string nmR1)).other (T := N + 1 + 1) (j := 3) (by omega) (.string nmR1)
  refine chk_pieces (d := ⟨⟨#[109]⟩, [clG n], [opU [fixR1, fixR1], opNot, opDiv], [nmR], nmR, [], 100⟩) (smMV v N) hb hE (by omega) (by omega) (K.block _ _ _ (by decide) H.m) (K.row H.regs (by decide)) rfl rfl rfl
    (clsAt_one (Nat.le_refl _) (hk.cell rfl) (hk.cell rfl) (strsRow (K.row H.names (by decide)) (by rw [sNames_length])))
    (opsAt3 (ua := sB (N + 1 + 1) 2 2) (ub := sB (N + 1 + 1 + 1) 1 1) (uc := sB (N + 1 + 1 + 1 + 1) 2 2) (ka := sN) (kb := sN) (kc := sN) (K.block _ _ _ (by decide) H.o) (opersCells (f := nmR1) (g := nmR1) hu) (opersOne hu1) (opersTwo hu2) (strsNil _) (strsNil _) (strsNil _))
    (strsCells (K.block _ _ _ (by decide) H.a) rfl rfl) (strsNil _) (clsNice_one (by omega) _)
    (opsNice_of (.inl (fine12 (by omega) (by omega))) (.inl (std_fine (rest := []) h1 hl opNot (by simp [stdOps]))) (.inl (std_fine (rest := []) h1 hl opDiv (by simp [stdOps]))) (by show 2 ≤ 100000; omega) (by show 1 ≤ 100000; omega) (by show 2 ≤ 100000; omega) nm12 nm13 nm23)
    (checkS_room hl (classes_g h1 (by omega)) (ops12 (by omega) (by omega)) (conv_g h1 (by omega)) (homes_g h1 (by omega)) (room12 (by omega) (by omega)))

/-- 13: the class is without the first register. -/
theorem sw_13 {g c : Nat} (H : SBase w B N n v ⟨some ⟨g, 0, none⟩, n, c⟩ W) (hE : Env w) (h3 : 3 ≤ n) (hn : n ≤ 60) (hc : n ≤ c) : ChkRel w B 10 (W.setCell ⟨N, 1, none⟩ (.slice (some ⟨g, 1, none⟩) (n - 1) (c - 1))) := by
  have K := KeepsT.of_set H.k 1 (.slice (some ⟨g, 1, none⟩) (n - 1) (c - 1))
  have hk := H.k.set (.slice (some ⟨g, 1, none⟩) (n - 1) (c - 1)) (j := 1)
  have hb := H.below.setCell (p := ⟨N, 1, none⟩) H.hN (.slice (some ⟨g, 1, none⟩) (n - 1) (c - 1))
  have h1 : 1 ≤ n := by omega
  have hl := tail_ne (n := n) (by omega)
  have hr := K.row H.names (by decide)
  dsimp only at hr
  have hu : StrsAt (W.setCell ⟨N, 1, none⟩ (.slice (some ⟨g, 1, none⟩) (n - 1) (c - 1))) ⟨some ⟨g, 1, none⟩, n - 1, c - 1⟩ (sNames n).tail := by
    refine ⟨by rw [List.length_tail, sNames_length], by dsimp only; omega, fun j x hj => ⟨g, 1, rfl, ?_⟩⟩
    refine ownsRow_cell hr ?_
    rw [List.getElem?_tail] at hj
    rw [Nat.add_comm, List.getElem?_map, hj]; rfl
  refine chk_pieces (d := ⟨⟨#[109]⟩, [⟨nmG, (sNames n).tail⟩], [opAdd 0, opNot, opDiv], [nmR], nmR, [], 100⟩) (smMV v N) hb hE (by omega) (by omega) (K.block _ _ _ (by decide) H.m) (K.row H.regs (by decide)) rfl rfl rfl
    (clsAt_one (u := ⟨some ⟨g, 1, none⟩, n - 1, c - 1⟩) (Nat.le_refl _) (hk.cell rfl) (hk.cell rfl) hu)
    (opsAt3 (ua := sB (N + 1 + 1) 2 2) (ub := sB (N + 1 + 1 + 1) 1 1) (uc := sB (N + 1 + 1 + 1 + 1) 2 2) (ka := sN) (kb := sN) (kc := sN) (K.block _ _ _ (by decide) H.o) (opersTwo (K.block _ _ _ (by decide) H.u0)) (opersOne (K.block _ _ _ (by decide) H.u1)) (opersTwo (K.block _ _ _ (by decide) H.u2)) (strsNil _) (strsNil _) (strsNil _))
    (strsCells (K.block _ _ _ (by decide) H.a) rfl rfl) (strsNil _) (clsNice_one (by omega) _) (opsNice_std (by omega) hl)
    (checkS_homes (sNames_ne h1) (cls13 (by omega) (by omega)) (std_ops (rest := []) h1 hl) (conv_g h1 (by omega)) (homes13 h1 (by omega)))

/-- 15: all is destroyed. -/
theorem sw_15 {W' : World} {cl : SlV} (H : SBase w B N n v u W) (hE : Env w) (h3 : 3 ≤ n) (hn : n ≤ 60) (hb6 : Below W.heap.size W W') (hcl : W'.ownsRow w.heap.size 9 1 (.slice cl.a cl.n cl.c) n ((sNames n).map Value.string)) :
    ChkRel w B 11 (W'.setCell ⟨N + 1 + 1 + 1 + 1 + 1, 17, none⟩ (.slice cl.a cl.n cl.c)) := by
  have H' := H.step hb6
  have K := KeepsT.of_set H'.o 17 (.slice cl.a cl.n cl.c)
  have hb := H'.below.setCell (p := ⟨N + 1 + 1 + 1 + 1 + 1, 17, none⟩) (by have := H.hN; dsimp only; omega) (.slice cl.a cl.n cl.c)
  have h1 : 1 ≤ n := by omega
  have hl := sNames_ne h1
  refine sw_ops (ua := sB (N + 1 + 1) 2 2) (ub := sB (N + 1 + 1 + 1) 1 1) (uc := sB (N + 1 + 1 + 1 + 1) 2 2) (ka := sN) (kb := sN) (kc := cl) (cc := sNames n) H' hE h3 hn K hb (H'.o.set (.slice cl.a cl.n cl.c) (j := 17)) (opersTwo (K.block _ _ _ (by decide) H'.u0)) (opersOne (K.block _ _ _ (by decide) H'.u1)) (opersTwo (K.block _ _ _ (by decide) H'.u2)) (strsNil _) (strsNil _) (strsRow (K.row hcl (by decide)) (by rw [sNames_length])) ?_ ?_
  · exact opsNice_of (.inl (std_fine (rest := []) h1 hl (opAdd 0) (by simp [stdOps]))) (.inl (std_fine (rest := []) h1 hl opNot (by simp [stdOps]))) (.inl (fine15 h1 (by omega))) (by show 2 ≤ 100000; omega) (by show 1 ≤ 100000; omega) (by show 2 ≤ 100000; omega) nm12 nm13 nm23
  · exact checkS_room hl (classes_g h1 (by omega)) (ops15 h1 (by omega)) (conv_g h1 (by omega)) (homes_g h1 (by omega)) (room15 (by omega) _)
end
end Go.Proofs.YtanbjaohmhoohaaGreatDoor
