/-
  geom's Places of registers within registers, one of which can't be: those ahead of it are told and taken, at it all ends with its error.
-/
import Derived.Test.YtfhllbnpkcgfdaaGreatDoorPan
import Derived.StillTailTactics
namespace Go.Proofs.YtfhllbnpkcgfdaaGreatDoor
open Go.RowKit Go.Shelf
attribute [local go_sem] Oper.semAt_some
/-- A spot's numbers are such that none grows out of its kind. -/
def Calm (x : Spot) : Prop := 0 ≤ x.aAt ∧ x.aAt ≤ 500 ∧ 0 ≤ x.at_ ∧ x.at_ ≤ 500 ∧ 0 ≤ x.deep ∧ x.deep ≤ 500
/-- What holds at the head of the loop over the registers within one: k of them have been gone over. -/
structure DownInv2 (Ts : List Nat) (n₀ : Nat) (J : List Spot → World → Prop) (pre1 S : List Spot) (N : Nat) (deep root pAt pW : Int) (sv : Value) (b' o' n : Nat) (Bs Bp : Nat) (cs cp : Array Value) (W : World) (k : Nat) (rest : RegL) (D : List Spot) (wr : World) : Prop where
  len : k + rest.length = n
  total : rest.total ≤ N
  holds : HoldsAt n₀ wr b' (o' + k * 4) rest
  said : D ++ spotsIn deep root pAt pW sv k rest = S
  j : J (pre1 ++ D) wr
  s : Cells wr Bs 123 cs
  p : Cells wr Bp 94 cp
  free : Free Ts n₀ wr
  so : ¬ Owned Ts wr Bs
  po : ¬ Owned Ts wr Bp
  keeps : Keeps Ts W wr
def DownRel2 (Ts : List Nat) (n₀ : Nat) (J : List Spot → World → Prop) (pre1 S : List Spot) (N : Nat) (deep root pAt pW : Int) (sv : Value) (b' o' n : Nat) (Bs Bp : Nat) (cs cp : Array Value) (W : World) (k : Nat) (wr : World) : Prop :=
  ∃ rest D, DownInv2 Ts n₀ J pre1 S N deep root pAt pW sv b' o' n Bs Bp cs cp W k rest D wr
set_option maxRecDepth 100000 in
set_option maxHeartbeats 4000000 in
theorem down_good (Ts : List Nat) (n₀ l : Nat) (J : List Spot → World → Prop) (E : List Spot) (hcalm : ∀ x, x ∈ E → Calm x)
    (hst : ∀ pre A B, J pre A → Below A.heap.size A B → J pre B)
    (hY : ∀ pre x A, J pre A → pre ++ [x] <+: E → YieldAt Fence.wide 0 Tryz.prog l #[x.val] A fun e B => e = .returned (.bool true) ∧ J (pre ++ [x]) B ∧ Keeps Ts A B) :
    ∀ (N : Nat) (nm : ByteArray) (wd at_ : Int) (sv : Value) (deep root aAt aW : Int) (av : Value) (subs : RegL) (pre : List Spot) (W : World), subs.total < N → SliceIs n₀ W sv subs → Free Ts n₀ W → J pre W →
      pre ++ (⟨nm, wd, at_, sv, deep, root, aAt, aW, av⟩ :: spotsIn (deep + 1) root (aAt + at_) wd sv 0 subs) <+: E →
      Calls Tryz.prog 115 #[.agg #[.string nm, .int .i64 wd, .int .i64 at_, sv, .int .i64 deep, .int .i64 root, .int .i64 aAt, .int .i64 aW, av], .func (.yield l) #[] #[]] W fun e B =>
        e = .returned (.bool true) ∧ J (pre ++ (⟨nm, wd, at_, sv, deep, root, aAt, aW, av⟩ :: spotsIn (deep + 1) root (aAt + at_) wd sv 0 subs)) B ∧ Keeps Ts W B := by
  intro N
  induction N with
  | zero => intro nm wd at_ sv deep root aAt aW av subs pre W h; exact absurd h (Nat.not_lt_zero _)
  | succ N ih =>
    intro nm wd at_ sv deep root aAt aW av subs pre W hN hsv hfr hj hE
    obtain ⟨h1, h1', h2, h2', h4, h5⟩ := hcalm ⟨nm, wd, at_, sv, deep, root, aAt, aW, av⟩ (hE.subset (by simp))
    dsimp only at h1 h1' h2 h2' h4 h5
    have ihH := Lib.hid ih
    clear ih
    -- the box of the spot; the round at the register itself
    have hb0 : Below W.heap.size W (W.alloc (.cells #[.string nm, .int .i64 wd, .int .i64 at_, sv, .int .i64 deep, .int .i64 root, .int .i64 aAt, .int .i64 aW, av] 123)) := (Below.refl _ _).alloc (Nat.le_refl _) _
    have hs0 := Cells.new W 123 #[.string nm, .int .i64 wd, .int .i64 at_, sv, .int .i64 deep, .int .i64 root, .int .i64 aAt, .int .i64 aW, av]
    have hfr0 := hfr.below hb0
    have hso0 := fresh_not_owned hfr.ok hb0 (Nat.le_refl W.heap.size)
    have hY0 := YieldAt.mono (R' := fun e B => e = .returned (.bool true) ∧ J (pre ++ [⟨nm, wd, at_, sv, deep, root, aAt, aW, av⟩]) B ∧ Keeps Ts W B ∧ Cells B W.heap.size 123 #[.string nm, .int .i64 wd, .int .i64 at_, sv, .int .i64 deep, .int .i64 root, .int .i64 aAt, .int .i64 aW, av] ∧ Free Ts n₀ B ∧ ¬ Owned Ts B W.heap.size ∧ SliceIs n₀ B sv subs)
      (yieldAt_any (m' := 0) (hY pre ⟨nm, wd, at_, sv, deep, root, aAt, aW, av⟩ _ (hst _ _ _ hj hb0) (by
        refine List.IsPrefix.trans ?_ hE
        exact ⟨spotsIn (deep + 1) root (aAt + at_) wd sv 0 subs, by simp⟩)))
      (fun e B ⟨he, hj1, hk⟩ => ⟨he, hj1, (Keeps.of_below hb0).trans hk, hk.cells hfr0.ok hs0 hso0, hfr0.keeps hk, hk.own hfr0.ok _ (by simp) hso0, SliceIs.of (hfr0.cells hk) (SliceIs.of (below_cells hb0) hsv)⟩)
    obtain ⟨fn, tmps, assign, body, hy, hR⟩ := hY0
    unfold Spot.val at hy
    dsimp only at hy
    have C1 := fun B => in_any root aAt aW wd at_ nm sv B h1 (by omega) h2 (by omega)
    have hst2 := Lib.hid hst
    have hY2 := Lib.hid hY
    clear hst hY hj hsv hfr
    refine (callsIn_wide (n := 1)).1 ?_
    refine callsIn_of_wp Tryz.func115 rfl trivial ?_ rfl
    simp only [Tryz.ntmps115, List.size_toArray, List.length_cons, List.length_nil, Nat.reduceAdd, Nat.reduceSub, Array.replicate_succ, Array.replicate_zero, List.push_toArray, List.append_toArray, List.nil_append, List.cons_append]
    gi_wp2_with (first
      | (refine hR.mono ?_; clear hR; rintro e W1 ⟨rfl, hj1, hk1, hs1, hfr1, hso1, hsv1⟩; have d0 := hs1.cell (j := 0) (v := .string nm) rfl; have d1 := hs1.cell (j := 1) (v := .int .i64 wd) rfl; have d2 := hs1.cell (j := 2) (v := .int .i64 at_) rfl; have d3 := hs1.cell (j := 3) (v := sv) rfl; have d5 := hs1.cell (j := 5) (v := .int .i64 root) rfl; have d6 := hs1.cell (j := 6) (v := .int .i64 aAt) rfl; have d7 := hs1.cell (j := 7) (v := .int .i64 aW) rfl)
      | (refine ⟨trivial, ?_⟩; gi_at_call 121; refine (callsIn_wide.2 (C1 _)).mono ?_; clear C1; rintro e W2 ⟨rfl, hb2⟩; have g3 := fun o => cell_alloc o (cell_below hb2 d3); clear d0 d1 d2 d3 d5 d6 d7; rcases hsv1 with ⟨⟨a0, rfl⟩, rfl⟩ | ⟨b', o', c', rfl, hlc, hc200, hh1⟩))
    · refine wpIn_loop_rounds 1 ?_
      rw [roundsIn_succ]
      gi_wp2_with fail
      go_ret
      have hB3 := hb2.alloc hb2.size (.cells #[.int .i64 root, .int .i64 (aAt + at_), .int .i64 wd] 94)
      exact ⟨rfl, hst2.out _ _ _ hj1 hB3, hk1.trans (Keeps.of_below hB3)⟩
    · have hB3 := hb2.alloc hb2.size (.cells #[.int .i64 root, .int .i64 (aAt + at_), .int .i64 wd] 94)
      have hp3 := Cells.new W2 94 #[.int .i64 root, .int .i64 (aAt + at_), .int .i64 wd]
      have hs3 := hs1.below hB3 hs1.lt
      have hfr3 := hfr1.below hB3
      have hso3 := fun h => hso1 ((owned_below hfr1.ok hB3 _).1 h)
      have hpo3 := fresh_not_owned hfr1.ok hB3 hb2.size
      have hh3 := HoldsAt.of (n₀ := n₀) (below_cells hB3) hh1
      have hj3 := hst2.out _ _ _ hj1 hB3
      have hk3 := hk1.trans (Keeps.of_below hB3)
      clear g3 hb2 hs1 hfr1 hso1 hh1 hj1 hk1 hs0 hfr0 hso0 hy hb0 hB3
      generalize W2.alloc (.cells #[.int .i64 root, .int .i64 (aAt + at_), .int .i64 wd] 94) = W3 at hp3 hs3 hfr3 hso3 hpo3 hh3 hj3 hk3 ⊢
      refine wpIn_wide.2 ?_
      go_loopw [21] (fun i wr => ∃ k : Nat, i = .int .i64 k ∧ DownRel2 Ts n₀ J (pre ++ [⟨nm, wd, at_, .slice (some ⟨b', o', none⟩) subs.length c', deep, root, aAt, aW, av⟩]) (spotsIn (deep + 1) root (aAt + at_) wd (.slice (some ⟨b', o', none⟩) subs.length c') 0 subs) N (deep + 1) root (aAt + at_) wd (.slice (some ⟨b', o', none⟩) subs.length c') b' o' subs.length W.heap.size W2.heap.size #[.string nm, .int .i64 wd, .int .i64 at_, .slice (some ⟨b', o', none⟩) subs.length c', .int .i64 deep, .int .i64 root, .int .i64 aAt, .int .i64 aW, av] #[.int .i64 root, .int .i64 (aAt + at_), .int .i64 wd] W k wr) (fun i _ => subs.length - (intOf i).toNat)
      case atStart =>
        exact ⟨0, rfl, subs, [], ⟨by simp, by omega, by simpa using hh3, by simp, by simpa using hj3, hs3, hp3, hfr3, hso3, hpo3, hk3⟩⟩
      case round =>
        obtain ⟨k, rfl, rest, D, inv⟩ := hrel
        clear hp3 hs3 hfr3 hso3 hpo3 hh3 hj3 hk3
        cases rest with
        | nil =>
          have hlen := inv.len
          have hsaid := inv.said
          simp only [spotsIn, List.append_nil] at hsaid
          have hkl : ¬ k < subs.length := by simp only [RegL.length] at hlen; omega
          have hA := Lib.hid (And.intro inv.j inv.keeps)
          have hS := Lib.hid hsaid
          clear inv hlen hsaid
          go_wp2_with fail
          gi_wp2_with fail
          go_ret
          refine ⟨rfl, ?_, hA.out.2⟩
          have := hA.out.1
          rw [hS.out] at this
          simpa using this
        | cons nm2 wd2 at2 sv2 subs2 rest2 =>
          have hlen := inv.len
          simp only [RegL.length] at hlen
          have hkl : k < subs.length := by omega
          obtain ⟨hbn, ⟨e0, e1, e2, e3⟩, hrest2, hsl2⟩ := inv.holds
          obtain ⟨qa, qn, qc, rfl⟩ : ∃ a n c, sv2 = .slice a n c := by
            rcases hsl2 with ⟨⟨_, h⟩, _⟩ | ⟨b2, o2, c2, h, _⟩
            · exact ⟨_, _, _, h⟩
            · exact ⟨_, _, _, h⟩
          have htot := inv.total
          simp only [RegL.total] at htot
          have hsaid := inv.said
          simp only [spotsIn, headOf] at hsaid
          have hbr : Below wr.heap.size wr (wr.alloc (.cells #[.string nm2, .int .i64 wd2, .int .i64 at2, (.slice qa qn qc)] 76)) := (Below.refl _ _).alloc (Nat.le_refl _) _
          have hreg := Cells.new wr 76 #[.string nm2, .int .i64 wd2, .int .i64 at2, (.slice qa qn qc)]
          have C : ∀ V, Below (wr.alloc (.cells #[.string nm2, .int .i64 wd2, .int .i64 at2, (.slice qa qn qc)] 76)).heap.size (wr.alloc (.cells #[.string nm2, .int .i64 wd2, .int .i64 at2, (.slice qa qn qc)] 76)) V →
              Calls Tryz.prog 115 #[.agg #[.string nm2, .int .i64 wd2, .int .i64 at2, (.slice qa qn qc), .int .i64 (deep + 1), .int .i64 root, .int .i64 (aAt + at_), .int .i64 wd, .slice (some ⟨b', o', none⟩) k c'], .func (.yield l) #[] #[]] V fun e B =>
                e = .returned (.bool true) ∧ DownRel2 Ts n₀ J (pre ++ [⟨nm, wd, at_, .slice (some ⟨b', o', none⟩) subs.length c', deep, root, aAt, aW, av⟩]) (spotsIn (deep + 1) root (aAt + at_) wd (.slice (some ⟨b', o', none⟩) subs.length c') 0 subs) N (deep + 1) root (aAt + at_) wd (.slice (some ⟨b', o', none⟩) subs.length c') b' o' subs.length W.heap.size W2.heap.size #[.string nm, .int .i64 wd, .int .i64 at_, .slice (some ⟨b', o', none⟩) subs.length c', .int .i64 deep, .int .i64 root, .int .i64 aAt, .int .i64 aW, av] #[.int .i64 root, .int .i64 (aAt + at_), .int .i64 wd] W (k + 1) B ∧
                  (B.cell? ⟨wr.heap.size, 0, none⟩ = some (.string nm2) ∧ B.cell? ⟨wr.heap.size, 1, none⟩ = some (.int .i64 wd2) ∧ B.cell? ⟨wr.heap.size, 2, none⟩ = some (.int .i64 at2) ∧ B.cell? ⟨wr.heap.size, 3, none⟩ = some (.slice qa qn qc) ∧ B.cell? ⟨W.heap.size, 3, none⟩ = some (.slice (some ⟨b', o', none⟩) subs.length c') ∧ B.cell? ⟨W.heap.size, 4, none⟩ = some (.int .i64 deep) ∧ B.cell? ⟨W2.heap.size, 0, none⟩ = some (.int .i64 root) ∧ B.cell? ⟨W2.heap.size, 1, none⟩ = some (.int .i64 (aAt + at_)) ∧ B.cell? ⟨W2.heap.size, 2, none⟩ = some (.int .i64 wd)) := fun V hV => by
            have hbV := hbr.trans (hV.mono hbr.size)
            have hfrV := inv.free.below hbV
            have hregV := hreg.below hV hreg.lt
            refine (ihH.out nm2 wd2 at2 (.slice qa qn qc) (deep + 1) root (aAt + at_) wd (.slice (some ⟨b', o', none⟩) k c') subs2 (pre ++ [⟨nm, wd, at_, .slice (some ⟨b', o', none⟩) subs.length c', deep, root, aAt, aW, av⟩] ++ D) V (by omega) (SliceIs.of (below_cells hbV) hsl2) hfrV (hst2.out _ _ _ inv.j hbV) ?_).mono fun e B ⟨he, hjB, hkB⟩ => ?_
            · refine List.IsPrefix.trans ?_ hE
              refine ⟨spotsIn (deep + 1) root (aAt + at_) wd (.slice (some ⟨b', o', none⟩) subs.length c') (k + 1) rest2, ?_⟩
              rw [← hsaid]; simp
            · have hkV := (Keeps.of_below (Ts := Ts) hbV).trans hkB
              have hsB := hkV.cells inv.free.ok inv.s inv.so
              have hpB := hkV.cells inv.free.ok inv.p inv.po
              have hrB := hkB.cells hfrV.ok hregV (fresh_not_owned inv.free.ok hbV (Nat.le_refl _))
              refine ⟨he, ⟨rest2, D ++ (⟨nm2, wd2, at2, .slice qa qn qc, deep + 1, root, aAt + at_, wd, .slice (some ⟨b', o', none⟩) k c'⟩ :: spotsIn (deep + 1 + 1) root (aAt + at_ + at2) wd2 (.slice qa qn qc) 0 subs2),
                ⟨by omega, by omega, ?_, ?_, ?_, hsB, hpB, inv.free.keeps hkV, hkV.own inv.free.ok _ inv.s.lt inv.so, hkV.own inv.free.ok _ inv.p.lt inv.po, inv.keeps.trans hkV⟩⟩, hrB.cell rfl, hrB.cell rfl, hrB.cell rfl, hrB.cell rfl, hsB.cell rfl, hsB.cell rfl, hpB.cell rfl, hpB.cell rfl, hpB.cell rfl⟩
              · have := HoldsAt.of (n₀ := n₀) (inv.free.cells hkV) hrest2
                rw [show o' + (k + 1) * 4 = o' + k * 4 + 4 by omega]; exact this
              · rw [← hsaid]; simp
              · simpa using hjB
          have a3 := inv.s.cell (j := 3) (v := .slice (some ⟨b', o', none⟩) subs.length c') rfl
          have a4 := inv.s.cell (j := 4) (v := .int .i64 deep) rfl
          have p0 := inv.p.cell (j := 0) (v := .int .i64 root) rfl
          have p1 := inv.p.cell (j := 1) (v := .int .i64 (aAt + at_)) rfl
          have p2 := inv.p.cell (j := 2) (v := .int .i64 wd) rfl
          have n1 := World.new_ne wr _ a3
          have n2 := World.new_ne wr _ p0
          have k0 : (0 : Int) ≤ (k : Int) := Int.natCast_nonneg _
          have k1 : (k : Int) ≤ (c' : Int) := by omega
          have k2 : (k : Int) < (subs.length : Int) := by omega
          have hV0 : (wr.alloc (.cells #[.string nm2, .int .i64 wd2, .int .i64 at2, (.slice qa qn qc)] 76)).cell? ⟨wr.heap.size, 0, none⟩ = some (.string nm2) ∧ (wr.alloc (.cells #[.string nm2, .int .i64 wd2, .int .i64 at2, (.slice qa qn qc)] 76)).cell? ⟨wr.heap.size, 1, none⟩ = some (.int .i64 wd2) ∧ (wr.alloc (.cells #[.string nm2, .int .i64 wd2, .int .i64 at2, (.slice qa qn qc)] 76)).cell? ⟨wr.heap.size, 2, none⟩ = some (.int .i64 at2) ∧ (wr.alloc (.cells #[.string nm2, .int .i64 wd2, .int .i64 at2, (.slice qa qn qc)] 76)).cell? ⟨wr.heap.size, 3, none⟩ = some (.slice qa qn qc) ∧ (wr.alloc (.cells #[.string nm2, .int .i64 wd2, .int .i64 at2, (.slice qa qn qc)] 76)).cell? ⟨W.heap.size, 3, none⟩ = some (.slice (some ⟨b', o', none⟩) subs.length c') ∧ (wr.alloc (.cells #[.string nm2, .int .i64 wd2, .int .i64 at2, (.slice qa qn qc)] 76)).cell? ⟨W.heap.size, 4, none⟩ = some (.int .i64 deep) ∧ (wr.alloc (.cells #[.string nm2, .int .i64 wd2, .int .i64 at2, (.slice qa qn qc)] 76)).cell? ⟨W2.heap.size, 0, none⟩ = some (.int .i64 root) ∧ (wr.alloc (.cells #[.string nm2, .int .i64 wd2, .int .i64 at2, (.slice qa qn qc)] 76)).cell? ⟨W2.heap.size, 1, none⟩ = some (.int .i64 (aAt + at_)) ∧ (wr.alloc (.cells #[.string nm2, .int .i64 wd2, .int .i64 at2, (.slice qa qn qc)] 76)).cell? ⟨W2.heap.size, 2, none⟩ = some (.int .i64 wd) := ⟨hreg.cell rfl, hreg.cell rfl, hreg.cell rfl, hreg.cell rfl, cell_alloc _ a3, cell_alloc _ a4, cell_alloc _ p0, cell_alloc _ p1, cell_alloc _ p2⟩
          have hwd : IntKind.i64.wrap (deep + 1) = deep + 1 := IntWalk.i64_in _ (by omega)
          clear inv hrest2 hsl2 hreg hbr
          have hsaid := Lib.hid hsaid
          have hlen := Lib.hid hlen
          go_wp2
          clear a3 a4 p0 p1 p2 e0 e1 e2 e3 n1 n2
          generalize wr.alloc (.cells #[.string nm2, .int .i64 wd2, .int .i64 at2, (.slice qa qn qc)] 76) = V0 at C hV0 ⊢
          obtain ⟨f0, f1, f2, f3, f4, f5, f6, f7, f8⟩ := hV0
          go_region_held3 (fun w' => w'.cell? ⟨wr.heap.size, 0, none⟩ = some (.string nm2) ∧ w'.cell? ⟨wr.heap.size, 1, none⟩ = some (.int .i64 wd2) ∧ w'.cell? ⟨wr.heap.size, 2, none⟩ = some (.int .i64 at2) ∧ w'.cell? ⟨wr.heap.size, 3, none⟩ = some (.slice qa qn qc) ∧ w'.cell? ⟨W.heap.size, 3, none⟩ = some (.slice (some ⟨b', o', none⟩) subs.length c') ∧ w'.cell? ⟨W.heap.size, 4, none⟩ = some (.int .i64 deep) ∧ w'.cell? ⟨W2.heap.size, 0, none⟩ = some (.int .i64 root) ∧ w'.cell? ⟨W2.heap.size, 1, none⟩ = some (.int .i64 (aAt + at_)) ∧ w'.cell? ⟨W2.heap.size, 2, none⟩ = some (.int .i64 wd))
            (go_keep)
            ((go_at_call 115; refine (C _ ((Below.refl _ _).drew)).mono ?_; clear C; rintro e B ⟨rfl, hD, hcs⟩))
          clear hwd
          go_wp2_with fail
          gi_wp2_with fail
          exact ⟨⟨k + 1, by go_num, hD⟩, by simp [intOf]; omega⟩
/-- Where one list that is put ahead of another is cut. -/
theorem split_at {α : Type} {X Y A B : List α} {x : α} (h : X ++ Y = A ++ x :: B) : (∃ A3, A = X ++ A3 ∧ Y = A3 ++ x :: B) ∨ ∃ B3, X = A ++ x :: B3 := by
  rcases List.append_eq_append_iff.1 h with ⟨a', h1, h2⟩ | ⟨c', h1, h2⟩
  · exact .inl ⟨a', h1, h2⟩
  · cases c' with
    | nil => exact .inl ⟨[], by rw [h1]; simp, by simpa using h2.symm⟩
    | cons y c'' =>
      rw [List.cons_append] at h2
      obtain ⟨rfl, _⟩ := List.cons.inj h2
      exact .inr ⟨c'', h1⟩
def DownRelF (Ts : List Nat) (n₀ : Nat) (J : List Spot → World → Prop) (E : List Spot) (x0 : Spot) (pre1 S : List Spot) (N : Nat) (deep root pAt pW : Int) (sv : Value) (b' o' n : Nat) (Bs Bp : Nat) (cs cp : Array Value) (W : World) (k : Nat) (wr : World) : Prop :=
  ∃ rest D A B, spotsIn deep root pAt pW sv k rest = A ++ x0 :: B ∧ pre1 ++ D ++ A = E ∧ DownInv2 Ts n₀ J pre1 S N deep root pAt pW sv b' o' n Bs Bp cs cp W k rest D wr
set_option maxRecDepth 100000 in
set_option maxHeartbeats 4000000 in
theorem down_falls (Ts : List Nat) (n₀ l : Nat) (J : List Spot → World → Prop) (E : List Spot) (x0 : Spot) (chain : List PanicEntry) (R : World → Prop) (hcalm : ∀ x, x ∈ E → Calm x)
    (hst : ∀ pre A B, J pre A → Below A.heap.size A B → J pre B)
    (hY : ∀ pre x A, J pre A → pre ++ [x] <+: E → YieldAt Fence.wide 0 Tryz.prog l #[x.val] A fun e B => e = .returned (.bool true) ∧ J (pre ++ [x]) B ∧ Keeps Ts A B)
    (hX : ∀ A, J E A → YieldAt Fence.wide 0 Tryz.prog l #[x0.val] A fun e B => e = .panicked chain ∧ R B) :
    ∀ (N : Nat) (nm : ByteArray) (wd at_ : Int) (sv : Value) (deep root aAt aW : Int) (av : Value) (subs : RegL) (pre : List Spot) (W : World), subs.total < N → SliceIs n₀ W sv subs → Free Ts n₀ W → J pre W →
      (∃ A B, (⟨nm, wd, at_, sv, deep, root, aAt, aW, av⟩ :: spotsIn (deep + 1) root (aAt + at_) wd sv 0 subs) = A ++ x0 :: B ∧ pre ++ A = E) →
      Calls Tryz.prog 115 #[.agg #[.string nm, .int .i64 wd, .int .i64 at_, sv, .int .i64 deep, .int .i64 root, .int .i64 aAt, .int .i64 aW, av], .func (.yield l) #[] #[]] W fun e B =>
        e = .panicked chain ∧ R B := by
  intro N
  induction N with
  | zero => intro nm wd at_ sv deep root aAt aW av subs pre W h; exact absurd h (Nat.not_lt_zero _)
  | succ N ih =>
    intro nm wd at_ sv deep root aAt aW av subs pre W hN hsv hfr hj hE
    obtain ⟨A1, B1, hAB, hpA⟩ := hE
    cases A1 with
    | nil =>
      rw [List.nil_append] at hAB
      obtain ⟨hx0, _⟩ := List.cons.inj hAB
      rw [List.append_nil] at hpA
      have hY0 := hX _ (hst _ _ _ (hpA ▸ hj) ((Below.refl _ W).alloc (Nat.le_refl _) (.cells #[.string nm, .int .i64 wd, .int .i64 at_, sv, .int .i64 deep, .int .i64 root, .int .i64 aAt, .int .i64 aW, av] 123)))
      rw [← hx0] at hY0
      exact down_panics l nm wd at_ deep root aAt aW sv av chain R W hY0
    | cons y A2 =>
    rw [List.cons_append] at hAB
    obtain ⟨rfl, hS⟩ := List.cons.inj hAB
    have hE : pre ++ [⟨nm, wd, at_, sv, deep, root, aAt, aW, av⟩] <+: E := ⟨A2, by rw [← hpA]; simp⟩
    have ihH := Lib.hid ih
    clear ih hAB
    have hgood := Lib.hid (down_good Ts n₀ l J E hcalm hst hY)
    have hpA2 : pre ++ [⟨nm, wd, at_, sv, deep, root, aAt, aW, av⟩] ++ A2 = E := by rw [← hpA]; simp
    have hpA := Lib.hid hpA2
    clear hpA2
    obtain ⟨h1, h1', h2, h2', h4, h5⟩ := hcalm ⟨nm, wd, at_, sv, deep, root, aAt, aW, av⟩ (hE.subset (by simp))
    dsimp only at h1 h1' h2 h2' h4 h5
    -- the box of the spot; the round at the register itself
    have hb0 : Below W.heap.size W (W.alloc (.cells #[.string nm, .int .i64 wd, .int .i64 at_, sv, .int .i64 deep, .int .i64 root, .int .i64 aAt, .int .i64 aW, av] 123)) := (Below.refl _ _).alloc (Nat.le_refl _) _
    have hs0 := Cells.new W 123 #[.string nm, .int .i64 wd, .int .i64 at_, sv, .int .i64 deep, .int .i64 root, .int .i64 aAt, .int .i64 aW, av]
    have hfr0 := hfr.below hb0
    have hso0 := fresh_not_owned hfr.ok hb0 (Nat.le_refl W.heap.size)
    have hY0 := YieldAt.mono (R' := fun e B => e = .returned (.bool true) ∧ J (pre ++ [⟨nm, wd, at_, sv, deep, root, aAt, aW, av⟩]) B ∧ Keeps Ts W B ∧ Cells B W.heap.size 123 #[.string nm, .int .i64 wd, .int .i64 at_, sv, .int .i64 deep, .int .i64 root, .int .i64 aAt, .int .i64 aW, av] ∧ Free Ts n₀ B ∧ ¬ Owned Ts B W.heap.size ∧ SliceIs n₀ B sv subs)
      (yieldAt_any (m' := 0) (hY pre ⟨nm, wd, at_, sv, deep, root, aAt, aW, av⟩ _ (hst _ _ _ hj hb0) hE))
      (fun e B ⟨he, hj1, hk⟩ => ⟨he, hj1, (Keeps.of_below hb0).trans hk, hk.cells hfr0.ok hs0 hso0, hfr0.keeps hk, hk.own hfr0.ok _ (by simp) hso0, SliceIs.of (hfr0.cells hk) (SliceIs.of (below_cells hb0) hsv)⟩)
    obtain ⟨fn, tmps, assign, body, hy, hR⟩ := hY0
    unfold Spot.val at hy
    dsimp only at hy
    have C1 := fun B => in_any root aAt aW wd at_ nm sv B h1 (by omega) h2 (by omega)
    have hst2 := Lib.hid hst
    have hS2 := Lib.hid hS
    clear hst hY hX hj hsv hfr hS
    refine (callsIn_wide (n := 1)).1 ?_
    refine callsIn_of_wp Tryz.func115 rfl trivial ?_ rfl
    simp only [Tryz.ntmps115, List.size_toArray, List.length_cons, List.length_nil, Nat.reduceAdd, Nat.reduceSub, Array.replicate_succ, Array.replicate_zero, List.push_toArray, List.append_toArray, List.nil_append, List.cons_append]
    gi_wp2_with (first
      | (refine hR.mono ?_; clear hR; rintro e W1 ⟨rfl, hj1, hk1, hs1, hfr1, hso1, hsv1⟩; have d0 := hs1.cell (j := 0) (v := .string nm) rfl; have d1 := hs1.cell (j := 1) (v := .int .i64 wd) rfl; have d2 := hs1.cell (j := 2) (v := .int .i64 at_) rfl; have d3 := hs1.cell (j := 3) (v := sv) rfl; have d5 := hs1.cell (j := 5) (v := .int .i64 root) rfl; have d6 := hs1.cell (j := 6) (v := .int .i64 aAt) rfl; have d7 := hs1.cell (j := 7) (v := .int .i64 aW) rfl)
      | (refine ⟨trivial, ?_⟩; gi_at_call 121; refine (callsIn_wide.2 (C1 _)).mono ?_; clear C1; rintro e W2 ⟨rfl, hb2⟩; have g3 := fun o => cell_alloc o (cell_below hb2 d3); clear d0 d1 d2 d3 d5 d6 d7; rcases hsv1 with ⟨⟨a0, rfl⟩, rfl⟩ | ⟨b', o', c', rfl, hlc, hc200, hh1⟩))
    · exact absurd hS2.out (by simp [spotsIn])
    · have hB3 := hb2.alloc hb2.size (.cells #[.int .i64 root, .int .i64 (aAt + at_), .int .i64 wd] 94)
      have hp3 := Cells.new W2 94 #[.int .i64 root, .int .i64 (aAt + at_), .int .i64 wd]
      have hs3 := hs1.below hB3 hs1.lt
      have hfr3 := hfr1.below hB3
      have hso3 := fun h => hso1 ((owned_below hfr1.ok hB3 _).1 h)
      have hpo3 := fresh_not_owned hfr1.ok hB3 hb2.size
      have hh3 := HoldsAt.of (n₀ := n₀) (below_cells hB3) hh1
      have hj3 := hst2.out _ _ _ hj1 hB3
      have hk3 := hk1.trans (Keeps.of_below hB3)
      clear g3 hb2 hs1 hfr1 hso1 hh1 hj1 hk1 hs0 hfr0 hso0 hy hb0 hB3
      generalize W2.alloc (.cells #[.int .i64 root, .int .i64 (aAt + at_), .int .i64 wd] 94) = W3 at hp3 hs3 hfr3 hso3 hpo3 hh3 hj3 hk3 ⊢
      refine wpIn_wide.2 ?_
      go_loopw [21] (fun i wr => ∃ k : Nat, i = .int .i64 k ∧ DownRelF Ts n₀ J E x0 (pre ++ [⟨nm, wd, at_, .slice (some ⟨b', o', none⟩) subs.length c', deep, root, aAt, aW, av⟩]) (spotsIn (deep + 1) root (aAt + at_) wd (.slice (some ⟨b', o', none⟩) subs.length c') 0 subs) N (deep + 1) root (aAt + at_) wd (.slice (some ⟨b', o', none⟩) subs.length c') b' o' subs.length W.heap.size W2.heap.size #[.string nm, .int .i64 wd, .int .i64 at_, .slice (some ⟨b', o', none⟩) subs.length c', .int .i64 deep, .int .i64 root, .int .i64 aAt, .int .i64 aW, av] #[.int .i64 root, .int .i64 (aAt + at_), .int .i64 wd] W k wr) (fun i _ => subs.length - (intOf i).toNat)
      case atStart =>
        exact ⟨0, rfl, subs, [], A2, B1, hS2.out, by rw [List.append_nil]; exact hpA.out, ⟨by simp, by omega, by simpa using hh3, by simp, by simpa using hj3, hs3, hp3, hfr3, hso3, hpo3, hk3⟩⟩
      case round =>
        obtain ⟨k, rfl, rest, D, A3, B3, hrs, hpD, inv⟩ := hrel
        clear hp3 hs3 hfr3 hso3 hpo3 hh3 hj3 hk3
        cases rest with
        | nil =>
          exact absurd hrs (by simp [spotsIn])
        | cons nm2 wd2 at2 sv2 subs2 rest2 =>
          have hlen := inv.len
          simp only [RegL.length] at hlen
          have hkl : k < subs.length := by omega
          obtain ⟨hbn, ⟨e0, e1, e2, e3⟩, hrest2, hsl2⟩ := inv.holds
          obtain ⟨qa, qn, qc, rfl⟩ : ∃ a n c, sv2 = .slice a n c := by
            rcases hsl2 with ⟨⟨_, h⟩, _⟩ | ⟨b2, o2, c2, h, _⟩
            · exact ⟨_, _, _, h⟩
            · exact ⟨_, _, _, h⟩
          have htot := inv.total
          simp only [RegL.total] at htot
          have hsaid := inv.said
          simp only [spotsIn, headOf] at hsaid
          have hbr : Below wr.heap.size wr (wr.alloc (.cells #[.string nm2, .int .i64 wd2, .int .i64 at2, (.slice qa qn qc)] 76)) := (Below.refl _ _).alloc (Nat.le_refl _) _
          have hreg := Cells.new wr 76 #[.string nm2, .int .i64 wd2, .int .i64 at2, (.slice qa qn qc)]
          have a3 := inv.s.cell (j := 3) (v := .slice (some ⟨b', o', none⟩) subs.length c') rfl
          have a4 := inv.s.cell (j := 4) (v := .int .i64 deep) rfl
          have p0 := inv.p.cell (j := 0) (v := .int .i64 root) rfl
          have p1 := inv.p.cell (j := 1) (v := .int .i64 (aAt + at_)) rfl
          have p2 := inv.p.cell (j := 2) (v := .int .i64 wd) rfl
          have n1 := World.new_ne wr _ a3
          have n2 := World.new_ne wr _ p0
          have k0 : (0 : Int) ≤ (k : Int) := Int.natCast_nonneg _
          have k1 : (k : Int) ≤ (c' : Int) := by omega
          have k2 : (k : Int) < (subs.length : Int) := by omega
          have hV0 : (wr.alloc (.cells #[.string nm2, .int .i64 wd2, .int .i64 at2, (.slice qa qn qc)] 76)).cell? ⟨wr.heap.size, 0, none⟩ = some (.string nm2) ∧ (wr.alloc (.cells #[.string nm2, .int .i64 wd2, .int .i64 at2, (.slice qa qn qc)] 76)).cell? ⟨wr.heap.size, 1, none⟩ = some (.int .i64 wd2) ∧ (wr.alloc (.cells #[.string nm2, .int .i64 wd2, .int .i64 at2, (.slice qa qn qc)] 76)).cell? ⟨wr.heap.size, 2, none⟩ = some (.int .i64 at2) ∧ (wr.alloc (.cells #[.string nm2, .int .i64 wd2, .int .i64 at2, (.slice qa qn qc)] 76)).cell? ⟨wr.heap.size, 3, none⟩ = some (.slice qa qn qc) ∧ (wr.alloc (.cells #[.string nm2, .int .i64 wd2, .int .i64 at2, (.slice qa qn qc)] 76)).cell? ⟨W.heap.size, 3, none⟩ = some (.slice (some ⟨b', o', none⟩) subs.length c') ∧ (wr.alloc (.cells #[.string nm2, .int .i64 wd2, .int .i64 at2, (.slice qa qn qc)] 76)).cell? ⟨W.heap.size, 4, none⟩ = some (.int .i64 deep) ∧ (wr.alloc (.cells #[.string nm2, .int .i64 wd2, .int .i64 at2, (.slice qa qn qc)] 76)).cell? ⟨W2.heap.size, 0, none⟩ = some (.int .i64 root) ∧ (wr.alloc (.cells #[.string nm2, .int .i64 wd2, .int .i64 at2, (.slice qa qn qc)] 76)).cell? ⟨W2.heap.size, 1, none⟩ = some (.int .i64 (aAt + at_)) ∧ (wr.alloc (.cells #[.string nm2, .int .i64 wd2, .int .i64 at2, (.slice qa qn qc)] 76)).cell? ⟨W2.heap.size, 2, none⟩ = some (.int .i64 wd) := ⟨hreg.cell rfl, hreg.cell rfl, hreg.cell rfl, hreg.cell rfl, cell_alloc _ a3, cell_alloc _ a4, cell_alloc _ p0, cell_alloc _ p1, cell_alloc _ p2⟩
          have hwd : IntKind.i64.wrap (deep + 1) = deep + 1 := IntWalk.i64_in _ (by omega)
          simp only [spotsIn, headOf] at hrs
          rw [← List.cons_append] at hrs
          rcases split_at hrs with ⟨A4, hA4, hY4⟩ | ⟨B4, hB4⟩
          · have C : ∀ V, Below (wr.alloc (.cells #[.string nm2, .int .i64 wd2, .int .i64 at2, (.slice qa qn qc)] 76)).heap.size (wr.alloc (.cells #[.string nm2, .int .i64 wd2, .int .i64 at2, (.slice qa qn qc)] 76)) V →
                Calls Tryz.prog 115 #[.agg #[.string nm2, .int .i64 wd2, .int .i64 at2, (.slice qa qn qc), .int .i64 (deep + 1), .int .i64 root, .int .i64 (aAt + at_), .int .i64 wd, .slice (some ⟨b', o', none⟩) k c'], .func (.yield l) #[] #[]] V fun e B =>
                  e = .returned (.bool true) ∧ DownRelF Ts n₀ J E x0 (pre ++ [⟨nm, wd, at_, .slice (some ⟨b', o', none⟩) subs.length c', deep, root, aAt, aW, av⟩]) (spotsIn (deep + 1) root (aAt + at_) wd (.slice (some ⟨b', o', none⟩) subs.length c') 0 subs) N (deep + 1) root (aAt + at_) wd (.slice (some ⟨b', o', none⟩) subs.length c') b' o' subs.length W.heap.size W2.heap.size #[.string nm, .int .i64 wd, .int .i64 at_, .slice (some ⟨b', o', none⟩) subs.length c', .int .i64 deep, .int .i64 root, .int .i64 aAt, .int .i64 aW, av] #[.int .i64 root, .int .i64 (aAt + at_), .int .i64 wd] W (k + 1) B ∧
                    (B.cell? ⟨wr.heap.size, 0, none⟩ = some (.string nm2) ∧ B.cell? ⟨wr.heap.size, 1, none⟩ = some (.int .i64 wd2) ∧ B.cell? ⟨wr.heap.size, 2, none⟩ = some (.int .i64 at2) ∧ B.cell? ⟨wr.heap.size, 3, none⟩ = some (.slice qa qn qc) ∧ B.cell? ⟨W.heap.size, 3, none⟩ = some (.slice (some ⟨b', o', none⟩) subs.length c') ∧ B.cell? ⟨W.heap.size, 4, none⟩ = some (.int .i64 deep) ∧ B.cell? ⟨W2.heap.size, 0, none⟩ = some (.int .i64 root) ∧ B.cell? ⟨W2.heap.size, 1, none⟩ = some (.int .i64 (aAt + at_)) ∧ B.cell? ⟨W2.heap.size, 2, none⟩ = some (.int .i64 wd)) := fun V hV => by
              have hbV := hbr.trans (hV.mono hbr.size)
              have hfrV := inv.free.below hbV
              have hregV := hreg.below hV hreg.lt
              refine (hgood.out (subs2.total + 1) nm2 wd2 at2 (.slice qa qn qc) (deep + 1) root (aAt + at_) wd (.slice (some ⟨b', o', none⟩) k c') subs2 (pre ++ [⟨nm, wd, at_, .slice (some ⟨b', o', none⟩) subs.length c', deep, root, aAt, aW, av⟩] ++ D) V (Nat.lt_succ_self _) (SliceIs.of (below_cells hbV) hsl2) hfrV (hst2.out _ _ _ inv.j hbV) ?_).mono fun e B ⟨he, hjB, hkB⟩ => ?_
              · refine ⟨A4, ?_⟩
                rw [← hpD, hA4]; simp
              · have hkV := (Keeps.of_below (Ts := Ts) hbV).trans hkB
                have hsB := hkV.cells inv.free.ok inv.s inv.so
                have hpB := hkV.cells inv.free.ok inv.p inv.po
                have hrB := hkB.cells hfrV.ok hregV (fresh_not_owned inv.free.ok hbV (Nat.le_refl _))
                refine ⟨he, ⟨rest2, D ++ (⟨nm2, wd2, at2, .slice qa qn qc, deep + 1, root, aAt + at_, wd, .slice (some ⟨b', o', none⟩) k c'⟩ :: spotsIn (deep + 1 + 1) root (aAt + at_ + at2) wd2 (.slice qa qn qc) 0 subs2), A4, B3, hY4, by rw [← hpD, hA4]; simp,
                  ⟨by omega, by omega, ?_, ?_, ?_, hsB, hpB, inv.free.keeps hkV, hkV.own inv.free.ok _ inv.s.lt inv.so, hkV.own inv.free.ok _ inv.p.lt inv.po, inv.keeps.trans hkV⟩⟩, hrB.cell rfl, hrB.cell rfl, hrB.cell rfl, hrB.cell rfl, hsB.cell rfl, hsB.cell rfl, hpB.cell rfl, hpB.cell rfl, hpB.cell rfl⟩
                · have := HoldsAt.of (n₀ := n₀) (inv.free.cells hkV) hrest2
                  rw [show o' + (k + 1) * 4 = o' + k * 4 + 4 by omega]; exact this
                · rw [← hsaid]; simp
                · simpa using hjB
            clear inv hrest2 hsl2 hreg hbr
            have hsaid := Lib.hid hsaid
            have hlen := Lib.hid hlen
            go_wp2
            clear a3 a4 p0 p1 p2 e0 e1 e2 e3 n1 n2
            generalize wr.alloc (.cells #[.string nm2, .int .i64 wd2, .int .i64 at2, (.slice qa qn qc)] 76) = V0 at C hV0 ⊢
            obtain ⟨f0, f1, f2, f3, f4, f5, f6, f7, f8⟩ := hV0
            go_region_held3 (fun w' => w'.cell? ⟨wr.heap.size, 0, none⟩ = some (.string nm2) ∧ w'.cell? ⟨wr.heap.size, 1, none⟩ = some (.int .i64 wd2) ∧ w'.cell? ⟨wr.heap.size, 2, none⟩ = some (.int .i64 at2) ∧ w'.cell? ⟨wr.heap.size, 3, none⟩ = some (.slice qa qn qc) ∧ w'.cell? ⟨W.heap.size, 3, none⟩ = some (.slice (some ⟨b', o', none⟩) subs.length c') ∧ w'.cell? ⟨W.heap.size, 4, none⟩ = some (.int .i64 deep) ∧ w'.cell? ⟨W2.heap.size, 0, none⟩ = some (.int .i64 root) ∧ w'.cell? ⟨W2.heap.size, 1, none⟩ = some (.int .i64 (aAt + at_)) ∧ w'.cell? ⟨W2.heap.size, 2, none⟩ = some (.int .i64 wd))
              (go_keep)
              ((go_at_call 115; refine (C _ ((Below.refl _ _).drew)).mono ?_; clear C; rintro e B ⟨rfl, hD, hcs⟩))
            clear hwd
            go_wp2_with fail
            gi_wp2_with fail
            exact ⟨⟨k + 1, by go_num, hD⟩, by simp [intOf]; omega⟩
          · have C : ∀ V, Below (wr.alloc (.cells #[.string nm2, .int .i64 wd2, .int .i64 at2, (.slice qa qn qc)] 76)).heap.size (wr.alloc (.cells #[.string nm2, .int .i64 wd2, .int .i64 at2, (.slice qa qn qc)] 76)) V →
                Calls Tryz.prog 115 #[.agg #[.string nm2, .int .i64 wd2, .int .i64 at2, (.slice qa qn qc), .int .i64 (deep + 1), .int .i64 root, .int .i64 (aAt + at_), .int .i64 wd, .slice (some ⟨b', o', none⟩) k c'], .func (.yield l) #[] #[]] V fun e B => e = .panicked chain ∧ R B := fun V hV => by
              have hbV := hbr.trans (hV.mono hbr.size)
              exact ihH.out nm2 wd2 at2 (.slice qa qn qc) (deep + 1) root (aAt + at_) wd (.slice (some ⟨b', o', none⟩) k c') subs2 (pre ++ [⟨nm, wd, at_, .slice (some ⟨b', o', none⟩) subs.length c', deep, root, aAt, aW, av⟩] ++ D) V (by omega) (SliceIs.of (below_cells hbV) hsl2) (inv.free.below hbV) (hst2.out _ _ _ inv.j hbV) ⟨A3, B4, hB4, by simpa using hpD⟩
            clear inv hrest2 hsl2 hreg hbr
            have hsaid := Lib.hid hsaid
            have hlen := Lib.hid hlen
            go_wp2
            clear a3 a4 p0 p1 p2 e0 e1 e2 e3 n1 n2
            generalize wr.alloc (.cells #[.string nm2, .int .i64 wd2, .int .i64 at2, (.slice qa qn qc)] 76) = V0 at C hV0 ⊢
            obtain ⟨f0, f1, f2, f3, f4, f5, f6, f7, f8⟩ := hV0
            go_still_tail 12, (by kernel_rfl)
            go_wp2_with (go_at_call 115; refine (C _ ((Below.refl _ _).drew)).mono ?_; clear C; rintro e B ⟨rfl, hRB⟩)
            exact ⟨rfl, rfl, hRB⟩
end Go.Proofs.YtfhllbnpkcgfdaaGreatDoor
