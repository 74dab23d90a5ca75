/-
  geom's 'down': the registers within one that lies in memory are told, each ahead of those within it.
-/
import Derived.Test.YtgnnipnnnebpiaaGreatDoorGeoC
import Derived.Test.YtgnnipnnnebpiaaGreatDoorRange
import Derived.RangeFuncNested
import Derived.RangeFuncBound
import Derived.RangeFuncCalls
import Derived.RangeFuncLeaves
import Derived.OwnWalkIn
import Derived.TacticsInMore
import Derived.LoopNIn
import Derived.LoopIn
import Derived.LoopTactic
import Derived.WalkMore
import Derived.Deep.RegionHeld3
import Derived.IntWalk
import Derived.StillTactics
import Derived.OwnWalk
import Derived.Laws.Pointers
namespace Go.Proofs.YtgnnipnnnebpiaaGreatDoor
open Go.RowKit Go.Shelf

attribute [local go_sem] Oper.semAt_some

/-- Registers within registers: the first of a list (its name, its width, where it begins, the slice of those within it as a value), those within it, those behind it. -/
inductive RegL where
  | nil
  | cons (name : ByteArray) (wd at_ : Int) (sv : Value) (subs rest : RegL)
def RegL.length : RegL → Nat
  | .nil => 0
  | .cons _ _ _ _ _ rest => rest.length + 1
/-- How many registers there are, all together. -/
def RegL.total : RegL → Nat
  | .nil => 0
  | .cons _ _ _ _ subs rest => 1 + subs.total + rest.total

/-- A spot, as its nine cells say it. -/
structure Spot where
  name : ByteArray
  wd : Int
  at_ : Int
  sv : Value
  deep : Int
  root : Int
  aAt : Int
  aW : Int
  av : Value
def Spot.val (x : Spot) : Value := .agg #[.string x.name, .int .i64 x.wd, .int .i64 x.at_, x.sv, .int .i64 x.deep, .int .i64 x.root, .int .i64 x.aAt, .int .i64 x.aW, x.av]

/-- The first i of what a slice stands over. -/
def headOf (sv : Value) (i : Nat) : Value :=
  match sv with
  | .slice (some a) _ c => .slice (some a) i c
  | v => v
/-- The spots of the registers of a list from its i-th on, and of those within them; sv: the slice of the whole list. -/
def spotsIn (deep root aAt aW : Int) (sv : Value) (i : Nat) : RegL → List Spot
  | .nil => []
  | .cons nm wd at_ v subs rest => { name := nm, wd, at_, sv := v, deep, root, aAt, aW, av := headOf sv i } :: (spotsIn (deep + 1) root (aAt + at_) wd v 0 subs ++ spotsIn deep root aAt aW sv (i + 1) rest)

/-- The heap holds the list from place o of block b on, below n₀; its numbers are small, its header fits. -/
def HoldsAt (n₀ : Nat) (W : World) (b : Nat) : Nat → RegL → Prop
  | _, .nil => True
  | o, .cons nm wd at_ sv subs rest => b < n₀ ∧ RegAt W b o ⟨nm, wd, at_, sv⟩ ∧ HoldsAt n₀ W b (o + 4) rest ∧
      ((sv = .slice none 0 0 ∧ subs = .nil) ∨ ∃ b' o' c', sv = .slice (some ⟨b', o', none⟩) subs.length c' ∧ subs.length ≤ c' ∧ subs.length ≤ 1000 ∧ HoldsAt n₀ W b' o' subs)
/-- sv is the slice of the list. -/
def SliceIs (n₀ : Nat) (W : World) (sv : Value) (subs : RegL) : Prop :=
  (sv = .slice none 0 0 ∧ subs = .nil) ∨ ∃ b' o' c', sv = .slice (some ⟨b', o', none⟩) subs.length c' ∧ subs.length ≤ c' ∧ subs.length ≤ 1000 ∧ HoldsAt n₀ W b' o' subs

theorem regAt_of {W W' : World} {b o : Nat} {r : RegD} (h : RegAt W b o r) (hc : ∀ j v, W.cell? ⟨b, j, none⟩ = some v → W'.cell? ⟨b, j, none⟩ = some v) : RegAt W' b o r :=
  ⟨hc _ _ h.1, hc _ _ h.2.1, hc _ _ h.2.2.1, hc _ _ h.2.2.2⟩
theorem HoldsAt.of {n₀ : Nat} {W W' : World} (hc : ∀ b j v, b < n₀ → W.cell? ⟨b, j, none⟩ = some v → W'.cell? ⟨b, j, none⟩ = some v) : ∀ {L : RegL} {b o : Nat}, HoldsAt n₀ W b o L → HoldsAt n₀ W' b o L
  | .nil, _, _, _ => trivial
  | .cons _ _ _ _ _ _, _, _, ⟨hb, hr, hrest, hs⟩ => ⟨hb, regAt_of hr (fun j v => hc _ j v hb), HoldsAt.of hc hrest, hs.elim .inl (fun ⟨b', o', c', e, h1, h2, h3⟩ => .inr ⟨b', o', c', e, h1, h2, HoldsAt.of hc h3⟩)⟩
theorem SliceIs.of {n₀ : Nat} {W W' : World} (hc : ∀ b j v, b < n₀ → W.cell? ⟨b, j, none⟩ = some v → W'.cell? ⟨b, j, none⟩ = some v) {sv : Value} {L : RegL} (h : SliceIs n₀ W sv L) : SliceIs n₀ W' sv L :=
  h.elim .inl (fun ⟨b', o', c', e, h1, h2, h3⟩ => .inr ⟨b', o', c', e, h1, h2, HoldsAt.of hc h3⟩)

/-- What a world must be like for the iterator's memory to be read in it: nothing below n₀ is the owner's. -/
structure Free (Ts : List Nat) (n₀ : Nat) (W : World) : Prop where
  ok : OwnedOk Ts W
  le : n₀ ≤ W.heap.size
  free : ∀ b, b < n₀ → ¬ Owned Ts W b
theorem Free.below {Ts : List Nat} {n₀ : Nat} {A B : World} (h : Free Ts n₀ A) (hb : Below A.heap.size A B) : Free Ts n₀ B :=
  ⟨h.ok.below hb, Nat.le_trans h.le hb.size, fun b hlt ho => h.free b hlt ((owned_below h.ok hb b).1 ho)⟩
theorem Free.keeps {Ts : List Nat} {n₀ : Nat} {A B : World} (h : Free Ts n₀ A) (hk : Keeps Ts A B) : Free Ts n₀ B :=
  ⟨hk.ok h.ok, Nat.le_trans h.le hk.size, fun b hlt => hk.own h.ok b (Nat.lt_of_lt_of_le hlt h.le) (h.free b hlt)⟩
theorem Free.cells {Ts : List Nat} {n₀ : Nat} {A B : World} (h : Free Ts n₀ A) (hk : Keeps Ts A B) : ∀ b j v, b < n₀ → A.cell? ⟨b, j, none⟩ = some v → B.cell? ⟨b, j, none⟩ = some v :=
  fun b _ _ hlt hc => hk.cell h.ok hc (h.free b hlt)
theorem below_cells {n₀ : Nat} {A B : World} (hb : Below A.heap.size A B) : ∀ b j v, b < n₀ → A.cell? ⟨b, j, none⟩ = some v → B.cell? ⟨b, j, none⟩ = some v := fun _ _ _ _ hc => cell_below hb hc

theorem roundIn_any {m m' : Nat} {P : Program} {l : Nat} {f : FuncId} {tmps : Array Value} {assign body : Code} {w : World} {R : Ending → World → Prop} (h : RoundIn Fence.wide m P l f tmps assign body w R) : RoundIn Fence.wide m' P l f tmps assign body w R :=
  ⟨h.1, fun c cs _ => h.2 c cs (room_wide _)⟩
theorem yieldAt_any {m m' : Nat} {P : Program} {l : Nat} {args : Array Value} {W : World} {R : Ending → World → Prop} (h : YieldAt Fence.wide m P l args W R) : YieldAt Fence.wide m' P l args W R := by
  obtain ⟨fn, tmps, assign, body, hy, hR⟩ := h
  exact ⟨fn, tmps, assign, body, hy, roundIn_any hR⟩

/-- How deep registers lie within registers. -/
def RegL.height : RegL → Nat
  | .nil => 0
  | .cons _ _ _ _ subs rest => max (1 + subs.height) rest.height
/-- The numbers of every register of the list are small. -/
def RegL.small : RegL → Prop
  | .nil => True
  | .cons _ wd at_ _ subs rest => (0 ≤ at_ ∧ at_ ≤ 64 ∧ 1 ≤ wd ∧ wd ≤ 64) ∧ subs.small ∧ rest.small

/-- What holds at the head of the loop over the registers within one: k of them have been gone over. -/
structure DownInv (Ts : List Nat) (n₀ : Nat) (J : List Spot → World → Prop) (pre1 S : List Spot) (N : Nat) (hgt : Nat) (deep root pAt pW : Int) (sv : Value) (b' o' n : Nat) (Bs Bp : Nat) (cs cp : Array Value) (W : World) (k : Nat) (rest : RegL) (D : List Spot) (wr : World) : Prop where
  len : k + rest.length = n
  small : rest.small
  total : rest.total ≤ N
  height : rest.height ≤ hgt
  holds : HoldsAt n₀ wr b' (o' + k * 4) rest
  said : D ++ spotsIn deep root pAt pW sv k rest = S
  j : J (pre1 ++ D) wr
  s : Cells wr Bs 51 cs
  p : Cells wr Bp 34 cp
  free : Free Ts n₀ wr
  so : ¬ Owned Ts wr Bs
  po : ¬ Owned Ts wr Bp
  keeps : Keeps Ts W wr

def DownRel (Ts : List Nat) (n₀ : Nat) (J : List Spot → World → Prop) (pre1 S : List Spot) (N hgt : Nat) (deep root pAt pW : Int) (sv : Value) (b' o' n : Nat) (Bs Bp : Nat) (cs cp : Array Value) (W : World) (k : Nat) (wr : World) : Prop :=
  ∃ rest D, DownInv Ts n₀ J pre1 S N hgt deep root pAt pW sv b' o' n Bs Bp cs cp W k rest D wr

theorem Keeps.cells {Ts : List Nat} {A B : World} (h : Keeps Ts A B) (ok : OwnedOk Ts A) {b : Nat} {t : TypeId} {cs : Array Value} (hc : Cells A b t cs) (ho : ¬ Owned Ts A b) : Cells B b t cs := h.keep ok b _ hc rfl ho

set_option maxRecDepth 100000 in
set_option maxHeartbeats 4000000 in
theorem down_tells (Ts : List Nat) (n₀ l : Nat) (J : List Spot → World → Prop) (E : List Spot)
    (hst : ∀ pre A B, J pre A → Below A.heap.size A B → J pre B)
    (hY : ∀ pre x A, J pre A → pre ++ [x] <+: E → YieldAt Fence.wide 0 Tryz.prog l #[x.val] A fun e B => e = .returned (.bool true) ∧ J (pre ++ [x]) B ∧ Keeps Ts A B) :
    ∀ (N : Nat) (nm : ByteArray) (wd at_ : Int) (sv : Value) (deep root aAt aW : Int) (av : Value) (subs : RegL) (pre : List Spot) (W : World), subs.total < N → SliceIs n₀ W sv subs → subs.small → Free Ts n₀ W → J pre W →
      0 ≤ aAt → 0 ≤ at_ → aAt + at_ + 64 * (subs.height : Int) ≤ 500 → 0 ≤ deep → deep + subs.height ≤ 500 →
      pre ++ (⟨nm, wd, at_, sv, deep, root, aAt, aW, av⟩ :: spotsIn (deep + 1) root (aAt + at_) wd sv 0 subs) <+: E →
      Calls Tryz.prog 22 #[.agg #[.string nm, .int .i64 wd, .int .i64 at_, sv, .int .i64 deep, .int .i64 root, .int .i64 aAt, .int .i64 aW, av], .func (.yield l) #[] #[]] W fun e B =>
        e = .returned (.bool true) ∧ J (pre ++ (⟨nm, wd, at_, sv, deep, root, aAt, aW, av⟩ :: spotsIn (deep + 1) root (aAt + at_) wd sv 0 subs)) B ∧ Keeps Ts W B := by
  intro N
  induction N with
  | zero => intro nm wd at_ sv deep root aAt aW av subs pre W h; exact absurd h (Nat.not_lt_zero _)
  | succ N ih =>
    intro nm wd at_ sv deep root aAt aW av subs pre W hN hsv hsm hfr hj h1 h2 h3 h4 h5 hE
    have ihH := Lib.hid ih
    clear ih
    -- the box of the spot; the round at the register itself
    have hb0 : Below W.heap.size W (W.alloc (.cells #[.string nm, .int .i64 wd, .int .i64 at_, sv, .int .i64 deep, .int .i64 root, .int .i64 aAt, .int .i64 aW, av] 51)) := (Below.refl _ _).alloc (Nat.le_refl _) _
    have hs0 := Cells.new W 51 #[.string nm, .int .i64 wd, .int .i64 at_, sv, .int .i64 deep, .int .i64 root, .int .i64 aAt, .int .i64 aW, av]
    have hfr0 := hfr.below hb0
    have hso0 := fresh_not_owned hfr.ok hb0 (Nat.le_refl W.heap.size)
    have hY0 := YieldAt.mono (R' := fun e B => e = .returned (.bool true) ∧ J (pre ++ [⟨nm, wd, at_, sv, deep, root, aAt, aW, av⟩]) B ∧ Keeps Ts W B ∧ Cells B W.heap.size 51 #[.string nm, .int .i64 wd, .int .i64 at_, sv, .int .i64 deep, .int .i64 root, .int .i64 aAt, .int .i64 aW, av] ∧ Free Ts n₀ B ∧ ¬ Owned Ts B W.heap.size ∧ SliceIs n₀ B sv subs)
      (yieldAt_any (m' := 0) (hY pre ⟨nm, wd, at_, sv, deep, root, aAt, aW, av⟩ _ (hst _ _ _ hj hb0) (by
        refine List.IsPrefix.trans ?_ hE
        exact ⟨spotsIn (deep + 1) root (aAt + at_) wd sv 0 subs, by simp⟩)))
      (fun e B ⟨he, hj1, hk⟩ => ⟨he, hj1, (Keeps.of_below hb0).trans hk, hk.cells hfr0.ok hs0 hso0, hfr0.keeps hk, hk.own hfr0.ok _ (by simp) hso0, SliceIs.of (hfr0.cells hk) (SliceIs.of (below_cells hb0) hsv)⟩)
    obtain ⟨fn, tmps, assign, body, hy, hR⟩ := hY0
    unfold Spot.val at hy
    dsimp only at hy
    have C1 := fun B => in_any root aAt aW wd at_ nm sv B h1 (by omega) h2 (by omega)
    have hst2 := Lib.hid hst
    have hY2 := Lib.hid hY
    clear hst hY hj hsv hfr
    refine (callsIn_wide (n := 1)).1 ?_
    refine callsIn_of_wp Tryz.func22 rfl trivial ?_ rfl
    simp only [Tryz.ntmps22, List.size_toArray, List.length_cons, List.length_nil, Nat.reduceAdd, Nat.reduceSub, Array.replicate_succ, Array.replicate_zero, List.push_toArray, List.append_toArray, List.nil_append, List.cons_append]
    gi_wp2_with (first
      | (refine hR.mono ?_; clear hR; rintro e W1 ⟨rfl, hj1, hk1, hs1, hfr1, hso1, hsv1⟩; have d0 := hs1.cell (j := 0) (v := .string nm) rfl; have d1 := hs1.cell (j := 1) (v := .int .i64 wd) rfl; have d2 := hs1.cell (j := 2) (v := .int .i64 at_) rfl; have d3 := hs1.cell (j := 3) (v := sv) rfl; have d5 := hs1.cell (j := 5) (v := .int .i64 root) rfl; have d6 := hs1.cell (j := 6) (v := .int .i64 aAt) rfl; have d7 := hs1.cell (j := 7) (v := .int .i64 aW) rfl)
      | (refine ⟨trivial, ?_⟩; gi_at_call 28; refine (callsIn_wide.2 (C1 _)).mono ?_; clear C1; rintro e W2 ⟨rfl, hb2⟩; have g3 := fun o => cell_alloc o (cell_below hb2 d3); clear d0 d1 d2 d3 d5 d6 d7; rcases hsv1 with ⟨rfl, rfl⟩ | ⟨b', o', c', rfl, hlc, hc200, hh1⟩))
    · refine wpIn_loop_rounds 1 ?_
      rw [roundsIn_succ]
      gi_wp2_with fail
      go_ret
      have hB3 := hb2.alloc hb2.size (.cells #[.int .i64 root, .int .i64 (aAt + at_), .int .i64 wd] 34)
      exact ⟨rfl, hst2.out _ _ _ hj1 hB3, hk1.trans (Keeps.of_below hB3)⟩
    · have hB3 := hb2.alloc hb2.size (.cells #[.int .i64 root, .int .i64 (aAt + at_), .int .i64 wd] 34)
      have hp3 := Cells.new W2 34 #[.int .i64 root, .int .i64 (aAt + at_), .int .i64 wd]
      have hs3 := hs1.below hB3 hs1.lt
      have hfr3 := hfr1.below hB3
      have hso3 := fun h => hso1 ((owned_below hfr1.ok hB3 _).1 h)
      have hpo3 := fresh_not_owned hfr1.ok hB3 hb2.size
      have hh3 := HoldsAt.of (n₀ := n₀) (below_cells hB3) hh1
      have hj3 := hst2.out _ _ _ hj1 hB3
      have hk3 := hk1.trans (Keeps.of_below hB3)
      clear g3 hb2 hs1 hfr1 hso1 hh1 hj1 hk1 hs0 hfr0 hso0 hy hb0 hB3
      generalize W2.alloc (.cells #[.int .i64 root, .int .i64 (aAt + at_), .int .i64 wd] 34) = W3 at hp3 hs3 hfr3 hso3 hpo3 hh3 hj3 hk3 ⊢
      refine wpIn_wide.2 ?_
      go_loopw [21] (fun i wr => ∃ k : Nat, i = .int .i64 k ∧ DownRel Ts n₀ J (pre ++ [⟨nm, wd, at_, .slice (some ⟨b', o', none⟩) subs.length c', deep, root, aAt, aW, av⟩]) (spotsIn (deep + 1) root (aAt + at_) wd (.slice (some ⟨b', o', none⟩) subs.length c') 0 subs) N subs.height (deep + 1) root (aAt + at_) wd (.slice (some ⟨b', o', none⟩) subs.length c') b' o' subs.length W.heap.size W2.heap.size #[.string nm, .int .i64 wd, .int .i64 at_, .slice (some ⟨b', o', none⟩) subs.length c', .int .i64 deep, .int .i64 root, .int .i64 aAt, .int .i64 aW, av] #[.int .i64 root, .int .i64 (aAt + at_), .int .i64 wd] W k wr) (fun i _ => subs.length - (intOf i).toNat)
      case atStart =>
        exact ⟨0, rfl, subs, [], ⟨by simp, hsm, by omega, Nat.le_refl _, by simpa using hh3, by simp, by simpa using hj3, hs3, hp3, hfr3, hso3, hpo3, hk3⟩⟩
      case round =>
        obtain ⟨k, rfl, rest, D, inv⟩ := hrel
        clear hp3 hs3 hfr3 hso3 hpo3 hh3 hj3 hk3
        cases rest with
        | nil =>
          have hlen := inv.len
          have hsaid := inv.said
          simp only [spotsIn, List.append_nil] at hsaid
          have hkl : ¬ k < subs.length := by simp only [RegL.length] at hlen; omega
          have hA := Lib.hid (And.intro inv.j inv.keeps)
          have hS := Lib.hid hsaid
          clear inv hlen hsaid
          go_wp2_with fail
          gi_wp2_with fail
          go_ret
          refine ⟨rfl, ?_, hA.out.2⟩
          have := hA.out.1
          rw [hS.out] at this
          simpa using this
        | cons nm2 wd2 at2 sv2 subs2 rest2 =>
          have hlen := inv.len
          simp only [RegL.length] at hlen
          have hkl : k < subs.length := by omega
          obtain ⟨hbn, ⟨e0, e1, e2, e3⟩, hrest2, hsl2⟩ := inv.holds
          obtain ⟨qa, qn, qc, rfl⟩ : ∃ a n c, sv2 = .slice a n c := by
            rcases hsl2 with ⟨h, _⟩ | ⟨b2, o2, c2, h, _⟩
            · exact ⟨_, _, _, h⟩
            · exact ⟨_, _, _, h⟩
          obtain ⟨⟨s1, s2, s3, s4⟩, hsm2, hsmr⟩ := inv.small
          have htot := inv.total
          have hht := inv.height
          simp only [RegL.total] at htot
          simp only [RegL.height] at hht
          have hsaid := inv.said
          simp only [spotsIn, headOf] at hsaid
          have hbr : Below wr.heap.size wr (wr.alloc (.cells #[.string nm2, .int .i64 wd2, .int .i64 at2, (.slice qa qn qc)] 26)) := (Below.refl _ _).alloc (Nat.le_refl _) _
          have hreg := Cells.new wr 26 #[.string nm2, .int .i64 wd2, .int .i64 at2, (.slice qa qn qc)]
          have C : ∀ V, Below (wr.alloc (.cells #[.string nm2, .int .i64 wd2, .int .i64 at2, (.slice qa qn qc)] 26)).heap.size (wr.alloc (.cells #[.string nm2, .int .i64 wd2, .int .i64 at2, (.slice qa qn qc)] 26)) V →
              Calls Tryz.prog 22 #[.agg #[.string nm2, .int .i64 wd2, .int .i64 at2, (.slice qa qn qc), .int .i64 (deep + 1), .int .i64 root, .int .i64 (aAt + at_), .int .i64 wd, .slice (some ⟨b', o', none⟩) k c'], .func (.yield l) #[] #[]] V fun e B =>
                e = .returned (.bool true) ∧ DownRel Ts n₀ J (pre ++ [⟨nm, wd, at_, .slice (some ⟨b', o', none⟩) subs.length c', deep, root, aAt, aW, av⟩]) (spotsIn (deep + 1) root (aAt + at_) wd (.slice (some ⟨b', o', none⟩) subs.length c') 0 subs) N subs.height (deep + 1) root (aAt + at_) wd (.slice (some ⟨b', o', none⟩) subs.length c') b' o' subs.length W.heap.size W2.heap.size #[.string nm, .int .i64 wd, .int .i64 at_, .slice (some ⟨b', o', none⟩) subs.length c', .int .i64 deep, .int .i64 root, .int .i64 aAt, .int .i64 aW, av] #[.int .i64 root, .int .i64 (aAt + at_), .int .i64 wd] W (k + 1) B ∧
                  (B.cell? ⟨wr.heap.size, 0, none⟩ = some (.string nm2) ∧ B.cell? ⟨wr.heap.size, 1, none⟩ = some (.int .i64 wd2) ∧ B.cell? ⟨wr.heap.size, 2, none⟩ = some (.int .i64 at2) ∧ B.cell? ⟨wr.heap.size, 3, none⟩ = some (.slice qa qn qc) ∧ B.cell? ⟨W.heap.size, 3, none⟩ = some (.slice (some ⟨b', o', none⟩) subs.length c') ∧ B.cell? ⟨W.heap.size, 4, none⟩ = some (.int .i64 deep) ∧ B.cell? ⟨W2.heap.size, 0, none⟩ = some (.int .i64 root) ∧ B.cell? ⟨W2.heap.size, 1, none⟩ = some (.int .i64 (aAt + at_)) ∧ B.cell? ⟨W2.heap.size, 2, none⟩ = some (.int .i64 wd)) := fun V hV => by
            have hbV := hbr.trans (hV.mono hbr.size)
            have hfrV := inv.free.below hbV
            have hregV := hreg.below hV hreg.lt
            refine (ihH.out nm2 wd2 at2 (.slice qa qn qc) (deep + 1) root (aAt + at_) wd (.slice (some ⟨b', o', none⟩) k c') subs2 (pre ++ [⟨nm, wd, at_, .slice (some ⟨b', o', none⟩) subs.length c', deep, root, aAt, aW, av⟩] ++ D) V (by omega) (SliceIs.of (below_cells hbV) hsl2) hsm2 hfrV (hst2.out _ _ _ inv.j hbV) (by omega) (by omega) (by omega) (by omega) (by omega) ?_).mono fun e B ⟨he, hjB, hkB⟩ => ?_
            · refine List.IsPrefix.trans ?_ hE
              refine ⟨spotsIn (deep + 1) root (aAt + at_) wd (.slice (some ⟨b', o', none⟩) subs.length c') (k + 1) rest2, ?_⟩
              rw [← hsaid]; simp
            · have hkV := (Keeps.of_below (Ts := Ts) hbV).trans hkB
              have hsB := hkV.cells inv.free.ok inv.s inv.so
              have hpB := hkV.cells inv.free.ok inv.p inv.po
              have hrB := hkB.cells hfrV.ok hregV (fresh_not_owned inv.free.ok hbV (Nat.le_refl _))
              refine ⟨he, ⟨rest2, D ++ (⟨nm2, wd2, at2, .slice qa qn qc, deep + 1, root, aAt + at_, wd, .slice (some ⟨b', o', none⟩) k c'⟩ :: spotsIn (deep + 1 + 1) root (aAt + at_ + at2) wd2 (.slice qa qn qc) 0 subs2),
                ⟨by omega, hsmr, by omega, by omega, ?_, ?_, ?_, hsB, hpB, inv.free.keeps hkV, hkV.own inv.free.ok _ inv.s.lt inv.so, hkV.own inv.free.ok _ inv.p.lt inv.po, inv.keeps.trans hkV⟩⟩, hrB.cell rfl, hrB.cell rfl, hrB.cell rfl, hrB.cell rfl, hsB.cell rfl, hsB.cell rfl, hpB.cell rfl, hpB.cell rfl, hpB.cell rfl⟩
              · have := HoldsAt.of (n₀ := n₀) (inv.free.cells hkV) hrest2
                rw [show o' + (k + 1) * 4 = o' + k * 4 + 4 by omega]; exact this
              · rw [← hsaid]; simp
              · simpa using hjB
          have a3 := inv.s.cell (j := 3) (v := .slice (some ⟨b', o', none⟩) subs.length c') rfl
          have a4 := inv.s.cell (j := 4) (v := .int .i64 deep) rfl
          have p0 := inv.p.cell (j := 0) (v := .int .i64 root) rfl
          have p1 := inv.p.cell (j := 1) (v := .int .i64 (aAt + at_)) rfl
          have p2 := inv.p.cell (j := 2) (v := .int .i64 wd) rfl
          have n1 := World.new_ne wr _ a3
          have n2 := World.new_ne wr _ p0
          have k0 : (0 : Int) ≤ (k : Int) := Int.natCast_nonneg _
          have k1 : (k : Int) ≤ (c' : Int) := by omega
          have k2 : (k : Int) < (subs.length : Int) := by omega
          have hV0 : (wr.alloc (.cells #[.string nm2, .int .i64 wd2, .int .i64 at2, (.slice qa qn qc)] 26)).cell? ⟨wr.heap.size, 0, none⟩ = some (.string nm2) ∧ (wr.alloc (.cells #[.string nm2, .int .i64 wd2, .int .i64 at2, (.slice qa qn qc)] 26)).cell? ⟨wr.heap.size, 1, none⟩ = some (.int .i64 wd2) ∧ (wr.alloc (.cells #[.string nm2, .int .i64 wd2, .int .i64 at2, (.slice qa qn qc)] 26)).cell? ⟨wr.heap.size, 2, none⟩ = some (.int .i64 at2) ∧ (wr.alloc (.cells #[.string nm2, .int .i64 wd2, .int .i64 at2, (.slice qa qn qc)] 26)).cell? ⟨wr.heap.size, 3, none⟩ = some (.slice qa qn qc) ∧ (wr.alloc (.cells #[.string nm2, .int .i64 wd2, .int .i64 at2, (.slice qa qn qc)] 26)).cell? ⟨W.heap.size, 3, none⟩ = some (.slice (some ⟨b', o', none⟩) subs.length c') ∧ (wr.alloc (.cells #[.string nm2, .int .i64 wd2, .int .i64 at2, (.slice qa qn qc)] 26)).cell? ⟨W.heap.size, 4, none⟩ = some (.int .i64 deep) ∧ (wr.alloc (.cells #[.string nm2, .int .i64 wd2, .int .i64 at2, (.slice qa qn qc)] 26)).cell? ⟨W2.heap.size, 0, none⟩ = some (.int .i64 root) ∧ (wr.alloc (.cells #[.string nm2, .int .i64 wd2, .int .i64 at2, (.slice qa qn qc)] 26)).cell? ⟨W2.heap.size, 1, none⟩ = some (.int .i64 (aAt + at_)) ∧ (wr.alloc (.cells #[.string nm2, .int .i64 wd2, .int .i64 at2, (.slice qa qn qc)] 26)).cell? ⟨W2.heap.size, 2, none⟩ = some (.int .i64 wd) := ⟨hreg.cell rfl, hreg.cell rfl, hreg.cell rfl, hreg.cell rfl, cell_alloc _ a3, cell_alloc _ a4, cell_alloc _ p0, cell_alloc _ p1, cell_alloc _ p2⟩
          have hwd : IntKind.i64.wrap (deep + 1) = deep + 1 := IntWalk.i64_in _ (by omega)
          clear inv hrest2 hsl2 hsm2 hsmr hreg hbr
          have hsaid := Lib.hid hsaid
          have hlen := Lib.hid hlen
          go_wp2
          clear a3 a4 p0 p1 p2 e0 e1 e2 e3 n1 n2
          generalize wr.alloc (.cells #[.string nm2, .int .i64 wd2, .int .i64 at2, (.slice qa qn qc)] 26) = V0 at C hV0 ⊢
          obtain ⟨f0, f1, f2, f3, f4, f5, f6, f7, f8⟩ := hV0
          go_region_held3 (fun w' => w'.cell? ⟨wr.heap.size, 0, none⟩ = some (.string nm2) ∧ w'.cell? ⟨wr.heap.size, 1, none⟩ = some (.int .i64 wd2) ∧ w'.cell? ⟨wr.heap.size, 2, none⟩ = some (.int .i64 at2) ∧ w'.cell? ⟨wr.heap.size, 3, none⟩ = some (.slice qa qn qc) ∧ w'.cell? ⟨W.heap.size, 3, none⟩ = some (.slice (some ⟨b', o', none⟩) subs.length c') ∧ w'.cell? ⟨W.heap.size, 4, none⟩ = some (.int .i64 deep) ∧ w'.cell? ⟨W2.heap.size, 0, none⟩ = some (.int .i64 root) ∧ w'.cell? ⟨W2.heap.size, 1, none⟩ = some (.int .i64 (aAt + at_)) ∧ w'.cell? ⟨W2.heap.size, 2, none⟩ = some (.int .i64 wd))
            (go_keep)
            ((go_at_call 22; refine (C _ ((Below.refl _ _).drew)).mono ?_; clear C; rintro e B ⟨rfl, hD, hcs⟩))
          clear hwd
          go_wp2_with fail
          gi_wp2_with fail
          exact ⟨⟨k + 1, by go_num, hD⟩, by simp [intOf]; omega⟩
end Go.Proofs.YtgnnipnnnebpiaaGreatDoor
