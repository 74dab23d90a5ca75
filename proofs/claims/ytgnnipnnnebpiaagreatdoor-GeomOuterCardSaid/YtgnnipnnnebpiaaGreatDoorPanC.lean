/-
  geom's iterator over outer registers the k-th of which makes the loop's body panic: it tells those ahead of it, then that one, and passes the panic on.
-/
import Derived.Test.YtgnnipnnnebpiaaGreatDoorGeoF
import Derived.Test.YtgnnipnnnebpiaaGreatDoorPanB
namespace Go.Proofs.YtgnnipnnnebpiaaGreatDoor
open Go.RowKit Go.Shelf

attribute [local go_sem] Oper.semAt_some

set_option maxRecDepth 100000 in
set_option maxHeartbeats 1000000 in
theorem down_panics (l : Nat) (nm : ByteArray) (wd at_ deep root aAt aW : Int) (sv av : Value) (chain : List PanicEntry) (R : World → Prop) (W : World)
    (hY : YieldAt Fence.wide 0 Tryz.prog l #[.agg #[.string nm, .int .i64 wd, .int .i64 at_, sv, .int .i64 deep, .int .i64 root, .int .i64 aAt, .int .i64 aW, av]] (W.alloc (.cells #[.string nm, .int .i64 wd, .int .i64 at_, sv, .int .i64 deep, .int .i64 root, .int .i64 aAt, .int .i64 aW, av] 51)) fun e B => e = .panicked chain ∧ R B) :
    Calls Tryz.prog 22 #[.agg #[.string nm, .int .i64 wd, .int .i64 at_, sv, .int .i64 deep, .int .i64 root, .int .i64 aAt, .int .i64 aW, av], .func (.yield l) #[] #[]] W fun e B => e = .panicked chain ∧ R B := by
  obtain ⟨fn, tmps, assign, body, hy, hR⟩ := yieldAt_any (m' := 0) hY
  refine (callsIn_wide (n := 1)).1 ?_
  refine callsIn_of_wp Tryz.func22 rfl trivial ?_ rfl
  simp only [Tryz.ntmps22, List.size_toArray, List.length_cons, List.length_nil, Nat.reduceAdd, Nat.reduceSub, Array.replicate_succ, Array.replicate_zero, List.push_toArray, List.append_toArray, List.nil_append, List.cons_append]
  gi_wp2_with (refine hR.mono ?_; clear hR; rintro e W1 ⟨rfl, hr⟩)
  exact ⟨rfl, rfl, hr⟩

/-- Registers one list of which lies ahead of the other. -/
def RegL.app : RegL → RegL → RegL
  | .nil, B => B
  | .cons nm wd at_ sv subs rest, B => .cons nm wd at_ sv subs (rest.app B)
theorem RegL.app_length : ∀ (G B : RegL), (G.app B).length = G.length + B.length
  | .nil, B => by simp [RegL.app, RegL.length]
  | .cons nm wd at_ sv subs rest, B => by simp only [RegL.app, RegL.length, RegL.app_length rest B]; omega

/-- What holds at the head of the loop over the outer registers: k of them have been gone over; those of rest are right, the one behind them is not. -/
structure OutInvP (Ts : List Nat) (n₀ : Nat) (J : List Spot → World → Prop) (E : List Spot) (N : Nat) (b' o' : Nat) (n : Nat) (Bad : RegL) (k : Nat) (rest : RegL) (D : List Spot) (wr : World) : Prop where
  len : k + rest.length = n
  small : rest.small
  total : rest.total ≤ N
  height : rest.height ≤ 7
  holds : HoldsAt n₀ wr b' (o' + k * 4) (rest.app Bad)
  said : D ++ spotsOut k rest = E
  j : J D wr
  free : Free Ts n₀ wr
def OutRelP (Ts : List Nat) (n₀ : Nat) (J : List Spot → World → Prop) (E : List Spot) (N : Nat) (b' o' n : Nat) (Bad : RegL) (k : Nat) (wr : World) : Prop := ∃ rest D, OutInvP Ts n₀ J E N b' o' n Bad k rest D wr

set_option maxRecDepth 100000 in
set_option maxHeartbeats 4000000 in
theorem all1_panics (m n₀ Bl b' o' c' len : Nat) (Ts : List Nat) (G : RegL) (nm : ByteArray) (wd at_ : Int) (sv : Value) (subs more : RegL) (chain : List PanicEntry) (w : World)
    (hlen : len = G.length + (more.length + 1)) (hBl : w.cell? ⟨Bl, 0, none⟩ = some (.slice (some ⟨b', o', none⟩) len c')) (hL : HoldsAt n₀ w b' o' (G.app (.cons nm wd at_ sv subs more))) (hsm : G.small) (hht : G.height ≤ 7) (hl3 : len ≤ 300) (hfr : Free Ts n₀ w) :
    TellsP m Tryz.prog 21 #[.pointer (some ⟨Bl, 0, none⟩)] (fun x : Spot => #[x.val]) Ts (fun pre x => pre ++ [x] <+: spotsOut 0 G) (spotsOut 0 G) ⟨nm, wd, at_, sv, 1, G.length, 0, wd, .slice none 0 0⟩ chain w := by
  intro l J R W hW hst hY hX h0
  have hcl := (hW.cell (p := ⟨Bl, 0, none⟩) (World.block_lt_of_cell? _ _ hBl)).trans hBl
  have hfrW := hfr.below hW
  have hLW := HoldsAt.of (n₀ := n₀) (below_cells hW) hL
  have hdown := Lib.hid (down_tells Ts n₀ l J (spotsOut 0 G) hst (fun pre x A hj hp => yieldAt_any (hY pre x A hj hp)) (G.total + 1))
  have hst2 := Lib.hid hst
  have hX2 := Lib.hid hX
  have hlen2 := Lib.hid hlen
  clear hY hX hst hW hBl hfr hL hlen
  refine callsIn_of_wp Tryz.func21 rfl trivial ?_ rfl
  simp only [Tryz.ntmps21, List.size_toArray, List.length_cons, List.length_nil, Nat.reduceAdd, Nat.reduceSub, Array.replicate_succ, Array.replicate_zero, List.push_toArray, List.append_toArray, List.nil_append, List.cons_append]
  gi_wp2
  refine wpIn_wide.2 ?_
  go_loopw [8] (fun i wr => ∃ k : Nat, i = .int .i64 k ∧ OutRelP Ts n₀ J (spotsOut 0 G) G.total b' o' G.length (.cons nm wd at_ sv subs more) k wr) (fun i _ => len - (intOf i).toNat)
  case atStart => exact ⟨0, rfl, G, [], ⟨by simp, hsm, Nat.le_refl _, hht, by simpa using hLW, by simp, h0, hfrW⟩⟩
  case round =>
    obtain ⟨k, rfl, rest, D, inv⟩ := hrel
    clear hLW hfrW h0 hcl
    cases rest with
    | nil =>
      have hl2 := inv.len
      have hsaid := inv.said
      simp only [spotsOut, List.append_nil] at hsaid
      simp only [RegL.length, Nat.add_zero] at hl2
      have hkl : k < len := by have := hlen2.out; omega
      obtain ⟨hbn, ⟨e0, e1, e2, e3⟩, _, hsl2⟩ := inv.holds
      obtain ⟨qa, qn, qc, rfl⟩ : ∃ a n c, sv = .slice a n c := by
        rcases hsl2 with ⟨h, _⟩ | ⟨b2, o2, c2, h, _⟩
        · exact ⟨_, _, _, h⟩
        · exact ⟨_, _, _, h⟩
      subst hl2
      have C : ∀ V, Below wr.heap.size wr V → Calls Tryz.prog 22 #[.agg #[.string nm, .int .i64 wd, .int .i64 at_, .slice qa qn qc, .int .i64 1, .int .i64 G.length, .int .i64 0, .int .i64 wd, .slice none 0 0], .func (.yield l) #[] #[]] V fun e B => e = .panicked chain ∧ R B := fun V hV =>
        down_panics l nm wd at_ 1 G.length 0 wd _ _ chain R V (yieldAt_any (hX2.out _ (hst2.out _ _ _ (by rw [← hsaid]; exact inv.j) (hV.alloc hV.size _))))
      have k0 : (0 : Int) ≤ (G.length : Int) := Int.natCast_nonneg _
      have k2 : (G.length : Int) < (len : Int) := by omega
      clear inv hsl2 hsaid
      go_wp2_with (go_at_call 22; refine (C _ (((Below.refl _ _).alloc (Nat.le_refl _) _).alloc (by simp) _)).mono ?_; clear C; rintro e B ⟨rfl, hR⟩)
      exact ⟨rfl, rfl, hR⟩
    | cons nm2 wd2 at2 sv2 subs2 rest2 =>
      have hl2 := inv.len
      simp only [RegL.length] at hl2
      have hkl : k < len := by have := hlen2.out; omega
      obtain ⟨hbn, ⟨e0, e1, e2, e3⟩, hrest2, hsl2⟩ := inv.holds
      obtain ⟨qa, qn, qc, rfl⟩ : ∃ a n c, sv2 = .slice a n c := by
        rcases hsl2 with ⟨h, _⟩ | ⟨b2, o2, c2, h, _⟩
        · exact ⟨_, _, _, h⟩
        · exact ⟨_, _, _, h⟩
      obtain ⟨⟨s1, s2, s3, s4⟩, hsm2, hsmr⟩ := inv.small
      have htot := inv.total
      have hht2 := inv.height
      simp only [RegL.total] at htot
      simp only [RegL.height] at hht2
      have hsaid := inv.said
      simp only [spotsOut] at hsaid
      have C : ∀ V, Below wr.heap.size wr V → Calls Tryz.prog 22 #[.agg #[.string nm2, .int .i64 wd2, .int .i64 at2, .slice qa qn qc, .int .i64 1, .int .i64 k, .int .i64 0, .int .i64 wd2, .slice none 0 0], .func (.yield l) #[] #[]] V fun e B =>
          e = .returned (.bool true) ∧ OutRelP Ts n₀ J (spotsOut 0 G) G.total b' o' G.length (.cons nm wd at_ sv subs more) (k + 1) B := fun V hV => by
        have hfrV := inv.free.below hV
        refine (hdown.out nm2 wd2 at2 (.slice qa qn qc) 1 k 0 wd2 (.slice none 0 0) subs2 D V (by omega) (SliceIs.of (below_cells hV) hsl2) hsm2 hfrV (hst2.out _ _ _ inv.j hV) (by omega) (by omega) (by omega) (by omega) (by omega) ?_).mono fun e B ⟨he, hjB, hkB⟩ => ?_
        · refine ⟨spotsOut (k + 1) rest2, ?_⟩
          rw [← hsaid]; simp
        · have hkV := (Keeps.of_below (Ts := Ts) hV).trans hkB
          refine ⟨he, rest2, D ++ (⟨nm2, wd2, at2, .slice qa qn qc, 1, k, 0, wd2, .slice none 0 0⟩ :: spotsIn (1 + 1) k (0 + at2) wd2 (.slice qa qn qc) 0 subs2), ⟨by omega, hsmr, by omega, by omega, ?_, ?_, hjB, inv.free.keeps hkV⟩⟩
          · have := HoldsAt.of (n₀ := n₀) (inv.free.cells hkV) hrest2
            rw [show o' + (k + 1) * 4 = o' + k * 4 + 4 by omega]; exact this
          · rw [← hsaid]; simp
      have k0 : (0 : Int) ≤ (k : Int) := Int.natCast_nonneg _
      have k2 : (k : Int) < (len : Int) := by omega
      clear inv hrest2 hsl2 hsm2 hsmr
      have hsaid := Lib.hid hsaid
      have hl2 := Lib.hid hl2
      go_wp2_with (go_at_call 22; refine (C _ (((Below.refl _ _).alloc (Nat.le_refl _) _).alloc (by simp) _)).mono ?_; clear C; rintro e B ⟨rfl, hD⟩)
      gi_wp2_with fail
      exact ⟨⟨k + 1, by go_num, hD⟩, by simp [intOf]; omega⟩
end Go.Proofs.YtgnnipnnnebpiaaGreatDoor
