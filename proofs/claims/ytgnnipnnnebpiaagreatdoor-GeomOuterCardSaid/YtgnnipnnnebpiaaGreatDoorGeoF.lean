/-
  geom's 'all': the outer registers and those within them, each ahead of its own.
-/
import Derived.Test.YtgnnipnnnebpiaaGreatDoorGeoE
namespace Go.Proofs.YtgnnipnnnebpiaaGreatDoor
open Go.RowKit Go.Shelf

attribute [local go_sem] Oper.semAt_some

/-- The spots of the outer registers from the i-th on, and of those within them. -/
def spotsOut (i : Nat) : RegL → List Spot
  | .nil => []
  | .cons nm wd at_ sv subs rest => (⟨nm, wd, at_, sv, 1, i, 0, wd, .slice none 0 0⟩ :: spotsIn (1 + 1) i (0 + at_) wd sv 0 subs) ++ spotsOut (i + 1) rest

set_option maxHeartbeats 400000 in
theorem all_any (a : Option Addr) (n c : Nat) (w : World) : Calls Tryz.prog 14 #[.slice a n c] w fun e w' => e = .returned (.func (.func 21) #[] #[.pointer (some ⟨w.heap.size, 0, none⟩)]) ∧ w' = w.alloc (.cells #[.slice a n c] 24) := by
  go_enter Tryz.func14, Tryz.ntmps14
  go_wp2
  go_ret
  exact ⟨rfl, rfl⟩

/-- What holds at the head of the loop over the outer registers: k of them have been gone over. -/
structure OutInv (Ts : List Nat) (n₀ : Nat) (J : List Spot → World → Prop) (E : List Spot) (N : Nat) (b' o' n : Nat) (k : Nat) (rest : RegL) (D : List Spot) (wr : World) : Prop where
  len : k + rest.length = n
  small : rest.small
  total : rest.total ≤ N
  height : rest.height ≤ 7
  holds : HoldsAt n₀ wr b' (o' + k * 4) rest
  said : D ++ spotsOut k rest = E
  j : J D wr
  free : Free Ts n₀ wr
def OutRel (Ts : List Nat) (n₀ : Nat) (J : List Spot → World → Prop) (E : List Spot) (N : Nat) (b' o' n : Nat) (k : Nat) (wr : World) : Prop := ∃ rest D, OutInv Ts n₀ J E N b' o' n k rest D wr

set_option maxRecDepth 100000 in
set_option maxHeartbeats 4000000 in
theorem all1_tells (m n₀ Bl b' o' c' : Nat) (Ts : List Nat) (L : RegL) (w : World) (hBl : w.cell? ⟨Bl, 0, none⟩ = some (.slice (some ⟨b', o', none⟩) L.length c')) (hL : HoldsAt n₀ w b' o' L) (hsm : L.small) (hht : L.height ≤ 7) (hlen : L.length ≤ 300) (hfr : Free Ts n₀ w) :
    Tells m Tryz.prog 21 #[.pointer (some ⟨Bl, 0, none⟩)] (fun x : Spot => #[x.val]) Ts (fun pre x => pre ++ [x] <+: spotsOut 0 L) (spotsOut 0 L) w := by
  intro l J W hW hst hY h0
  have hcl := (hW.cell (p := ⟨Bl, 0, none⟩) (World.block_lt_of_cell? _ _ hBl)).trans hBl
  have hfrW := hfr.below hW
  have hLW := HoldsAt.of (n₀ := n₀) (below_cells hW) hL
  have hdown := Lib.hid (down_tells Ts n₀ l J (spotsOut 0 L) hst (fun pre x A hj hp => yieldAt_any (hY pre x A hj hp)) (L.total + 1))
  have hst2 := Lib.hid hst
  clear hY hst hW hBl hfr hL
  refine callsIn_of_wp Tryz.func21 rfl trivial ?_ rfl
  simp only [Tryz.ntmps21, List.size_toArray, List.length_cons, List.length_nil, Nat.reduceAdd, Nat.reduceSub, Array.replicate_succ, Array.replicate_zero, List.push_toArray, List.append_toArray, List.nil_append, List.cons_append]
  gi_wp2
  refine wpIn_wide.2 ?_
  go_loopw [8] (fun i wr => ∃ k : Nat, i = .int .i64 k ∧ OutRel Ts n₀ J (spotsOut 0 L) L.total b' o' L.length k wr) (fun i _ => L.length - (intOf i).toNat)
  case atStart => exact ⟨0, rfl, L, [], ⟨by simp, hsm, Nat.le_refl _, hht, by simpa using hLW, by simp, h0, hfrW⟩⟩
  case round =>
    obtain ⟨k, rfl, rest, D, inv⟩ := hrel
    clear hLW hfrW h0 hcl
    cases rest with
    | nil =>
      have hl2 := inv.len
      have hsaid := inv.said
      simp only [spotsOut, List.append_nil] at hsaid
      have hkl : ¬ k < L.length := by simp only [RegL.length] at hl2; omega
      have hA := Lib.hid inv.j
      have hS := Lib.hid hsaid
      clear inv hl2 hsaid
      go_wp2_with fail
      gi_wp2_with fail
      go_end0
      exact ⟨⟨_, rfl⟩, by rw [← hS.out]; exact hA.out⟩
    | cons nm2 wd2 at2 sv2 subs2 rest2 =>
      have hl2 := inv.len
      simp only [RegL.length] at hl2
      have hkl : k < L.length := by omega
      obtain ⟨hbn, ⟨e0, e1, e2, e3⟩, hrest2, hsl2⟩ := inv.holds
      obtain ⟨qa, qn, qc, rfl⟩ : ∃ a n c, sv2 = .slice a n c := by
        rcases hsl2 with ⟨h, _⟩ | ⟨b2, o2, c2, h, _⟩
        · exact ⟨_, _, _, h⟩
        · exact ⟨_, _, _, h⟩
      obtain ⟨⟨s1, s2, s3, s4⟩, hsm2, hsmr⟩ := inv.small
      have htot := inv.total
      have hht2 := inv.height
      simp only [RegL.total] at htot
      simp only [RegL.height] at hht2
      have hsaid := inv.said
      simp only [spotsOut] at hsaid
      have C : ∀ V, Below wr.heap.size wr V → Calls Tryz.prog 22 #[.agg #[.string nm2, .int .i64 wd2, .int .i64 at2, .slice qa qn qc, .int .i64 1, .int .i64 k, .int .i64 0, .int .i64 wd2, .slice none 0 0], .func (.yield l) #[] #[]] V fun e B =>
          e = .returned (.bool true) ∧ OutRel Ts n₀ J (spotsOut 0 L) L.total b' o' L.length (k + 1) B := fun V hV => by
        have hfrV := inv.free.below hV
        refine (hdown.out nm2 wd2 at2 (.slice qa qn qc) 1 k 0 wd2 (.slice none 0 0) subs2 D V (by omega) (SliceIs.of (below_cells hV) hsl2) hsm2 hfrV (hst2.out _ _ _ inv.j hV) (by omega) (by omega) (by omega) (by omega) (by omega) ?_).mono fun e B ⟨he, hjB, hkB⟩ => ?_
        · refine ⟨spotsOut (k + 1) rest2, ?_⟩
          rw [← hsaid]; simp
        · have hkV := (Keeps.of_below (Ts := Ts) hV).trans hkB
          refine ⟨he, rest2, D ++ (⟨nm2, wd2, at2, .slice qa qn qc, 1, k, 0, wd2, .slice none 0 0⟩ :: spotsIn (1 + 1) k (0 + at2) wd2 (.slice qa qn qc) 0 subs2), ⟨by omega, hsmr, by omega, by omega, ?_, ?_, hjB, inv.free.keeps hkV⟩⟩
          · have := HoldsAt.of (n₀ := n₀) (inv.free.cells hkV) hrest2
            rw [show o' + (k + 1) * 4 = o' + k * 4 + 4 by omega]; exact this
          · rw [← hsaid]; simp
      have k0 : (0 : Int) ≤ (k : Int) := Int.natCast_nonneg _
      have k2 : (k : Int) < (L.length : Int) := by omega
      clear inv hrest2 hsl2 hsm2 hsmr
      have hsaid := Lib.hid hsaid
      have hl2 := Lib.hid hl2
      go_wp2_with (go_at_call 22; refine (C _ (((Below.refl _ _).alloc (Nat.le_refl _) _).alloc (by simp) _)).mono ?_; clear C; rintro e B ⟨rfl, hD⟩)
      gi_wp2_with fail
      exact ⟨⟨k + 1, by go_num, hD⟩, by simp [intOf]; omega⟩
end Go.Proofs.YtgnnipnnnebpiaaGreatDoor
