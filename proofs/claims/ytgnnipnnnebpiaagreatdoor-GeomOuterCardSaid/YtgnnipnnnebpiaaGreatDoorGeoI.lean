/-
  The document's example of geom, 'alive': it is as the document says.
-/
import Derived.Test.YtgnnipnnnebpiaaGreatDoorGeoH
namespace Go.Proofs.YtgnnipnnnebpiaaGreatDoor
open Go.RowKit Go.Shelf

theorem lap_none {deep aAt aW : Int} {nm : ByteArray} {wd at_ : Int} (hn : IsName nm) (hw : NotWord nm) (h : deep ≤ 6 ∧ 0 ≤ aAt ∧ aAt ≤ 500 ∧ 0 ≤ at_ ∧ at_ ≤ 64 ∧ 1 ≤ wd ∧ wd ≤ 64 ∧ aW ≤ 1000 ∧ at_ + wd ≤ aW) : Sound1 deep aAt aW [] nm wd at_ :=
  ⟨hn, hw, h.1, h.2.1, h.2.2.1, h.2.2.2.1, h.2.2.2.2.1, h.2.2.2.2.2.1, h.2.2.2.2.2.2.1, h.2.2.2.2.2.2.2.1, h.2.2.2.2.2.2.2.2, by simp, fun r hr => by simp at hr⟩

theorem rax_sound (n : Nat) : SoundOut (raxL n) := by
  refine ⟨lap_none (isName_of (by decide) (by decide) (by decide)) (notWord_of (by decide +kernel)) (by decide), ⟨lap_none (isName_of (by decide) (by decide) (by decide)) (notWord_of (by decide +kernel)) (by decide),
    ⟨lap_none (isName_of (by decide) (by decide) (by decide)) (notWord_of (by decide +kernel)) (by decide), ⟨lap_none (isName_of (by decide) (by decide) (by decide)) (notWord_of (by decide +kernel)) (by decide), trivial, ?_, trivial, trivial⟩, trivial⟩, trivial⟩, trivial⟩
  exact ⟨isName_of (by decide) (by decide) (by decide), notWord_of (by decide +kernel), by decide, by decide, by decide, by decide, by decide, by decide, by decide, by decide, by decide, by decide, fun r hr => by
    obtain rfl : r = ⟨⟨#[97, 108]⟩, 8, 0, .slice none 0 0⟩ := by simpa using hr
    exact ⟨by unfold RegD.small; decide, by decide⟩⟩
theorem rax_names (n : Nat) : ((spotsOut 0 (raxL n)).map (·.name)).Nodup := by
  show ([⟨#[114, 97, 120]⟩, ⟨#[101, 97, 120]⟩, ⟨#[97, 120]⟩, ⟨#[97, 108]⟩, ⟨#[97, 104]⟩] : List ByteArray).Nodup
  decide
theorem rax_small (n : Nat) : (raxL n).small := by
  unfold raxL RegL.small; simp [RegL.small]

set_option maxHeartbeats 1000000 in
theorem rax_places (w W : World) (hE : Env W) (hL : HoldsAt W.heap.size W (w.heap.size + 3) 0 (raxL w.heap.size)) :
    Calls Tryz.prog 7 #[.slice (some ⟨w.heap.size + 3, 0, none⟩) 1 1] W fun e W' => ∃ g gc q qc, e = .returned (.tuple #[.slice (some ⟨g, 0, none⟩) 5 gc, .slice (some ⟨q, 0, none⟩) 5 qc, .int .i64 0]) ∧
      W'.cell? ⟨g, 4, none⟩ = some (.string ⟨#[97, 104]⟩) ∧ W'.cell? ⟨q, 12, none⟩ = some (.int .i64 0) ∧ W'.cell? ⟨q, 13, none⟩ = some (.int .i64 8) ∧ W'.cell? ⟨q, 14, none⟩ = some (.int .i64 8) ∧ Below W.heap.size W W' := by
  refine (places_ok (w.heap.size + 3) 0 1 (raxL w.heap.size) W hE hL (rax_small _) (by show (4 : Nat) ≤ 7; decide) (by show (1 : Nat) ≤ 300; decide) (fine_out hL (rax_sound _) (rax_names _) (by show (5 : Nat) ≤ 200; decide))).mono ?_
  rintro e W' ⟨nV, pV, rfl, hn, hp, hB⟩
  have hn5 : W'.ownsRow W.heap.size 9 1 nV (4 + 1) _ := hn
  have hp5 : W'.ownsRow W.heap.size 34 3 pV (4 + 1) _ := hp
  obtain ⟨g, gc, rfl⟩ := ownsRow_succ hn5
  obtain ⟨q, qc, rfl⟩ := ownsRow_succ hp5
  exact ⟨g, gc, q, qc, rfl, ownsRow_cell hn5 rfl, ownsRow_cell hp5 rfl, ownsRow_cell hp5 rfl, ownsRow_cell hp5 rfl, hB⟩

set_option maxHeartbeats 400000 in
theorem num_any (n : Int) (w : World) : Calls Tryz.prog 8 #[.int .i64 n] w fun e w' => e = .returned (.int .i64 n) ∧ w = w' := by
  go_enter Tryz.func8, Tryz.ntmps8
  go_wp2
  go_ret
  exact ⟨rfl, rfl⟩

set_option maxRecDepth 100000 in
set_option maxHeartbeats 2000000 in
theorem alive_yes (w : World) (hE : Env w) : Calls Tryz.prog 6 #[] w fun e w' => e = .returned (.bool true) ∧ Below w.heap.size w w' := by
  have C1 := rax_any w
  have C2 : ∀ W, Below w.heap.size w W → HoldsAt W.heap.size W (w.heap.size + 3) 0 (raxL w.heap.size) → _ := fun W hB hL => rax_places w W (hE.below hB) hL
  clear hE
  go_enter Tryz.func6, Tryz.ntmps6
  go_wp2_with (first
    | (go_at_call 11; refine C1.mono ?_; clear C1; rintro e W1 ⟨rfl, hb1, hL⟩)
    | (go_at_call 7; refine (C2 _ hb1 hL).mono ?_; clear C2 hL; rintro e W2 ⟨g, gc, q, qc, rfl, k0, k1, k2, k3, hb2⟩)
    | (go_at_call 8; refine (num_any _ _).mono ?_; rintro e W3 ⟨rfl, rfl⟩))
  go_ret
  exact ⟨rfl, hb1.trans (hb2.mono hb1.size)⟩
end Go.Proofs.YtgnnipnnnebpiaaGreatDoor
