/-
  MdcheckFirst returns true at every slice of Booleans, and leaves it as it was: the tied card of its row is proved ('mdcheckFirst_card').
  Conditions: those of the row alone: the listed package-level variables hold at the call what the program's text lays (the card ties that; of them errors' own variable of the type 'error' is read, where a width can't be). The card is tied to the copy of the project that holds the packages on this road, and says nothing of others.
-/
import Derived.Test.YtanbjaohmhoohaaGreatDoorHandE
import Derived.Test.YtanbjaohmhoohaaGreatDoorFiC
import Derived.Test.YtanbjaohmhoohaaGreatDoorCards
import Derived.Test.YtanbjaohmhoohaaGreatDoorTie
import Derived.SevenTiedAt
import Derived.Deep.Grids
namespace Go.Proofs.YtanbjaohmhoohaaGreatDoor
open Go.ChangeShapes Go.WideShapes Go.ChangeAt Go.RowKit

theorem cellsBool : Tryz.prog.cellsOf 4 = 1 := by kernel_rfl

theorem first_in {H : Type} {enc : TypeId × Value → H} {W : World} {a0 : Option Addr} {len cap : Nat} {d0 : DataW H} {p : List MemPlace} (hE : Env W) (hA : EnvA W)
    (h0 : DataW.Trod enc Tryz.prog W 0 (fun _ => true) true 54 (.slice a0 len cap) d0 p) :
    Calls Tryz.prog 7 #[.slice a0 len cap] W fun e w' => e = .returned (.bool true) ∧ Below W.heap.size W w' := by
  by_cases h6 : len = 6
  · subst h6
    obtain ⟨fuel, hf⟩ := h0
    rcases Go.Deep.open_bools Tryz.underlying54 Tryz.underlying4 cellsBool hf with ⟨hcs, _⟩ | ⟨a, len', cap', Bf, hcs, _, hl, _, _, hcell⟩
    · simp [Value.cells] at hcs
    · simp [Value.cells] at hcs
      obtain ⟨rfl, rfl, rfl⟩ := hcs
      obtain ⟨b, off, spot⟩ := a
      have hspot : spot = none := by simpa [Addr.add] using World.cell?_spot (hcell 0 (by omega))
      subst hspot
      have hc : ∀ j, j < 6 → W.cell? ⟨b, off + j, none⟩ = some (.bool (Bf j)) := fun j hj => by
        have := hcell j (by omega)
        have e : (⟨b, off, none⟩ : Addr).add j = ⟨b, off + j, none⟩ := by
          by_cases h : j = 0 <;> simp [Addr.add, h]
        rw [e] at this; exact this
      exact first_main b off cap (Bf 0) (Bf 1) (Bf 2) (Bf 3) (Bf 4) (Bf 5) W hE hA (hc 0 (by decide)) (hc 1 (by decide)) (hc 2 (by decide)) (hc 3 (by decide)) (hc 4 (by decide)) (hc 5 (by decide))
  · exact first_short a0 len cap W hE h6

set_option maxRecDepth 100000 in
theorem first_lifted (os : Os) (started : os.Started) (H : Type) (enc : TypeId × Value → H) :
    ReturnsInHanded {} Tryz.checked os 7 .any (fun w args => (Rows.mdcheckFirstSpec.pre enc Tryz.prog Tryz.f7 [] false w args ∧ laidMetH Tryz.prog listed w) ∧ sizedMet enc Tryz.prog Tryz.f7 (OpenSpec.ofChange Rows.mdcheckFirstSpec) false w args)
      (Rows.mdcheckFirstSpec.post enc Tryz.prog Tryz.f7 false true false false) := by
  refine handed started (by kernel_rfl) Tryz.func7
    (ChangeSpec.witness_shaped (enc := enc) (C := Tryz.checked) (os := os) (X := fun w _ => laidMetH Tryz.prog listed w) false (start os) #[.slice none 0 0] 8 rfl (World.shaped_of_RefB (by kernel_rfl) (by kernel_rfl)) (by kernel_rfl) (by kernel_rfl) (by kernel_rfl) (start_met os _)) ?_
  intro W base args ds gs before hval hW hsh hmet
  have hW' := hW
  obtain ⟨p, q, hA0, hV, rfl, hfz, hnd⟩ := hW
  have hA : DataW.TrodAll enc Tryz.prog W 0 (fun _ => true) true Tryz.f7.params.toList args.toList ds p := hA0
  rw [Tryz.params7] at hA hval
  obtain ⟨v0, d0, rfl, rfl, h0⟩ := trodAll_one hA
  obtain ⟨rfl, rfl⟩ := trodVars_none hV
  obtain ⟨a0, len, cap, rfl⟩ := okWide_slice Tryz.underlying54 (hval 0 54 v0 rfl rfl)
  clear hA0 hval
  simp only [List.append_nil] at hW'
  have hlt : ∀ x ∈ p, x.block < W.heap.size := fun x hx => by simpa using hW'.lt x hx
  refine (first_in (env_of_shaped W hsh) (envA_of_laid hmet) h0).mono fun e W' ⟨he, hb⟩ => ?_
  subst he
  have harg : DataW.Trod enc Tryz.prog W' 0 (fun b => decide (b < W.heap.size)) true 54 (.slice a0 len cap) d0 p := Below.trod laidOut (by kernel_rfl) (of_decide_eq_true (by kernel_rfl)) h0 hb hlt
  exact ⟨_, rfl, _, _, _, [], p, [], hW', trodAll_mk1 (shut_bool Tryz.underlying4 _), trodAll_mk1 harg, rfl, hb.frame _, fun h => by cases h⟩

theorem mdcheckFirst_said : Rows.MdcheckFirstSaid :=
  OpenClaim.holds_of_wide 7 Tryz.f7 rfl rfl rfl rfl rfl rfl rfl ⟨rfl, rfl, rfl, rfl, rfl⟩ rfl rfl rfl rfl rfl (by kernel_rfl) Tryz.func7 (by kernel_rfl)
    (of_decide_eq_true (by kernel_rfl)) (by unfold Func.isWrapper; first | (rw [if_pos (by decide +kernel)]; kernel_rfl) | (rw [if_neg (by decide +kernel)]; exact ⟨rfl, rfl⟩))
    (fun os started H enc _ => first_lifted os started H enc)

theorem mdcheckFirst_card : Rows.MdcheckFirstCardSaid :=
  Claim7.holds_tied_plain_at .later [] [.data, .data, .data, .data, .handle, .sentinel, .sentinel, .pinned] true (true, "c98d64bc0076bcc78435c5917676da0e2a5fd80a28fab58dfa171c1ad1dcfa50") true
    mdcheckFirst_said (fun _ h => by cases h) (by kernel_rfl) (fun _ h => by cases h) mdcheckFirst_row_tie rfl ⟨rfl, rfl⟩ (by kernel_rfl) rfl
    (fun f fn hf hfn => by
      obtain rfl : f = 7 := Option.some.inj ((show Tryz.prog.funcNamed "pigeonhole/pigeonholelaw6.MdcheckFirst" = some 7 by kernel_rfl).symm.trans hf) |>.symm
      obtain rfl : fn = Tryz.f7 := (Option.some.inj (Tryz.func7.symm.trans hfn)).symm
      exact ⟨by kernel_rfl, fun j t ht => by
        rw [Tryz.params7] at ht
        have hm : t ∈ [54] := by simpa using Array.mem_of_getElem? ht
        have hall : ([54].all fun u => !Tryz.prog.wantsStandIn u) = true := by kernel_rfl
        exact (show Tryz.prog.wantsStandIn t = false by simpa using List.all_eq_true.1 hall t hm)⟩)
    (by kernel_rfl)
end Go.Proofs.YtanbjaohmhoohaaGreatDoor
