/-
  MdcheckAlias: what Check answers of the machine.
-/
import Derived.Test.YtanbjaohmhoohaaGreatDoorAlA
import Derived.Test.YtanbjaohmhoohaaGreatDoorSwD
namespace Go.Proofs.YtanbjaohmhoohaaGreatDoor
open Go.RowKit

/-- The machine as it is handed on. -/
def alMV (g cap N : Nat) : MV := smMV ⟨some ⟨g, 0, none⟩, 4, cap⟩ N

set_option maxRecDepth 100000 in
theorem al_checkS (width a wa b wb : Int) : checkS (fun _ => true) (smD 3 0) 0 alNames (alE width a wa b wb) = 0 := by kernel_rfl
set_option maxRecDepth 100000 in
theorem al_fine1 (width a wa b wb : Int) : opFine alNames (alE width a wa b wb) [clG 3] (opAdd 0) = true := by kernel_rfl
set_option maxRecDepth 100000 in
theorem al_fine2 (width a wa b wb : Int) : opFine alNames (alE width a wa b wb) [clG 3] opNot = true := by kernel_rfl
set_option maxRecDepth 100000 in
theorem al_fine3 (width a wa b wb : Int) : opFine alNames (alE width a wa b wb) [clG 3] opDiv = true := by kernel_rfl
theorem al_regN : regN alNames nmG = -1 := by decide +kernel

section
variable {w W : World} {B N S g cap : Nat} {u : SlV} {width a wa b wb : Int}
theorem al_mem {x : Spot} (hx : x ∈ [sp 0, sp 1, sp 2, spW width S, sp1 width a wa S, sp2 width b wb S]) : x = sp 0 ∨ x = sp 1 ∨ x = sp 2 ∨ x = spW width S ∨ x = sp1 width a wa S ∨ x = sp2 width b wb S := by simpa using hx

theorem al_ok (H : AMem w B N S g cap u width a wa b wb W) (hE : Env w) (h : AlNum width a wa b wb) (hf1 : a + wa ≤ width) (hf2 : b + wb ≤ width) (hl : ¬ (a < b + wb ∧ b < a + wa)) :
    Calls Tryz.prog 11 #[(alMV g cap N).val] W fun e w' => e = .returned (.int .i64 0) ∧ Below W.heap.size W w' := by
  have hEW := hE.below H.below
  have hR : Readable W (alMV g cap N) (smD 3 0) (spotsOut 0 (alL width a wa b wb S)) := {
    env := hEW
    result := rfl
    slots := rfl
    name := fun V hb => mdIsName_yes _ V (hEW.below hb) nmM_ok.1 nmM_ok.2
    ne := by rw [al_spots]; simp
    few := by rw [al_spots]; show 6 ≤ 200; decide
    ok := fun p hp => by
      rw [al_places] at hp
      unfold alE at hp
      have hh := h.w1
      have hh := h.w2
      have hh := h.a0
      have hh := h.a1
      have hh := h.wa1
      have hh := h.wa2
      have hh := h.b0
      have hh := h.b1
      have hh := h.wb1
      have hh := h.wb2
      have : p = (0, 0 + 0, 8) ∨ p = (1, 0 + 0, 8) ∨ p = (2, 0 + 0, 8) ∨ p = (3, 0 + 0, width) ∨ p = (3, 0 + a, wa) ∨ p = (3, 0 + b, wb) := by
        simpa only [List.mem_cons, List.not_mem_nil, or_false] using hp
      rcases this with rfl | rfl | rfl | rfl | rfl | rfl <;> exact ⟨by dsimp only; omega, by dsimp only; omega, by dsimp only; omega, by dsimp only; omega⟩
    places := fun V hb => by
      refine places_ok g 0 cap (alL width a wa b wb S) V (hEW.below hb) (H.holds hb) ?_ (show 2 ≤ 7 by decide) (show 4 ≤ 300 by decide) (fine_local (fun x hx => ?_) ?_ ?_)
      · exact ⟨by decide, trivial, by decide, trivial, by decide, trivial, ⟨by decide, by decide, h.w1, h.w2⟩, ⟨⟨h.a0, h.a1, h.wa1, h.wa2⟩, trivial, ⟨h.b0, h.b1, h.wb1, h.wb2⟩, trivial, trivial⟩, trivial⟩
      · rw [al_spots] at hx
        rcases al_mem hx with rfl | rfl | rfl | rfl | rfl | rfl
        · exact local_sp V 0 (by decide)
        · exact local_sp V 1 (by decide)
        · exact local_sp V 2 (by decide)
        · exact local_w V h
        · exact local_1 V h hf1
        · exact local_2 H hb h hf2 hl
      · exact al_nodup
      · rw [al_spots]; show 6 ≤ 200; decide
    classes := clsAt_one (Nat.le_refl _) (H.k.cell rfl) (H.k.cell rfl) (strsRow H.names rfl)
    cnm := fun k hk V hV => by
      obtain rfl : k = clG 3 := by simpa [smD] using hk
      exact mdIsName_yes _ V hV nmG_ok.1 nmG_ok.2
    cnew := fun i k hi => by
      match i, hi with
      | 0, hi => rfl
      | i + 1, hi => simp [smD] at hi
    cnr := fun k hk => by
      obtain rfl : k = clG 3 := by simpa [smD] using hk
      rw [al_names]; exact al_regN
    ops := opsAt3 (ua := ⟨some ⟨N + 1 + 1, 0, none⟩, 2, 2⟩) (ub := ⟨some ⟨N + 1 + 1 + 1, 0, none⟩, 1, 1⟩) (uc := ⟨some ⟨N + 1 + 1 + 1 + 1, 0, none⟩, 2, 2⟩) (ka := ⟨none, 0, 0⟩) (kb := ⟨none, 0, 0⟩) (kc := ⟨none, 0, 0⟩) H.o (opersTwo H.u0) (opersOne H.u1) (opersTwo H.u2) (strsNil W) (strsNil W) (strsNil W)
    onice := fun o ho => by
      rw [al_names, al_places]
      have : o = opAdd 0 ∨ o = opNot ∨ o = opDiv := by simpa [smD] using ho
      rcases this with rfl | rfl | rfl
      · exact .inl (al_fine1 width a wa b wb)
      · exact .inl (al_fine2 width a wa b wb)
      · exact .inl (al_fine3 width a wa b wb)
    oub := fun o ho => by
      have : o = opAdd 0 ∨ o = opNot ∨ o = opDiv := by simpa [smD] using ho
      rcases this with rfl | rfl | rfl
      · show 2 ≤ 100000; omega
      · show 1 ≤ 100000; omega
      · show 2 ≤ 100000; omega
    onew := ops_new nm12 nm13 nm23
    args := strsCells H.a rfl rfl
    saved := strsNil W }
  have := check_any hR
  rw [al_names, al_places, al_checkS] at this
  exact this

theorem al_no1 : nmOne ∉ [sname 0, sname 1, sname 2, nmWd] := fun hm => by
  have h2 : nmOne = sname 0 ∨ nmOne = sname 1 ∨ nmOne = sname 2 ∨ nmOne = nmWd := by simpa using hm
  exact absurd h2 (by decide +kernel)
theorem al_no2 : nmTwo ∉ [sname 0, sname 1, sname 2, nmWd, nmOne] := fun hm => by
  have h2 : nmTwo = sname 0 ∨ nmTwo = sname 1 ∨ nmTwo = sname 2 ∨ nmTwo = nmWd ∨ nmTwo = nmOne := by simpa using hm
  exact absurd h2 (by decide +kernel)
theorem al_nd4 : [sname 0, sname 1, sname 2, nmWd].Nodup := by decide +kernel
theorem al_nd5 : [sname 0, sname 1, sname 2, nmWd, nmOne].Nodup := by decide +kernel

theorem al_fell (H : AMem w B N S g cap u width a wa b wb W) (hE : Env w) (hA : EnvA w) (h : AlNum width a wa b wb) (x : Int)
    (hx : (x = 6 ∧ width < a + wa) ∨ (x = 6 ∧ a + wa ≤ width ∧ width < b + wb) ∨ (x = 7 ∧ a + wa ≤ width ∧ b + wb ≤ width ∧ a < b + wb ∧ b < a + wa)) :
    Calls Tryz.prog 11 #[(alMV g cap N).val] W fun e w' => e = .returned (.int .i64 x) ∧ Below W.heap.size W w' := by
  have hEW := hE.below H.below
  have hAW := hA.below H.below
  have hw1 := h.w1
  have hw2 := h.w2
  refine check_early true x (by omega) (fun V hb => mdIsName_yes _ V (hEW.below hb) nmM_ok.1 nmM_ok.2) (fun h => absurd h (by decide)) fun _ V hb => ?_
  show Calls _ _ #[.slice (some ⟨g, 0, none⟩) 4 cap] V (PlacesFell V x)
  rcases hx with ⟨rfl, h1⟩ | ⟨rfl, h1, h2⟩ | ⟨rfl, h1, h2, h3⟩
  · refine places_falls 6 g 0 cap 4 (alL width a wa b wb S) [sp 0, sp 1, sp 2, spW width S] [sp2 width b wb S] (sp1 width a wa S) V (hEW.below hb) (hAW.below hb) rfl (H.holds hb) (show 4 ≤ 4611686018427387904 by decide) rfl (fun x hx => ?_) ⟨⟨_, _, _, rfl⟩, _, _, _, rfl⟩ (fine_local (fun x hx => ?_) al_nd4 (show 4 ≤ 200 by decide)) fun V2 hb2 hT => ?_
    · have : x = sp 0 ∨ x = sp 1 ∨ x = sp 2 ∨ x = spW width S := by simpa using hx
      rcases this with rfl | rfl | rfl | rfl
      · exact calm_sp 0
      · exact calm_sp 1
      · exact calm_sp 2
      · exact calm_w
    · have : x = sp 0 ∨ x = sp 1 ∨ x = sp 2 ∨ x = spW width S := by simpa using hx
      rcases this with rfl | rfl | rfl | rfl
      · exact local_sp V 0 (by decide)
      · exact local_sp V 1 (by decide)
      · exact local_sp V 2 (by decide)
      · exact local_w V h
    · exact add_unfit _ _ _ _ nmOne wa a 2 3 0 width (.slice none 0 0) (.slice (some ⟨S, 0, none⟩) 0 2) V2 ((hEW.below hb).below hb2) nmOne_ok.1 nmOne_ok.2 al_no1 (show 4 < 200 by decide) hT (by decide) h.wa1 h.wa2 (.inr ⟨h.a0, by omega⟩) (by omega) (by omega)
  · refine places_falls 6 g 0 cap 4 (alL width a wa b wb S) [sp 0, sp 1, sp 2, spW width S, sp1 width a wa S] [] (sp2 width b wb S) V (hEW.below hb) (hAW.below hb) rfl (H.holds hb) (show 4 ≤ 4611686018427387904 by decide) rfl (fun x hx => ?_) ⟨⟨_, _, _, rfl⟩, _, _, _, rfl⟩ (fine_local (fun x hx => ?_) al_nd5 (show 5 ≤ 200 by decide)) fun V2 hb2 hT => ?_
    · have : x = sp 0 ∨ x = sp 1 ∨ x = sp 2 ∨ x = spW width S ∨ x = sp1 width a wa S := by simpa using hx
      rcases this with rfl | rfl | rfl | rfl | rfl
      · exact calm_sp 0
      · exact calm_sp 1
      · exact calm_sp 2
      · exact calm_w
      · exact calm_1 h
    · have : x = sp 0 ∨ x = sp 1 ∨ x = sp 2 ∨ x = spW width S ∨ x = sp1 width a wa S := by simpa using hx
      rcases this with rfl | rfl | rfl | rfl | rfl
      · exact local_sp V 0 (by decide)
      · exact local_sp V 1 (by decide)
      · exact local_sp V 2 (by decide)
      · exact local_w V h
      · exact local_1 V h h1
    · exact add_unfit _ _ _ _ nmTwo wb b 2 3 0 width (.slice none 0 0) (.slice (some ⟨S, 0, none⟩) 1 2) V2 ((hEW.below hb).below hb2) nmTwo_ok.1 nmTwo_ok.2 al_no2 (show 5 < 200 by decide) hT (by decide) h.wb1 h.wb2 (.inr ⟨h.b0, by omega⟩) (by omega) (by omega)
  · refine places_falls 7 g 0 cap 4 (alL width a wa b wb S) [sp 0, sp 1, sp 2, spW width S, sp1 width a wa S] [] (sp2 width b wb S) V (hEW.below hb) (hAW.below hb) rfl (H.holds hb) (show 4 ≤ 4611686018427387904 by decide) rfl (fun x hx => ?_) ⟨⟨_, _, _, rfl⟩, _, _, _, rfl⟩ (fine_local (fun x hx => ?_) al_nd5 (show 5 ≤ 200 by decide)) fun V2 hb2 hT => ?_
    · have : x = sp 0 ∨ x = sp 1 ∨ x = sp 2 ∨ x = spW width S ∨ x = sp1 width a wa S := by simpa using hx
      rcases this with rfl | rfl | rfl | rfl | rfl
      · exact calm_sp 0
      · exact calm_sp 1
      · exact calm_sp 2
      · exact calm_w
      · exact calm_1 h
    · have : x = sp 0 ∨ x = sp 1 ∨ x = sp 2 ∨ x = spW width S ∨ x = sp1 width a wa S := by simpa using hx
      rcases this with rfl | rfl | rfl | rfl | rfl
      · exact local_sp V 0 (by decide)
      · exact local_sp V 1 (by decide)
      · exact local_sp V 2 (by decide)
      · exact local_w V h
      · exact local_1 V h h1
    · have hb3 := hb.trans (hb2.mono hb.size)
      have ha0 := h.a0
      have ha1 := h.a1
      have hb0 := h.b0
      have hb1 := h.b1
      have hwa1 := h.wa1
      have hwa2 := h.wa2
      have hwb1 := h.wb1
      have hwb2 := h.wb2
      refine add_laps _ _ _ _ nmTwo wb b 2 3 0 width (.slice none 0 0) (.slice (some ⟨S, 0, none⟩) 1 2) [⟨nmOne, wa, a, .slice none 0 0⟩] V2 ((hEW.below hb).below hb2) nmTwo_ok.1 nmTwo_ok.2 al_no2 (show 5 < 200 by decide) hT (by decide) (show 1 ≤ 4611686018427387904 by decide) (ahead_2 H hb3) (by decide) (by decide) h.b0 (by omega) h.wb1 h.wb2 (by omega) h2 (fun r hr => ?_) ?_
      · obtain rfl : r = ⟨nmOne, wa, a, .slice none 0 0⟩ := by simpa using hr
        exact ⟨ha0, by dsimp only; omega, hwa1, by dsimp only; omega⟩
      · have : lapB (0 + a) wa (0 + b) wb = true := by
          unfold lapB
          rw [decide_eq_true (show 0 + a < 0 + b + wb by omega), decide_eq_true (show 0 + b < 0 + a + wa by omega)]; rfl
        show (lapB (0 + a) wa (0 + b) wb || false) = true
        rw [this]; rfl
end
end Go.Proofs.YtanbjaohmhoohaaGreatDoor
