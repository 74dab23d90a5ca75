/-
  GeomOuter: what Places answers of its registers, whatever the widths are.
-/
import Derived.Test.YtgnnipnnnebpiaaGreatDoorOutA
namespace Go.Proofs.YtgnnipnnnebpiaaGreatDoor
open Go.RowKit Go.Shelf

def OutTold (ws : List Int) (w : World) (e : Ending) (w' : World) : Prop :=
  ∃ nV pa m pc, e = .returned (.tuple #[nV, .slice pa m pc, .int .i64 (verdict 0 ws)]) ∧ Below w.heap.size w w' ∧ m ≤ ws.length ∧ (verdict 0 ws = 0 → m = ws.length) ∧
    ∀ i a, i < m → ws[i]? = some a → ∃ q, pa = some ⟨q, 0, none⟩ ∧ w'.cell? ⟨q, i * 3, none⟩ = some (.int .i64 i) ∧ w'.cell? ⟨q, i * 3 + 1, none⟩ = some (.int .i64 0) ∧ w'.cell? ⟨q, i * 3 + 2, none⟩ = some (.int .i64 a)

theorem out_told_ok {ws : List Int} {w w' : World} {e : Ending} (hv : verdict 0 ws = 0) (h : PlacesPost w (outSpots 0 ws) e w') : OutTold ws w e w' := by
  obtain ⟨nV, pV, rfl, _, hp, hB⟩ := h
  obtain ⟨pa, pc, rfl⟩ := ownsRow_form hp
  rw [outSpots_length] at hp ⊢
  refine ⟨nV, pa, ws.length, pc, by rw [hv], hB, Nat.le_refl _, fun _ => rfl, fun i a hi ha => ?_⟩
  obtain ⟨m, hm⟩ : ∃ m, ws.length = m + 1 := ⟨ws.length - 1, by omega⟩
  rw [hm] at hp
  obtain ⟨q, qc, hq⟩ := ownsRow_succ hp
  rw [hq] at hp
  cases hq
  obtain ⟨x0, x1, x2⟩ := placeCells_get (outSpots_get ws 0 i a ha)
  refine ⟨q, rfl, ?_, ownsRow_cell hp x1, ownsRow_cell hp x2⟩
  have := ownsRow_cell hp x0
  rw [Nat.zero_add] at this
  exact this
theorem out_told_fell {ws : List Int} {w w' : World} {e : Ending} {n : Int} (hv : verdict 0 ws = n) (hn : n ≠ 0) (h : PlacesFell w n e w') : OutTold ws w e w' := by
  obtain ⟨rfl, hB⟩ := h
  exact ⟨_, none, 0, 0, by rw [hv], hB, Nat.zero_le _, fun h0 => absurd (hv.symm.trans h0) hn, fun i a hi => absurd hi (Nat.not_lt_zero _)⟩

theorem out_fine {A : List Int} {w : World} {g : Nat} (hL : HoldsAt w.heap.size w g 0 (outL 0 A)) (hA : RightW A) (hl : A.length ≤ 200) : ∀ pre x, pre ++ [x] <+: spotsOut 0 (outL 0 A) → Fine w pre x :=
  fine_out hL (outSound A 0 hA (by omega)) (by rw [spots_outL, outSpots_names, ← List.range_eq_range']; exact onames_nodup _ (by omega)) (by rw [spots_outL, outSpots_length]; exact hl)

theorem out_places (ws : List Int) (v : Value) (w : World) (base : Nat) (hE : Env w) (hA : EnvA w) (hrow : w.ownsRow base 26 4 v ws.length (oCells 0 ws)) (hlen : ws.length ≤ 220) :
    Calls Tryz.prog 7 #[v] w (OutTold ws w) := by
  rcases hrow.2 with ⟨rfl, h0⟩ | ⟨g, cap, cur, rfl, hb, hh, hx⟩
  · obtain rfl : ws = [] := List.length_eq_zero_iff.1 h0
    exact (places_none w hE).mono fun e w' h => out_told_ok rfl h
  · have hg : g < w.heap.size := (Array.getElem?_eq_some_iff.1 hh).1
    have hc : ∀ j u, (oCells 0 ws)[j]? = some u → w.cell? ⟨g, 0 + j, none⟩ = some u := fun j u hj => by rw [Nat.zero_add]; exact ownsRow_cell hrow hj
    rcases verdict_cases ws 0 (by omega) with ⟨h1, h2, h3⟩ | ⟨A, a, B, rfl, h2, h3⟩
    · have hL := out_holds hg ws 0 0 hc
      have C := places_ok g 0 cap (outL 0 ws) w hE hL (outSmall ws 0 h2) (Nat.le_trans (outL_height ws 0) (by decide)) (by rw [outL_length]; omega) (out_fine hL h2 (by omega))
      rw [outL_length, spots_outL] at C
      exact C.mono fun e w' h => out_told_ok h1 h
    · have hL := out_holds hg (A ++ a :: B) 0 0 hc
      have hLA := out_holds hg A 0 0 (fun j u hj => hc j u (by
        rw [oCells_append, List.getElem?_append_left (List.getElem?_eq_some_iff.1 hj).1]; exact hj))
      rw [outL_app, Nat.zero_add] at hL
      simp only [List.length_append, List.length_cons] at hlen hrow ⊢
      have hAl : A.length ≤ 200 := by rcases h3 with ⟨_, h⟩ | ⟨_, h, _⟩ <;> omega
      obtain ⟨hN, hW⟩ := oname_ok A.length (by omega)
      have C : ∀ n, _ → _ := fun n hbad => places_panics n g 0 cap (A.length + (B.length + 1)) (outL 0 A) (oname A.length) a 0 (.slice none 0 0) .nil (outL (A.length + 1) B) w hE hA (by rw [outL_length, outL_length]) hL (outSmall A 0 h2) (Nat.le_trans (outL_height A 0) (by decide)) (by omega) ⟨_, _, _, rfl⟩ (out_fine hLA h2 hAl) hbad
      rcases h3 with ⟨h4, h5⟩ | ⟨h4, h5, h6⟩
      · refine (C 2 fun W hB hT => ?_).mono fun e w' h => out_told_fell h4 (by decide) h
        exact add_full _ _ _ _ _ _ _ _ _ _ _ _ _ W (by rw [List.length_map, spots_outL, outSpots_length]; omega) hT (by decide)
      · refine (C 6 fun W hB hT => ?_).mono fun e w' h => out_told_fell h4 (by decide) h
        exact add_wide _ _ _ _ _ _ _ _ _ _ _ _ _ W (hE.below hB) hN hW (by rw [spots_outL]; exact oname_new A (by omega)) (by rw [List.length_map, spots_outL, outSpots_length]; omega) hT (by decide) h6
end Go.Proofs.YtgnnipnnnebpiaaGreatDoor
