/-
  vir's list of numbers, the parts of a form, numerals.
-/
import Derived.Test.YtfnfijgknjnccaaGreatDoorVwD
namespace Go.Proofs.YtfnfijgknjnccaaGreatDoor
open Go.RowKit Go.Sort
/-- Words in a row. -/
def StrsL (W : World) (a : Option Addr) (l : List ByteArray) : Prop := ∀ (j : Nat) (x : ByteArray), l[j]? = some x → ∃ b o, a = some ⟨b, o, none⟩ ∧ W.cell? ⟨b, o + j, none⟩ = some (.string x)
theorem StrsL.below {W V : World} {a : Option Addr} {l : List ByteArray} (h : StrsL W a l) (hb : Below W.heap.size W V) : StrsL V a l := fun j x hx => by
  obtain ⟨b, o, h1, h2⟩ := h j x hx
  exact ⟨b, o, h1, cell_below hb h2⟩
/-- Numbers in a row. -/
def IntsL (W : World) (a : Option Addr) (l : List Int) : Prop := ∀ (j : Nat) (x : Int), l[j]? = some x → ∃ b o, a = some ⟨b, o, none⟩ ∧ W.cell? ⟨b, o + j, none⟩ = some (.int .i64 x)
theorem IntsL.below {W V : World} {a : Option Addr} {l : List Int} (h : IntsL W a l) (hb : Below W.heap.size W V) : IntsL V a l := fun j x hx => by
  obtain ⟨b, o, h1, h2⟩ := h j x hx
  exact ⟨b, o, h1, cell_below hb h2⟩
theorem intsL_row {W : World} {base : Nat} {e : TypeId} {a : Option Addr} {c n : Nat} {l : List Int} (h : W.ownsRow base e 1 (.slice a n c) n (l.map (Value.int .i64))) : IntsL W a l := fun j x hx => by
  have hj : j < l.length := (List.getElem?_eq_some_iff.1 hx).1
  have hl := h.1
  rw [List.length_map] at hl
  rcases h.2 with ⟨_, h0⟩ | ⟨g, cap, cur, hv, _⟩
  · omega
  · injection hv with ha _ _
    subst ha
    refine ⟨g, 0, rfl, ?_⟩
    rw [Nat.zero_add, h.cellAt j (by omega), List.getElem?_map, hx]
    rfl
theorem ownsRow_form {W : World} {base : Nat} {e : TypeId} {size : Nat} {v : Value} {k : Nat} {xs : List Value} (h : W.ownsRow base e size v k xs) : ∃ a cap, v = .slice a k cap := by
  rcases h.2 with ⟨rfl, h0⟩ | ⟨g, cap, _, rfl, _⟩
  · exact ⟨none, 0, by rw [h0]⟩
  · exact ⟨_, cap, rfl⟩
theorem ownsRow_up {W : World} {base : Nat} {e : TypeId} {size : Nat} {v : Value} {k : Nat} {xs : List Value} (h : W.ownsRow base e size v k xs) {g : Nat} (hg : v.ownBlock = some g) : base ≤ g := by
  rcases h.2 with ⟨rfl, _⟩ | ⟨g', cap, cur, rfl, hb, _⟩
  · simp [Value.ownBlock] at hg
  · obtain rfl : g' = g := by simpa [Value.ownBlock] using hg
    exact hb
theorem Tryz.infoIntV : (Tryz.prog.info? 3).map (fun i => (i.zero, i.size, i.bytes)) = some (some (.int .i64 0), 1, 8) := by kernel_rfl
set_option maxHeartbeats 4000000
set_option maxRecDepth 100000
theorem listI_ok {a : Option Addr} {c : Nat} {l : List ByteArray} {most : Int} {w : World} (hE : EnvV w) (hl : StrsL w a l) (hz : ∀ x, x ∈ l → x.size ≤ 65536) (hok : ∀ x, x ∈ l → numB x = true) (hm : (l.length : Int) ≤ most) (hlen : l.length ≤ 100000) :
    Calls Tryz.prog 60 #[.slice a l.length c, .func (.func 35) #[] #[], .int .i64 most] w fun e w' =>
      ∃ a' c', e = .returned (.tuple #[.slice a' l.length c', .int .i64 0]) ∧ w'.ownsRow w.heap.size 3 1 (.slice a' l.length c') l.length ((l.map intV).map (Value.int .i64)) ∧ Below w.heap.size w w' := by
  obtain ⟨i0, hi0, hz0, hz1, hz2⟩ := info_parts Tryz.infoIntV
  replace hE := Lib.hid hE
  replace hl := Lib.hid hl
  replace hz := Lib.hid hz
  replace hok := Lib.hid hok
  go_enter Tryz.func60, Tryz.ntmps60
  go_wp2
  go_loopw [8, 15] (fun v i wr => ∃ (k : Nat) (a' : Option Addr) (c' : Nat), k ≤ l.length ∧ i = .int .i64 k ∧ v = .slice a' k c' ∧ Hid (wr.ownsRow w.heap.size 3 1 (.slice a' k c') k (((l.take k).map intV).map (Value.int .i64))) ∧ Below w.heap.size w wr) (fun _ i _ => l.length - (intOf i).toNat)
  case atStart => exact ⟨0, none, 0, Nat.zero_le _, rfl, rfl, Lib.hid (World.ownsRow_nil _ _ _ _), Below.refl _ _⟩
  case round =>
    obtain ⟨k, va, vc, hk, rfl, rfl, hrow, hB⟩ := hrel
    have k0 : (0 : Int) ≤ k := Int.natCast_nonneg _
    by_cases hlt : k < l.length
    · obtain ⟨x, hx⟩ : ∃ x, l[k]? = some x := ⟨l[k], by rw [List.getElem?_eq_getElem hlt]⟩
      obtain ⟨b, o, rfl, hc⟩ := hl.out k x hx
      have hc' := cell_below hB hc
      have hxm := List.mem_of_getElem? hx
      have K := number_any x (by have := hz.out x hxm; omega) wr (hE.out.below hB)
      rw [hok.out x hxm] at K
      have hsn : Hid ((l.take (k + 1)).map intV = (l.take k).map intV ++ [intV x]) := Lib.hid (by rw [List.take_add_one, hx]; simp)
      have hBs := hB.size
      have hi : IntKind.i64.wrap ((k : Int) + 1) = k + 1 := IntWalk.i64_in _ (by omega)
      have k1 : (k : Int) < l.length := by omega
      clear hx hc hxm
      generalize intV x = r at *
      go_wp2_with (first
        | (go_at_call 35; refine K.mono ?_; clear K; rintro e W1 ⟨rfl, hb1⟩; have hr1 := Lib.hid (hrow.out.kept (grownBy_of_below hb1) (by cases hv : (Value.slice va k vc).ownBlock with | none => exact .inl rfl | some b => exact .inr (by simp))); have hs1 := hb1.size; replace hB := hB.trans (hb1.mono hB.size))
        | (at_builtin; refine wpList_append_own_at _ rfl _ _ 23 rfl w.heap.size 3 i0 _ 1 8 Tryz.underlying23 hi0 hz0 hz1 hz2 rfl (by decide) _ k (((l.take k).map intV).map (Value.int .i64)) rfl (hr1.out.alloc _) ⟨W1.heap.size, 0, none⟩ 1 1 [.int .i64 r] rfl rfl (new_cells _ _ _ _ rfl) (by simp [Value.oneCell']) (by unfold maxLen; omega) (by omega) (by simp; omega) ?_; intro v' W7 hown7 hgrow _ hblk; obtain ⟨g', cap', rfl⟩ := ownsRow_form hown7))
      have hB7 : Below w.heap.size w W7 := (hB.alloc (by omega) _).grown hgrow (by simp; omega) (fun g hg => ownsRow_up hr1.out hg)
      replace hown7 : Hid (W7.ownsRow w.heap.size 3 1 (.slice g' (k + 1) cap') (k + 1) (((l.take (k + 1)).map intV).map (Value.int .i64))) := Lib.hid (by
        rw [hsn.out, List.map_append]; exact hown7)
      exact ⟨⟨k + 1, g', cap', by omega, by go_num, rfl, hown7, hB7⟩, by simp [intOf]; omega⟩
    · obtain rfl : k = l.length := by omega
      have hfin := hrow.out
      rw [List.take_length] at hfin
      replace hfin := Lib.hid hfin
      clear hrow
      go_wp2
      go_ret2
      exact ⟨va, vc, rfl, hfin.out, hB⟩
end Go.Proofs.YtfnfijgknjnccaaGreatDoor
