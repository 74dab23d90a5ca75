/-
  vir's list of names; its named and listed, where all is well.
-/
import Derived.Test.YtfnfijgknjnccaaGreatDoorVwJ
namespace Go.Proofs.YtfnfijgknjnccaaGreatDoor
open Go.RowKit Go.Sort
set_option maxHeartbeats 4000000
set_option maxRecDepth 100000
theorem listS_ok {a : Option Addr} {c : Nat} {l : List ByteArray} {most : Int} {w : World} (hE : EnvV w) (hl : StrsL w a l) (hok : ∀ x, x ∈ l → IsName x) (hm : (l.length : Int) ≤ most) (hlen : l.length ≤ 100000) :
    Calls Tryz.prog 58 #[.slice a l.length c, .func (.func 33) #[] #[], .int .i64 most] w fun e w' =>
      ∃ a' c', e = .returned (.tuple #[.slice a' l.length c', .int .i64 0]) ∧ w'.ownsRow w.heap.size 9 1 (.slice a' l.length c') l.length (l.map Value.string) ∧ Below w.heap.size w w' := by
  obtain ⟨i0, hi0, hz0, hz1, hz2⟩ := info_parts Tryz.infoStrV
  replace hE := Lib.hid hE
  replace hl := Lib.hid hl
  replace hok := Lib.hid hok
  go_enter Tryz.func58, Tryz.ntmps58
  go_wp2
  go_loopw [8, 15] (fun v i wr => ∃ (k : Nat) (a' : Option Addr) (c' : Nat), k ≤ l.length ∧ i = .int .i64 k ∧ v = .slice a' k c' ∧ Hid (wr.ownsRow w.heap.size 9 1 (.slice a' k c') k ((l.take k).map Value.string)) ∧ Below w.heap.size w wr) (fun _ i _ => l.length - (intOf i).toNat)
  case atStart => exact ⟨0, none, 0, Nat.zero_le _, rfl, rfl, Lib.hid (World.ownsRow_nil _ _ _ _), Below.refl _ _⟩
  case round =>
    obtain ⟨k, va, vc, hk, rfl, rfl, hrow, hB⟩ := hrel
    have k0 : (0 : Int) ≤ k := Int.natCast_nonneg _
    by_cases hlt : k < l.length
    · obtain ⟨x, hx⟩ : ∃ x, l[k]? = some x := ⟨l[k], by rw [List.getElem?_eq_getElem hlt]⟩
      obtain ⟨b, o, rfl, hc⟩ := hl.out k x hx
      have hc' := cell_below hB hc
      have hxm := List.mem_of_getElem? hx
      have K := name_yes x (hok.out x hxm) wr (hE.out.below hB)
      have hsn : Hid (l.take (k + 1) = l.take k ++ [x]) := Lib.hid (by rw [List.take_add_one, hx]; simp)
      have hBs := hB.size
      have hi : IntKind.i64.wrap ((k : Int) + 1) = k + 1 := IntWalk.i64_in _ (by omega)
      have k1 : (k : Int) < l.length := by omega
      clear hx hc hxm
      go_wp2_with (first
        | (go_at_call 33; refine K.mono ?_; clear K; rintro e W1 ⟨rfl, hb1⟩; have hr1 := Lib.hid (hrow.out.kept (grownBy_of_below hb1) (by cases hv : (Value.slice va k vc).ownBlock with | none => exact .inl rfl | some b => exact .inr (by simp))); have hs1 := hb1.size; replace hB := hB.trans (hb1.mono hB.size))
        | (at_builtin; refine wpList_append_own_at _ rfl _ _ 28 rfl w.heap.size 9 i0 _ 1 16 Tryz.underlying28 hi0 hz0 hz1 hz2 rfl (by decide) _ k ((l.take k).map Value.string) rfl (hr1.out.alloc _) ⟨W1.heap.size, 0, none⟩ 1 1 [.string x] rfl rfl (new_cells _ _ _ _ rfl) (by simp [Value.oneCell']) (by unfold maxLen; omega) (by omega) (by simp; omega) ?_; intro v' W7 hown7 hgrow _ hblk; obtain ⟨g', cap', rfl⟩ := ownsRow_form hown7))
      have hB7 : Below w.heap.size w W7 := (hB.alloc (by omega) _).grown hgrow (by simp; omega) (fun g hg => ownsRow_up hr1.out hg)
      replace hown7 : Hid (W7.ownsRow w.heap.size 9 1 (.slice g' (k + 1) cap') (k + 1) ((l.take (k + 1)).map Value.string)) := Lib.hid (by
        rw [hsn.out, List.map_append]; exact hown7)
      exact ⟨⟨k + 1, g', cap', by omega, by go_num, rfl, hown7, hB7⟩, by simp [intOf]; omega⟩
    · obtain rfl : k = l.length := by omega
      have hfin := hrow.out
      rw [List.take_length] at hfin
      replace hfin := Lib.hid hfin
      clear hrow
      go_wp2
      go_ret2
      exact ⟨va, vc, rfl, hfin.out, hB⟩

theorem strs_next {W : World} {b o c : Nat} {x : ByteArray} {l : List ByteArray} (h : StrsL W (some ⟨b, o, none⟩) (x :: l)) (hc : l.length + 1 ≤ c) : StrsL W (if c = 1 then some ⟨b, o, none⟩ else some ⟨b, o + 1, none⟩) l := by
  split
  · intro j y hy
    have := (List.getElem?_eq_some_iff.1 hy).1
    omega
  · intro j y hy
    obtain ⟨b1, o1, h1, h2⟩ := h (j + 1) y (by simpa using hy)
    cases h1
    exact ⟨b, o + 1, rfl, by rw [show o + 1 + j = o + (j + 1) by omega]; exact h2⟩
theorem named_ok {b o c : Nat} {word nm : ByteArray} {w : World} (hE : EnvV w) (hl : StrsL w (some ⟨b, o, none⟩) [word, nm]) (hN : IsName nm) :
    Calls Tryz.prog 31 #[.slice (some ⟨b, o, none⟩) 2 c, .string word] w fun e w' => e = .returned (.tuple #[.string nm, .int .i64 0]) ∧ Below w.heap.size w w' := by
  have hb0 : Below w.heap.size w (w.alloc (.cells #[.string ⟨#[]⟩] 9)) := belowN
  have hC := Cells.new w 9 #[.string ⟨#[]⟩]
  have K := takeS_any (enters_of Tryz.func33 (by kernel_rfl) rfl) (name_yes nm hN _ (hE.below hb0)) (hC.cell (j := 0) rfl) (hC.frozen 0)
  obtain ⟨b1, o1, h1, h2⟩ := hl 0 word rfl
  cases h1
  obtain ⟨b1, o1, h3, h4⟩ := hl 1 nm rfl
  cases h3
  rw [Nat.add_zero] at h2
  have g2 := fun p => cell_alloc p h2
  have g4 := fun p => cell_alloc p h4
  clear hE hl hN h2 h4
  replace hC := Lib.hid hC
  replace hb0 := Lib.hid hb0
  go_enter Tryz.func31, Tryz.ntmps31
  go_wp2_with (go_at_call 57; refine K.mono ?_; clear K; rintro e W1 ⟨rfl, W2, hb2, rfl⟩; have hc5 := ((hC.out.below hb2 hC.out.lt).set (j := 0) (.string nm)).cell (j := 0) (v := .string nm) rfl; have hbw := Lib.hid ((hb0.out.trans (hb2.mono hb0.out.size)).setCell (p := ⟨w.heap.size, 0, none⟩) (Nat.le_refl _) (.string nm)))
  go_ret2
  exact ⟨rfl, hbw.out⟩
theorem listedS_ok {b o c : Nat} {word : ByteArray} {l : List ByteArray} {most : Int} {w : World} (hE : EnvV w) (hl : StrsL w (some ⟨b, o, none⟩) (word :: l)) (hc : l.length + 1 ≤ c) (hok : ∀ x, x ∈ l → IsName x) (hm : (l.length : Int) ≤ most) (hlen : l.length ≤ 100000) :
    Calls Tryz.prog 32 #[.slice (some ⟨b, o, none⟩) (l.length + 1) c, .string word, .func (.func 33) #[] #[], .int .i64 most] w fun e w' =>
      ∃ a' c', e = .returned (.tuple #[.slice a' l.length c', .int .i64 0]) ∧ w'.ownsRow w.heap.size 9 1 (.slice a' l.length c') l.length (l.map Value.string) ∧ Below w.heap.size w w' := by
  have K := listS_ok (c := c - 1) hE (strs_next hl hc) hok hm hlen
  obtain ⟨b1, o1, h1, h2⟩ := hl 0 word rfl
  cases h1
  rw [Nat.add_zero] at h2
  obtain ⟨n, hn⟩ : ∃ n, n = l.length + 1 := ⟨_, rfl⟩
  have hr1 : l.length = n - 1 := by omega
  rw [← hn] at hc ⊢
  rw [hr1] at K ⊢
  have n1 : (1 : Int) ≤ n := by omega
  have n2 : (n : Int) ≤ c := by omega
  have n3 : (1 : Int) ≤ c := by omega
  have n4 : (0 : Int) < n := by omega
  have n5 : 0 < n := by omega
  have n6 : n ≠ 0 := by omega
  have n7 : 1 ≤ n := by omega
  have n8 : 1 ≤ c := by omega
  clear hE hl hok hm hlen
  replace hn := Lib.hid hn
  replace hr1 := Lib.hid hr1
  have hcc1 : c = 1 ∨ ¬ c = 1 := by omega
  rcases hcc1 with hcc1 | hcc1
  · rw [if_pos hcc1] at K
    subst hcc1
    obtain rfl : n = 1 := by omega
    simp only [Nat.sub_self] at K ⊢
    clear n1 n2 n3 n4 n5 n6 n7 n8 hc
    go_enter Tryz.func32, Tryz.ntmps32
    go_wp2_with (go_at_call 58; refine K.mono ?_; clear K; rintro e W1 ⟨a', c', rfl, hrow, hb1⟩)
    go_ret2
    exact ⟨a', c', rfl, hrow, hb1⟩
  · rw [if_neg hcc1] at K
    go_enter Tryz.func32, Tryz.ntmps32
    go_wp2_with (go_at_call 58; refine K.mono ?_; clear K; rintro e W1 ⟨a', c', rfl, hrow, hb1⟩)
    go_ret2
    exact ⟨a', c', rfl, hrow, hb1⟩
theorem listedI_ok {b o c : Nat} {word : ByteArray} {l : List ByteArray} {most : Int} {w : World} (hE : EnvV w) (hl : StrsL w (some ⟨b, o, none⟩) (word :: l)) (hc : l.length + 1 ≤ c) (hz : ∀ x, x ∈ l → x.size ≤ 65536) (hok : ∀ x, x ∈ l → numB x = true) (hm : (l.length : Int) ≤ most) (hlen : l.length ≤ 100000) :
    Calls Tryz.prog 34 #[.slice (some ⟨b, o, none⟩) (l.length + 1) c, .string word, .func (.func 35) #[] #[], .int .i64 most] w fun e w' =>
      ∃ a' c', e = .returned (.tuple #[.slice a' l.length c', .int .i64 0]) ∧ w'.ownsRow w.heap.size 3 1 (.slice a' l.length c') l.length ((l.map intV).map (Value.int .i64)) ∧ Below w.heap.size w w' := by
  have K := listI_ok (c := c - 1) hE (strs_next hl hc) hz hok hm hlen
  obtain ⟨b1, o1, h1, h2⟩ := hl 0 word rfl
  cases h1
  rw [Nat.add_zero] at h2
  obtain ⟨n, hn⟩ : ∃ n, n = l.length + 1 := ⟨_, rfl⟩
  have hr1 : l.length = n - 1 := by omega
  rw [← hn] at hc ⊢
  rw [hr1] at K ⊢
  have n1 : (1 : Int) ≤ n := by omega
  have n2 : (n : Int) ≤ c := by omega
  have n3 : (1 : Int) ≤ c := by omega
  have n4 : (0 : Int) < n := by omega
  have n5 : 0 < n := by omega
  have n6 : n ≠ 0 := by omega
  have n7 : 1 ≤ n := by omega
  have n8 : 1 ≤ c := by omega
  clear hE hl hz hok hm hlen
  replace hn := Lib.hid hn
  replace hr1 := Lib.hid hr1
  have hcc1 : c = 1 ∨ ¬ c = 1 := by omega
  rcases hcc1 with hcc1 | hcc1
  · rw [if_pos hcc1] at K
    subst hcc1
    obtain rfl : n = 1 := by omega
    simp only [Nat.sub_self] at K ⊢
    clear n1 n2 n3 n4 n5 n6 n7 n8 hc
    go_enter Tryz.func34, Tryz.ntmps34
    go_wp2_with (go_at_call 60; refine K.mono ?_; clear K; rintro e W1 ⟨a', c', rfl, hrow, hb1⟩)
    go_ret2
    exact ⟨a', c', rfl, hrow, hb1⟩
  · rw [if_neg hcc1] at K
    go_enter Tryz.func34, Tryz.ntmps34
    go_wp2_with (go_at_call 60; refine K.mono ?_; clear K; rintro e W1 ⟨a', c', rfl, hrow, hb1⟩)
    go_ret2
    exact ⟨a', c', rfl, hrow, hb1⟩
end Go.Proofs.YtfnfijgknjnccaaGreatDoor
