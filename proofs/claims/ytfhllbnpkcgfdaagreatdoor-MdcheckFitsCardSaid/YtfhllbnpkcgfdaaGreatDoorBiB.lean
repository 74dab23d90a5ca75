/-
  The law's bound on descriptions: how great registers within registers are, all together.
-/
import Derived.Test.YtfhllbnpkcgfdaaGreatDoorOpA
import Derived.Deep.QuietTactic
import Derived.BigQuiet
import Derived.Deep.DeepCutAuto
import Derived.RegionTactic
namespace Go.Proofs.YtfhllbnpkcgfdaaGreatDoor
open Go.RowKit
theorem HoldsW.of {n₀ : Nat} {W W' : World} (hc : ∀ b j v, b < n₀ → W.cell? ⟨b, j, none⟩ = some v → W'.cell? ⟨b, j, none⟩ = some v) : ∀ {L : RegL} {b o : Nat}, HoldsW n₀ W b o L → HoldsW n₀ W' b o L
  | .nil, _, _, _ => trivial
  | .cons _ _ _ _ _ _, b, _, ⟨h1, h2, h3, h4, h5⟩ => ⟨h1, regAt_of h2 (fun j v hv => hc b j v h1 hv), h3, HoldsW.of hc h4,
      h5.imp id fun ⟨b', o', c', e1, e2, e3, e4⟩ => ⟨b', o', c', e1, e2, e3, HoldsW.of hc e4⟩⟩
/-- How great the registers of a list are, n of it counted so far. -/
def sizeFrom : RegL → Nat → Nat → Nat
  | .nil, _, n => n
  | .cons nm _ _ _ subs rest, dp, n => if 5000 < n then n else if dp = 0 then 5001 else sizeFrom rest dp (n + nm.size / 8 + sizeFrom subs (dp - 1) subs.length)
theorem sizeFrom_cons (nm : ByteArray) (wd at_ : Int) (sv : Value) (subs rest : RegL) (dp n : Nat) : sizeFrom (.cons nm wd at_ sv subs rest) dp n = if 5000 < n then n else if dp = 0 then 5001 else sizeFrom rest dp (n + nm.size / 8 + sizeFrom subs (dp - 1) subs.length) := rfl
theorem sizeFrom_le {n₀ : Nat} {W : World} : ∀ {L : RegL} {b o dp n : Nat}, HoldsW n₀ W b o L → n ≤ (dp + 1) * 281474976710656 → sizeFrom L dp n ≤ (dp + 1) * 281474976710656
  | .nil, _, _, _, _, _, h => h
  | .cons nm _ _ _ subs rest, b, o, dp, n, ⟨_, _, h3, h4, h5⟩, h => by
    unfold sizeFrom
    split
    · exact h
    · split
      · omega
      · rename_i h6 h7
        obtain ⟨d, rfl⟩ : ∃ d, dp = d + 1 := ⟨dp - 1, by omega⟩
        have hs : sizeFrom subs d subs.length ≤ (d + 1) * 281474976710656 := by
          rcases h5 with ⟨_, rfl⟩ | ⟨b', o', c', _, _, e3, e4⟩
          · simp [sizeFrom, RegL.length]
          · exact sizeFrom_le e4 (by omega)
        rw [show d + 1 - 1 = d from rfl]
        exact sizeFrom_le h4 (by omega)
theorem sizeFrom_ge : ∀ (L : RegL) (dp n : Nat), sizeFrom L dp n ≤ 5000 → n ≤ sizeFrom L dp n
  | .nil, _, _, _ => Nat.le_refl _
  | .cons nm _ _ _ subs rest, dp, n, h => by
    unfold sizeFrom at h ⊢
    split
    · exact Nat.le_refl _
    · rename_i h6
      rw [if_neg h6] at h
      split
      · omega
      · rename_i h7
        rw [if_neg h7] at h
        have := sizeFrom_ge rest dp _ h
        omega
theorem sizeFrom_holds {n₀ : Nat} {W : World} : ∀ {L : RegL} {b o dp n : Nat}, HoldsW n₀ W b o L → sizeFrom L dp n ≤ 5000 → HoldsAt n₀ W b o L
  | .nil, _, _, _, _, _, _ => trivial
  | .cons nm _ _ _ subs rest, b, o, dp, n, ⟨h1, h2, h3, h4, h5⟩, h => by
    unfold sizeFrom at h
    split at h
    · omega
    · split at h
      · omega
      · have hge := sizeFrom_ge rest dp _ h
        refine ⟨h1, h2, sizeFrom_holds h4 h, ?_⟩
        rcases h5 with ⟨ha, hn⟩ | ⟨b', o', c', e1, e2, _, e4⟩
        · exact .inl ⟨ha, hn⟩
        · have hs : sizeFrom subs (dp - 1) subs.length ≤ 5000 := by omega
          have := sizeFrom_ge subs (dp - 1) _ hs
          exact .inr ⟨b', o', c', e1, e2, by omega, sizeFrom_holds e4 hs⟩
set_option maxRecDepth 100000 in
set_option maxHeartbeats 3200000 in
theorem lawSize (n₀ : Nat) : ∀ (dp : Nat), dp ≤ 30 → ∀ (a : Option Addr) (c : Nat) (L : RegL) (w : World), n₀ ≤ w.heap.size → L.length ≤ c → L.length ≤ 140737488355328 → (L = .nil ∨ ∃ b o, a = some ⟨b, o, none⟩ ∧ HoldsW n₀ w b o L) →
    Calls Tryz.prog 16 #[.slice a L.length c, .int .i64 dp] w fun e w' => e = .returned (.int .i64 (sizeFrom L dp L.length)) ∧ ∃ m, w' = w.drewN m := by
  intro dp
  induction dp with
  | zero =>
    intro _ a c L w hn₀ hc hbig hL
    cases L with
    | nil =>
      clear hL
      go_enter Tryz.func16, Tryz.ntmps16
      go_wp2_with fail
      refine wp_loop_rounds 1 ?_
      rw [rounds_succ]
      go_wp2_with fail
      go_ret
      exact ⟨rfl, 0, rfl⟩
    | cons nm wd at_ sv subs rest =>
      obtain ⟨n, hn⟩ : ∃ n, n = (RegL.cons nm wd at_ sv subs rest).length := ⟨_, rfl⟩
      have hn1 : 0 < n := by rw [hn]; simp [RegL.length]
      have hn2 : (0 : Int) < n := by omega
      rw [← hn] at hc hbig ⊢
      have hr : Hid (sizeFrom (RegL.cons nm wd at_ sv subs rest) 0 n = if 5000 < n then n else 5001) := Lib.hid (by unfold sizeFrom; simp)
      generalize sizeFrom (RegL.cons nm wd at_ sv subs rest) 0 n = z at *
      clear hL hn
      by_cases h5 : (5000 : Int) < n
      · have hz : Hid (z = n) := Lib.hid (by rw [hr.out, if_pos (by omega)])
        clear hr
        go_enter Tryz.func16, Tryz.ntmps16
        go_wp2_with fail
        refine wp_loop_rounds 1 ?_
        rw [rounds_succ]
        go_wp2_with fail
        go_ret
        exact ⟨ret_int (by rw [hz.out]), 0, rfl⟩
      · have hz : Hid (z = 5001) := Lib.hid (by rw [hr.out, if_neg (by omega)])
        clear hr
        go_enter Tryz.func16, Tryz.ntmps16
        go_wp2_with fail
        refine wp_loop_rounds 1 ?_
        rw [rounds_succ]
        go_wp2_with fail
        go_ret
        exact ⟨ret_int (by rw [hz.out]; rfl), 0, rfl⟩
  | succ dp ih =>
    intro hdp a c L w hn₀ hc hbig hL
    obtain ⟨z, hz⟩ : ∃ z, z = sizeFrom L (dp + 1) L.length := ⟨_, rfl⟩
    rw [← hz]
    obtain ⟨n, hn⟩ : ∃ n, n = L.length := ⟨_, rfl⟩
    rw [← hn] at hc hbig ⊢
    have hI : Hid (∃ (k : Nat) (rest : RegL), k = 0 ∧ rest.length + k = n ∧ (rest = .nil ∨ ∃ b o, a = some ⟨b, o, none⟩ ∧ HoldsW n₀ w b (o + k * 4) rest) ∧ z = sizeFrom rest (dp + 1) n) := Lib.hid ⟨0, L, rfl, by omega, by simpa using hL, by rw [hz, hn]⟩
    replace ih := Lib.hid (ih (by omega))
    have hdpi : (dp : Int) ≤ 29 := by omega
    clear hL hz hn
    go_enter Tryz.func16, Tryz.ntmps16
    go_wp2_with fail
    go_loopw [5, 6] (fun v i wr => ∃ (k m : Nat) (rest : RegL), k ≤ n ∧ i = .int .i64 k ∧ v = .int .i64 m ∧ Hid (rest.length + k = n) ∧ Hid (rest = .nil ∨ ∃ b o, a = some ⟨b, o, none⟩ ∧ HoldsW n₀ w b (o + k * 4) rest) ∧ Hid (z = sizeFrom rest (dp + 1) m) ∧ m ≤ (dp + 2) * 281474976710656 ∧ Hid (∃ q, wr = w.drewN q)) (fun _ i _ => n - (intOf i).toNat)
    case atStart =>
      obtain ⟨k, rest, rfl, h1, h2, h3⟩ := hI.out
      exact ⟨0, n, rest, Nat.zero_le _, rfl, rfl, Lib.hid h1, Lib.hid h2, Lib.hid h3, by omega, Lib.hid ⟨0, rfl⟩⟩
    case round =>
      obtain ⟨k, m, rest, hk, rfl, rfl, hlen, hold, hsz, hm, hq⟩ := hrel
      clear hI
      cases rest with
      | nil =>
        have hkn : ¬ k < n := by have := hlen.out; simp only [RegL.length] at this; omega
        have hfin : Hid (∃ q, wr = w.drewN q) := hq
        have hz2 : Hid (z = m) := Lib.hid hsz.out
        clear hlen hold hsz hq
        go_wp2_with fail
        go_ret
        exact ⟨ret_int (by rw [hz2.out]), hfin.out⟩
      | cons nm wd at_ sv subs rest =>
        have hkn : k < n := by have := hlen.out; simp only [RegL.length] at this; omega
        by_cases h5 : (5000 : Int) < m
        · have hz2 : Hid (z = m) := Lib.hid (by rw [hsz.out]; unfold sizeFrom; rw [if_pos (by omega)])
          clear hlen hold hsz
          go_wp2_with fail
          go_ret
          exact ⟨ret_int (by rw [hz2.out]), hq.out⟩
        · rcases hold.out with h | ⟨b, o, rfl, hh⟩
          · cases h
          · have hb : Below w.heap.size w wr := by obtain ⟨q, hq⟩ := hq.out; rw [hq]; exact below_drewN (Below.refl _ _) q
            obtain ⟨hb1, ⟨e0, e1, e2, e3⟩, hnz, hrest, hsub⟩ := hh
            have e0 := cell_below hb e0
            have e3 := cell_below hb e3
            clear e1 e2
            obtain ⟨sa, sc, hsv, hs1, hs2, hs3⟩ : ∃ sa sc, sv = .slice sa subs.length sc ∧ subs.length ≤ sc ∧ subs.length ≤ 140737488355328 ∧ (subs = .nil ∨ ∃ b o, sa = some ⟨b, o, none⟩ ∧ HoldsW n₀ w b o subs) := by
              rcases hsub with ⟨⟨sa, rfl⟩, rfl⟩ | ⟨b', o', c', rfl, g1, g2, g3⟩
              · exact ⟨sa, 0, rfl, Nat.le_refl _, Nat.zero_le _, .inl rfl⟩
              · exact ⟨_, c', rfl, g1, g2, .inr ⟨b', o', rfl, g3⟩⟩
            subst hsv
            obtain ⟨y, hy⟩ : ∃ y, y = sizeFrom subs dp subs.length := ⟨_, rfl⟩
            have hyb : y ≤ (dp + 1) * 281474976710656 := by
              rw [hy]
              rcases hs3 with rfl | ⟨b', o', _, g3⟩
              · simp [sizeFrom, RegL.length]
              · exact sizeFrom_le g3 (by omega)
            have K : ∀ q', Calls Tryz.prog 16 #[.slice sa subs.length sc, .int .i64 dp] (wr.drewN q') fun e w' => e = .returned (.int .i64 y) ∧ ∃ m, w' = (wr.drewN q').drewN m := fun q' => by
              rw [hy]
              have hb2 := below_drewN hb q'
              exact ih.out sa sc subs (wr.drewN q') (Nat.le_trans hn₀ hb2.size) hs1 hs2 (hs3.imp id fun ⟨b', o', g1, g2⟩ => ⟨b', o', g1, HoldsW.of (fun b j v hb hv => cell_below hb2 hv) g2⟩)
            obtain ⟨x, hx⟩ : ∃ x : Nat, x = nm.size / 8 := ⟨_, rfl⟩
            have hxb : x ≤ 17592186044416 := by omega
            have hx1 : ((nm.size : Int)) / 8 = x := by omega
            have hx2 : IntKind.i64.wrap ((nm.size : Int).tdiv 8) = x := by rw [Int.tdiv_eq_ediv_of_nonneg (by omega), hx1]; exact IntWalk.i64_in _ (by omega)
            have hx3 : IntKind.i64.wrap ((m : Int) + x) = (m : Int) + x := IntWalk.i64_in _ (by omega)
            have hx4 : IntKind.i64.wrap ((m : Int) + x + y) = (m : Int) + x + y := IntWalk.i64_in _ (by omega)
            have hx5 : IntKind.i64.wrap (((dp + 1 : Nat) : Int) - 1) = dp := by rw [IntWalk.i64_in _ (by omega)]; omega
            have hz2 : Hid (z = sizeFrom rest (dp + 1) (m + x + y)) := Lib.hid (by rw [hsz.out, sizeFrom_cons, if_neg (show ¬ 5000 < m by omega), if_neg (Nat.succ_ne_zero dp), hx, hy]; rfl)
            have hrest2 : Hid (rest = .nil ∨ ∃ b' o', some (⟨b, o, none⟩ : Addr) = some ⟨b', o', none⟩ ∧ HoldsW n₀ w b' (o' + (k + 1) * 4) rest) := Lib.hid (.inr ⟨b, o, rfl, by rwa [show o + (k + 1) * 4 = o + k * 4 + 4 by omega]⟩)
            have hlen2 : Hid (rest.length + (k + 1) = n) := Lib.hid (by have := hlen.out; simp only [RegL.length] at this; omega)
            replace hx1 := Lib.hid hx1
            replace hx := Lib.hid hx
            replace hy := Lib.hid hy
            have hkn2 : (k : Int) < n := by omega
            generalize subs.length = sl at *
            clear hlen hold hsz hs1 hs2 hs3 hsub hrest
            go_upto_region 7 with fail
            go_quiet ((go_at_call 16; exact Calls.quiet_of (K _)))
            go_wp2_with fail
            go_round
            case rel =>
              have hx1 := hx1.out
              refine ⟨k + 1, m + x + y, rest, by omega, by go_num, by go_num, hlen2, hrest2, hz2, by omega, ?_⟩
              obtain ⟨q, hq⟩ := hq.out
              exact Lib.hid ⟨_, by rw [hq, World.drewN_drewN]⟩
            case measure => simp [intOf]; omega
end Go.Proofs.YtfhllbnpkcgfdaaGreatDoor
