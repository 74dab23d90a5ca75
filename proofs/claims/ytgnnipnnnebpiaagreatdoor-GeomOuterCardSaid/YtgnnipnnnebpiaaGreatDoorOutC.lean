/-
  GeomOuter, walked: it answers true.
-/
import Derived.Test.YtgnnipnnnebpiaaGreatDoorOutB
import Derived.Deep.RegionHeld
import Derived.BigQuiet
namespace Go.Proofs.YtgnnipnnnebpiaaGreatDoor
open Go.RowKit Go.Shelf

set_option maxRecDepth 100000 in
set_option maxHeartbeats 2000000 in
theorem outer_long (a0 : Option Addr) (len cap : Nat) (w : World) (hE : Env w) (h : 220 < len) :
    Calls Tryz.prog 3 #[.slice a0 len cap] w fun e w' => e = .returned (.bool true) ∧ Below w.heap.size w w' := by
  have C1 := alive_yes w hE
  have i1 : (220 : Int) < len := by omega
  go_enter Tryz.func3, Tryz.ntmps3
  go_wp2_with (go_at_call 6; refine C1.mono ?_; clear C1; rintro e W1 ⟨rfl, hb1⟩)
  go_ret
  exact ⟨rfl, hb1⟩

theorem below_drewN {B : Nat} {A W : World} (n : Nat) (h : Below B A W) : Below B A (W.drewN n) := by
  induction n with
  | zero => exact h
  | succ n ih => exact ih.drew

/-- At the head of the loop that makes the registers: k of them are made. -/
def OutMade (W1 : World) (ws : List Int) (k : Nat) (v : Value) (wr : World) : Prop :=
  wr.ownsRow W1.heap.size 26 4 v k (oCells 0 (ws.take k)) ∧ Below W1.heap.size W1 wr

theorem append_local {W W6 : World} {base : Nat} {e : TypeId} {size k m : Nat} {v : Value} {xs : List Value} {tmp : Obj} {ys : List Value} {v' : Value}
    (hrow : W.ownsRow base e size v k xs) (hle : base ≤ W.heap.size) (hown : W6.ownsRow base e size v' m ys) (hgrow : (W.alloc tmp).drew.grownBy W6 v.ownBlock) : W6.ownsRow base e size v' m ys ∧ Below base W W6 := by
  have hg : W.grownBy W6 v.ownBlock := ⟨hgrow.os, hgrow.tape, hgrow.output, Nat.le_trans (by simp) hgrow.size, fun i hi hne => (hgrow.block i (by simp; omega) hne).trans (Below.heap_alloc W tmp i hi)⟩
  exact ⟨hown, (Below.refl base W).grown hg hle (fun i e1 => (ownsRow_block hrow e1).1)⟩

set_option maxRecDepth 100000 in
set_option maxHeartbeats 8000000 in
theorem outer_in (a0 : Option Addr) (cap : Nat) (ws : List Int) (w : World) (hE : Env w) (hA : EnvA w) (hl : ws.length ≤ 220) (hw : ∀ j x, ws[j]? = some x → ∃ b o, a0 = some ⟨b, o, none⟩ ∧ w.cell? ⟨b, o + j, none⟩ = some (.int .i64 x)) :
    Calls Tryz.prog 3 #[.slice a0 ws.length cap] w fun e w' => e = .returned (.bool true) ∧ Below w.heap.size w w' := by
  have C1 := alive_yes w hE
  have i1 : ¬ (220 : Int) < ws.length := by omega
  replace hw := Lib.hid hw
  go_enter Tryz.func3, Tryz.ntmps3
  go_wp2_with (go_at_call 6; refine C1.mono ?_; clear C1; rintro e W1 ⟨rfl, hb1⟩)
  go_loopw [4, 6] (fun v i wr => ∃ k : Nat, k ≤ ws.length ∧ i = .int .i64 k ∧ OutMade W1 ws k v wr) (fun _ i _ => ws.length - (intOf i).toNat)
  case atStart => exact ⟨0, Nat.zero_le _, rfl, World.ownsRow_nil _ _ _ _, Below.refl _ _⟩
  case round =>
    obtain ⟨k, hk, rfl, hrow, hB⟩ := hrel
    by_cases hlt : k < ws.length
    · obtain ⟨a, acap, rfl⟩ := ownsRow_form hrow
      obtain ⟨b, o, rfl, hc⟩ := hw.out k ws[k] (List.getElem?_eq_getElem hlt)
      have hsucc := oCells_succ (List.getElem?_eq_getElem hlt)
      generalize ws[k] = x at hc hsucc
      replace hc := cell_below hB (cell_below hb1 hc)
      have hca := fun ob => cell_alloc ob hc
      have k0 : (0 : Int) ≤ (k : Int) := Int.natCast_nonneg _
      have k3 : (k : Int) < ws.length := by omega
      obtain ⟨d1, hd1⟩ : ∃ d, d = k / 100 := ⟨_, rfl⟩
      obtain ⟨e2, he2⟩ : ∃ d, d = k / 10 := ⟨_, rfl⟩
      obtain ⟨d2, hd2⟩ : ∃ d, d = e2 % 10 := ⟨_, rfl⟩
      obtain ⟨d3, hd3⟩ : ∃ d, d = k % 10 := ⟨_, rfl⟩
      have q1 : IntKind.i64.wrap ((k : Int) / 100) = d1 := by rw [IntWalk.i64_in _ (by omega)]; omega
      have q2 : IntKind.i64.wrap ((k : Int) / 10) = e2 := by rw [IntWalk.i64_in _ (by omega)]; omega
      have m2 : (e2 : Int).tmod 10 = d2 := by rw [IntWalk.rem_in _ _ (by omega)]; omega
      have m3 : (k : Int).tmod 10 = d3 := by rw [IntWalk.rem_in _ _ (by omega)]; omega
      have s1 : IntKind.i64.wrap ((d1 : Int) + 1) = d1 + 1 := IntWalk.i64_in _ (by omega)
      have s2 : IntKind.i64.wrap ((d2 : Int) + 1) = d2 + 1 := IntWalk.i64_in _ (by omega)
      have s3 : IntKind.i64.wrap ((d3 : Int) + 1) = d3 + 1 := IntWalk.i64_in _ (by omega)
      have hname : oname k = ((⟨#[114]⟩ ++ digs3.extract d1 (d1 + 1)) ++ digs3.extract d2 (d2 + 1)) ++ digs3.extract d3 (d3 + 1) := by subst hd1 hd2 hd3 he2; rfl
      have n1 : (0 : Int) ≤ (d1 : Int) := Int.natCast_nonneg _
      have n2 : (0 : Int) ≤ (d2 : Int) := Int.natCast_nonneg _
      have n3 : (0 : Int) ≤ (d3 : Int) := Int.natCast_nonneg _
      have u1 : (d1 : Int) + 1 ≤ 10 := by omega
      have u2 : (d2 : Int) + 1 ≤ 10 := by omega
      have u3 : (d3 : Int) + 1 ≤ 10 := by omega
      have p1 : (d1 : Int) ≤ (d1 : Int) + 1 := by omega
      have p2 : (d2 : Int) ≤ (d2 : Int) + 1 := by omega
      have p3 : (d3 : Int) ≤ (d3 : Int) + 1 := by omega
      have z1 : (0 : Int) ≤ (d1 : Int) + 1 := by omega
      have z2 : (0 : Int) ≤ (d2 : Int) + 1 := by omega
      have z3 : (0 : Int) ≤ (d3 : Int) + 1 := by omega
      have t1 : ((d1 : Int) + 1).toNat = d1 + 1 := by omega
      have t2 : ((d2 : Int) + 1).toNat = d2 + 1 := by omega
      have t3 : ((d3 : Int) + 1).toNat = d3 + 1 := by omega
      have hcat1 : ¬ 9223372036854775807 < 1 + (min (d1 + 1) 10 - d1) := by omega
      have hcat2 : ¬ 9223372036854775807 < 1 + (min (d1 + 1) 10 - d1) + (min (d2 + 1) 10 - d2) := by omega
      have hcat3 : ¬ 9223372036854775807 < 1 + (min (d1 + 1) 10 - d1) + (min (d2 + 1) 10 - d2) + (min (d3 + 1) 10 - d3) := by omega
      replace hd1 := Lib.hid hd1
      replace hd2 := Lib.hid hd2
      replace hd3 := Lib.hid hd3
      replace he2 := Lib.hid he2
      replace hname := Lib.hid hname
      replace hsucc := Lib.hid hsucc
      obtain ⟨i0, hi, hz0, hz1, hz2⟩ := info_parts Tryz.infoReg
      have hBs := hB.size
      go_wp2
      go_region_law (first
        | (refine step_append_lies _ (by rfl) _ _ _ (by rfl) W1.heap.size 26 i0 _ 4 56 Tryz.underlying24 hi hz0 hz1 hz2 rfl (by omega) (.slice a k acap) k (oCells 0 (ws.take k)) (by rfl) ((hrow.alloc _).drew)
            ⟨wr.heap.size, 0, none⟩ 1 1 [.string (((⟨#[114]⟩ ++ digs3.extract d1 (d1 + 1)) ++ digs3.extract d2 (d2 + 1)) ++ digs3.extract d3 (d3 + 1)), .int .i64 x, .int .i64 0, .slice none 0 0] (by rfl) (by rfl) (World.news_of_block (cs := #[.string (((⟨#[114]⟩ ++ digs3.extract d1 (d1 + 1)) ++ digs3.extract d2 (d2 + 1)) ++ digs3.extract d3 (d3 + 1)), .int .i64 x, .int .i64 0, .slice none 0 0]) (t := 26) (fr := (0, 0)) (heap_alloc_new wr _)) (by simp [Value.oneCell'])
            (by omega) (by unfold maxLen; omega) (by omega) (by simp; omega) (wr.heap.size + 1) (by simp) ?_; intro gg gcap W6 hown1 hgrow hat hlt6))
      all_goals
        have hG := append_local hrow hBs hown1 hgrow
        rw [show ([.string (((⟨#[114]⟩ ++ digs3.extract d1 (d1 + 1)) ++ digs3.extract d2 (d2 + 1)) ++ digs3.extract d3 (d3 + 1)), .int .i64 x, .int .i64 0, .slice none 0 0] : List Value) = oCell k x by unfold oCell; rw [hname.out], ← hsucc.out] at hG
        clear hown1 hgrow hat hlt6 hrow hc hca hi hz0 hz1 hz2 hcat1 hcat2 hcat3 q1 q2 m2 m3 s1 s2 s3 n1 n2 n3 u1 u2 u3 p1 p2 p3 z1 z2 z3 t1 t2 t3 hd1 hd2 hd3 he2 hname hsucc hE hA hw
        have haddk : IntKind.i64.wrap ((k : Int) + 1) = k + 1 := IntWalk.i64_in _ (by omega)
        go_wp2
        exact ⟨⟨k + 1, by omega, by go_num, hG.1, hB.trans hG.2⟩, by simp [intOf]; omega⟩
    · obtain rfl : k = ws.length := by omega
      obtain ⟨a, acap, rfl⟩ := ownsRow_form hrow
      rw [List.take_length] at hrow
      have hBw : Below w.heap.size w wr := hb1.trans (hB.mono hb1.size)
      have C2 := out_places ws _ wr W1.heap.size (hE.below hBw) (hA.below hBw) hrow hl
      have hw2 : ∀ W, Below wr.heap.size wr W → ∀ j x, ws[j]? = some x → ∃ b o, a0 = some ⟨b, o, none⟩ ∧ W.cell? ⟨b, o + j, none⟩ = some (.int .i64 x) := fun W hb j x hj => by
        obtain ⟨b, o, h1, h2⟩ := hw.out j x hj
        exact ⟨b, o, h1, cell_below hb (cell_below hBw h2)⟩
      replace hw2 := Lib.hid hw2
      clear hrow hB hb1 hw hE hA
      go_wp2_with (go_at_call 7; refine C2.mono ?_; clear C2; rintro e W2 ⟨nV, pa, m, pc, rfl, hb2, hm, hm0, hpl⟩)
      have hw3 : ∀ W, Below W2.heap.size W2 W → ∀ j x, ws[j]? = some x → ∃ b o, a0 = some ⟨b, o, none⟩ ∧ W.cell? ⟨b, o + j, none⟩ = some (.int .i64 x) := fun W hb => hw2.out W (hb2.trans (hb.mono hb2.size))
      have hBw2 : Below w.heap.size w W2 := hBw.trans (hb2.mono hBw.size)
      replace hpl := Lib.hid hpl
      replace hw3 := Lib.hid hw3
      clear hw2 hb2 hBw
      obtain ⟨vd, hvd⟩ : ∃ vd, vd = verdict 0 ws := ⟨_, rfl⟩
      rw [← hvd] at hm0
      rw [← hvd]
      replace hvd := Lib.hid hvd
      replace hm0 := Lib.hid hm0
      go_loopw [10, 11] (fun s i W => ∃ (j : Nat) (z : Int), i = .int .i64 j ∧ s = .int .i64 z ∧ j ≤ ws.length ∧ ((z = 0 ∧ vd = verdict j (ws.drop j)) ∨ (z ≠ 0 ∧ z = vd)) ∧ Below W2.heap.size W2 W) (fun _ i _ => ws.length - (intOf i).toNat)
      case atStart => exact ⟨0, 0, rfl, rfl, Nat.zero_le _, .inl ⟨rfl, by rw [List.drop_zero]; exact hvd.out⟩, Below.refl _ _⟩
      case round =>
        obtain ⟨j, z, rfl, rfl, hj, hz, hB3⟩ := hrel
        have j0 : (0 : Int) ≤ (j : Int) := Int.natCast_nonneg _
        by_cases hgo : j < ws.length ∧ z = 0
        · obtain ⟨hjl, rfl⟩ := hgo
          have hv : vd = verdict j (ws.drop j) := by
            rcases hz with ⟨_, h⟩ | ⟨h, _⟩
            · exact h
            · exact absurd rfl h
          obtain ⟨b, o, rfl, hc⟩ := hw3.out _ hB3 j ws[j] (List.getElem?_eq_getElem hjl)
          rw [List.drop_eq_getElem_cons hjl] at hv
          generalize ws[j] = x at hc hv
          have j1 : (j : Int) < ws.length := by omega
          have haddj : IntKind.i64.wrap ((j : Int) + 1) = j + 1 := IntWalk.i64_in _ (by omega)
          clear hz
          by_cases h200 : 200 ≤ j
          · have hv2 : (2 : Int) = vd := by rw [hv]; simp [verdict, h200]
            have j2 : (200 : Int) ≤ j := by omega
            replace hv2 := Lib.hid hv2
            clear hv
            go_wp2
            exact ⟨⟨j + 1, 2, by go_num, rfl, by omega, .inr ⟨by decide, hv2.out⟩, hB3⟩, by simp [intOf]; omega⟩
          have j2 : ¬ (200 : Int) ≤ j := by omega
          by_cases hx1 : x < 1
          · have hv2 : (6 : Int) = vd := by rw [hv]; simp [verdict, h200, hx1]
            replace hv2 := Lib.hid hv2
            clear hv
            go_wp2
            exact ⟨⟨j + 1, 6, by go_num, rfl, by omega, .inr ⟨by decide, hv2.out⟩, hB3⟩, by simp [intOf]; omega⟩
          by_cases hx2 : 64 < x
          · have hv2 : (6 : Int) = vd := by rw [hv]; simp [verdict, h200, hx2]
            replace hv2 := Lib.hid hv2
            clear hv
            go_wp2
            exact ⟨⟨j + 1, 6, by go_num, rfl, by omega, .inr ⟨by decide, hv2.out⟩, hB3⟩, by simp [intOf]; omega⟩
          have hv2 : vd = verdict (j + 1) (ws.drop (j + 1)) := by rw [hv]; simp [verdict, h200, hx1, hx2]
          replace hv2 := Lib.hid hv2
          clear hv
          go_wp2
          exact ⟨⟨j + 1, 0, by go_num, rfl, by omega, .inl ⟨rfl, hv2.out⟩, hB3⟩, by simp [intOf]; omega⟩
        · obtain rfl : z = vd := by
            rcases hz with ⟨h1, h2⟩ | ⟨_, h⟩
            · have hjl : ¬ j < ws.length := fun h => hgo ⟨h, h1⟩
              rw [List.drop_eq_nil_of_le (by omega)] at h2
              rw [h1, h2]; rfl
            · exact h
          have hend : ¬ ((j : Int) < ws.length) ∨ ((j : Int) < ws.length ∧ z ≠ 0) := by
            by_cases h : j < ws.length
            · exact .inr ⟨by omega, fun h0 => hgo ⟨h, h0⟩⟩
            · exact .inl (by omega)
          clear hgo hz
          rcases hend with hend | ⟨hend, hend2⟩
          all_goals
            go_wp2_with (go_at_call 8; refine (num_any _ _).mono ?_; rintro e W3 ⟨rfl, rfl⟩)
            clear hend
            go_loopw [5, 12] (fun s i W => ∃ i' : Nat, i = .int .i64 i' ∧ s = .bool true ∧ i' ≤ m ∧ Below W2.heap.size W2 W) (fun _ i _ => m - (intOf i).toNat)
            case atStart => exact ⟨0, rfl, rfl, Nat.zero_le _, hB3⟩
            case round =>
              clear hB3
              obtain ⟨i, rfl, rfl, him, hB4⟩ := hrel
              have k0 : (0 : Int) ≤ (i : Int) := Int.natCast_nonneg _
              by_cases hlt : i < m
              · have hil : i < ws.length := by omega
                obtain ⟨b, o, rfl, hc⟩ := hw3.out _ hB4 i ws[i] (List.getElem?_eq_getElem hil)
                obtain ⟨q, rfl, p0, p1, p2⟩ := hpl.out i ws[i] hlt (List.getElem?_eq_getElem hil)
                replace p0 := cell_below hB4 p0
                replace p1 := cell_below hB4 p1
                replace p2 := cell_below hB4 p2
                generalize ws[i] = x at hc p0 p1 p2
                have k1 : (i : Int) < m := by omega
                have k2 : (i : Int) < ws.length := by omega
                have haddi : IntKind.i64.wrap ((i : Int) + 1) = i + 1 := IntWalk.i64_in _ (by omega)
                go_wp2
                go_quiet (fail)
                have hB5 := below_drewN nq hB4
                clear p0 p1 p2 hc
                go_wp2
                exact ⟨⟨i + 1, by go_num, rfl, by omega, hB5⟩, by simp [intOf]; omega⟩
              · obtain rfl : i = m := by omega
                by_cases hz0 : z = 0
                · have hmw := hm0.out hz0
                  subst hz0
                  go_wp2
                  go_ret
                  exact ⟨rfl, hBw2.trans (hB4.mono hBw2.size)⟩
                · go_wp2
                  go_ret
                  exact ⟨rfl, hBw2.trans (hB4.mono hBw2.size)⟩
end Go.Proofs.YtgnnipnnnebpiaaGreatDoor
