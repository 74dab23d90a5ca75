/-
  The law's bound on descriptions: what is not too much is bounded.
-/
import Derived.Test.YtfhllbnpkcgfdaaGreatDoorBiB
namespace Go.Proofs.YtfhllbnpkcgfdaaGreatDoor
open Go.RowKit
/-- What follows of registers, arguments and what is saved where a description is not too much. -/
def Nb0 (w : World) (a : Option Addr) (d : MachD) (L : RegL) : Prop := (∀ b o, a = some ⟨b, o, none⟩ → HoldsAt w.heap.size w b o L) ∧ d.args.length ≤ 5000 ∧ d.saved.length ≤ 5000
/-- .. and of classes. -/
def Nb1 (w : World) (a : Option Addr) (d : MachD) (L : RegL) : Prop := Nb0 w a d L ∧ d.classes.length ≤ 5000 ∧ ∀ x : ClassD, x ∈ d.classes → x.regs.length ≤ 5000
/-- .. and of operations. -/
def Nb2 (w : World) (a : Option Addr) (d : MachD) (L : RegL) : Prop := Nb1 w a d L ∧ d.ops.length ≤ 5000 ∧ ∀ x : OpD, x ∈ d.ops → x.clob.length ≤ 5000 ∧ x.uses.length ≤ 5000
/-- What Big answers. -/
def BigPost (w : World) (a : Option Addr) (d : MachD) (L : RegL) (e : Ending) (w' : World) : Prop := ∃ g : Bool, e = .returned (.bool g) ∧ (g = false → Nb2 w a d L) ∧ Below w.heap.size w w'
theorem w64 (n : Int) (h : 0 ≤ n ∧ n ≤ 4611686018427387904) : wrap64 n = n := by
  have h1 := IntWalk.i64_in n (by omega)
  rw [IntKind.wrap_i64] at h1
  unfold wrap64
  exact h1
theorem div8 (s : Nat) (h : s ≤ 281474976710656) : ∃ x : Nat, x ≤ 35184372088832 ∧ Hid ((s : Int) / 8 = x) ∧ IntKind.i64.wrap ((s : Int).tdiv 8) = x := by
  have h1 : (s : Int) / 8 = (s / 8 : Nat) := by omega
  exact ⟨s / 8, by omega, Lib.hid h1, by rw [Int.tdiv_eq_ediv_of_nonneg (by omega), h1]; exact IntWalk.i64_in _ (by omega)⟩
set_option maxRecDepth 100000 in
set_option maxHeartbeats 3200000 in
theorem lawBig {w : World} {m : MV} {d : MachD} {L : RegL} (h : MachW w m d L) :
    Calls Tryz.prog 6 #[m.val] w (BigPost w m.regs.a d L) := by
  obtain ⟨mn, ⟨ra, rn, rc⟩, ⟨ka, kn, kc⟩, ⟨oa, on, oc⟩, ar, rs, sv, sl⟩ := m
  obtain ⟨hL1, hL2, hL3, hL4, hL5⟩ := h.regs
  have hsame := h.same
  have hresult := h.result
  have hK := h.classes
  have hO := h.ops
  dsimp only at hL1 hL2 hL3 hL4 hL5 hsame hresult hK hO ⊢
  have hkn := hK.1
  have hkc := hK.2.1
  have hon := hO.1
  have hoc := hO.2.1
  dsimp only at hkn hkc hon hoc
  have hnz := h.nz
  have hrz := h.rz
  rw [← hsame] at hnz
  rw [← hresult] at hrz
  show Calls Tryz.prog 6 #[.agg #[.string mn, .slice ra rn rc, .slice ka kn kc, .slice oa on oc, .slice ar.a ar.n ar.c, .string rs, .slice sv.a sv.n sv.c, .int .i64 sl]] w _
  obtain ⟨W0, hW0⟩ : ∃ W0, W0 = w.alloc (.cells #[.string mn, .slice ra rn rc, .slice ka kn kc, .slice oa on oc, .slice ar.a ar.n ar.c, .string rs, .slice sv.a sv.n sv.c, .int .i64 sl] 27) := ⟨_, rfl⟩
  have hb0 : Below w.heap.size w W0 := by rw [hW0]; exact (Below.refl _ _).alloc (Nat.le_refl _) _
  have hbx : Cells W0 w.heap.size 27 #[.string mn, .slice ra rn rc, .slice ka kn kc, .slice oa on oc, .slice ar.a ar.n ar.c, .string rs, .slice sv.a sv.n sv.c, .int .i64 sl] := by rw [hW0]; exact Cells.new _ _ _
  have hold : L = .nil ∨ ∃ b o, ra = some ⟨b, o, none⟩ ∧ HoldsW w.heap.size w b o L := by
    rcases hL4 with ⟨h0, _⟩ | ⟨b, o, hb⟩
    · cases L with
      | nil => exact .inl rfl
      | cons => simp [RegL.length] at hL1; omega
    · exact .inr ⟨b, o, hb, hL5 b o hb⟩
  obtain ⟨S, hS⟩ : ∃ S, S = sizeFrom L 30 L.length := ⟨_, rfl⟩
  obtain ⟨A, hA⟩ : ∃ A, A = longFrom d.args d.args.length := ⟨_, rfl⟩
  obtain ⟨V, hV⟩ : ∃ V, V = longFrom d.saved d.saved.length := ⟨_, rfl⟩
  have hSb : S ≤ 31 * 281474976710656 := by
    rw [hS]
    rcases hold with rfl | ⟨b, o, _, hh⟩
    · simp [sizeFrom, RegL.length]
    · exact sizeFrom_le hh (by omega)
  have hAb : A ≤ 281474976710656 := by rw [hA]; exact longFrom_le h.fa.2 (by have := h.fa.1; omega)
  have hVb : V ≤ 281474976710656 := by rw [hV]; exact longFrom_le h.fs.2 (by have := h.fs.1; omega)
  have KS : ∀ n, Calls Tryz.prog 16 #[.slice ra rn rc, .int .i64 30] (W0.drewN n) fun e w' => e = .returned (.int .i64 S) ∧ ∃ m, w' = (W0.drewN n).drewN m := fun n => by
    have hb := below_drewN hb0 n
    have := lawSize w.heap.size 30 (Nat.le_refl _) ra rc L (W0.drewN n) hb.size (by omega) (by omega) (hold.imp id fun ⟨b, o, g1, g2⟩ => ⟨b, o, g1, HoldsW.of (fun b j v hbb hv => cell_below hb hv) g2⟩)
    rw [← hS, hL1] at this
    exact this
  have KA : ∀ n, Calls Tryz.prog 17 #[.slice ar.a ar.n ar.c] (W0.drewN n) fun e w' => e = .returned (.int .i64 A) ∧ w' = W0.drewN n := fun n => by
    have := lawLong ar d.args (W0.drewN n) (h.args.below (below_drewN hb0 n)) h.fa
    rwa [← hA] at this
  have KV : ∀ n, Calls Tryz.prog 17 #[.slice sv.a sv.n sv.c] (W0.drewN n) fun e w' => e = .returned (.int .i64 V) ∧ w' = W0.drewN n := fun n => by
    have := lawLong sv d.saved (W0.drewN n) (h.saved.below (below_drewN hb0 n)) h.fs
    rwa [← hV] at this
  obtain ⟨x, hxb, hx1, hx2⟩ := div8 mn.size (by omega)
  obtain ⟨y, hyb, hy1, hy2⟩ := div8 rs.size (by omega)
  have s1 : IntKind.i64.wrap ((S : Int) + A) = (S : Int) + A := IntWalk.i64_in _ (by omega)
  have s2 : IntKind.i64.wrap ((S : Int) + A + V) = (S : Int) + A + V := IntWalk.i64_in _ (by omega)
  have s3 : IntKind.i64.wrap ((S : Int) + A + V + x) = (S : Int) + A + V + x := IntWalk.i64_in _ (by omega)
  have s4 : IntKind.i64.wrap ((S : Int) + A + V + x + y) = (S : Int) + A + V + x + y := IntWalk.i64_in _ (by omega)
  have hG0 : S + A + V + x + y ≤ 5000 → Nb0 w ra d L := fun hle => by
    have h1 := longFrom_ge d.args d.args.length
    have h2 := longFrom_ge d.saved d.saved.length
    refine ⟨fun b o hb => ?_, by omega, by omega⟩
    exact sizeFrom_holds (hL5 b o hb) (dp := 30) (n := L.length) (by omega)
  have x0 := hbx.cell (j := 0) (v := .string mn) rfl
  have x1 := hbx.cell (j := 1) (v := .slice ra rn rc) rfl
  have x2 := hbx.cell (j := 2) (v := .slice ka kn kc) rfl
  have x3 := hbx.cell (j := 3) (v := .slice oa on oc) rfl
  have x4 := hbx.cell (j := 4) (v := .slice ar.a ar.n ar.c) rfl
  have x5 := hbx.cell (j := 5) (v := .string rs) rfl
  have x6 := hbx.cell (j := 6) (v := .slice sv.a sv.n sv.c) rfl
  have hkl : kn ≤ 140737488355328 := by have := h.fk.1; omega
  have hol : on ≤ 140737488355328 := by have := h.fp.1; omega
  have hfk := h.fk.2
  have hfp := h.fp.2
  have hK0 := hK.below hb0
  have hO0 := hO.below hb0
  replace hG0 := Lib.hid hG0
  replace hK0 := Lib.hid hK0
  replace hO0 := Lib.hid hO0
  replace hfk := Lib.hid hfk
  replace hfp := Lib.hid hfp
  replace hkn := Lib.hid hkn
  replace hon := Lib.hid hon
  replace hb0 := Lib.hid hb0
  replace hW0 := Lib.hid hW0
  clear hL1 hL2 hL3 hL4 hL5 hold hS hA hV hsame hresult hK hO h hnz hrz
  go_enter Tryz.func6, Tryz.ntmps6
  go_upto_region 1 with fail
  rw [← hW0.out]
  go_quiet ((first
    | (go_at_call 16; exact Calls.quiet_of (KS _))
    | (go_at_call 17; first | with_reducible exact Calls.quiet_of_same (KA _) | with_reducible exact Calls.quiet_of_same (KV _))))
  go_wp2_with fail
  go_loopw [3, 4] (fun v i W => ∃ (k n : Nat), k ≤ kn ∧ i = .int .i64 k ∧ v = .int .i64 n ∧ n ≤ 36028797018963968 ∧ Hid (n ≤ 5000 → Nb0 w ra d L ∧ k ≤ n ∧ ∀ (j : Nat) (x : ClassD), j < k → d.classes[j]? = some x → x.regs.length ≤ 5000) ∧ Below W0.heap.size W0 W) (fun _ i _ => kn - (intOf i).toNat)
  case atStart =>
    have hx1 := hx1.out
    have hy1 := hy1.out
    exact ⟨0, S + A + V + x + y, Nat.zero_le _, rfl, by refine congrArg (Value.int .i64) ?_; rw [hx1, hy1, w64 (x : Int) (by omega), w64 (y : Int) (by omega), w64 ((S : Int) + A + V + x) (by omega), w64 ((S : Int) + A + V + x + y) (by omega)]; omega, by omega, Lib.hid fun hle => ⟨hG0.out hle, Nat.zero_le _, fun j x hj => absurd hj (Nat.not_lt_zero _)⟩, below_drewN (Below.refl _ _) _⟩
  case round =>
    obtain ⟨k, n, hk, rfl, rfl, hn, hG, hB⟩ := hrel
    have k0 : (0 : Int) ≤ k := Int.natCast_nonneg _
    have y2 := cell_below hB x2
    clear KS KA KV s1 s2 s3 s4 hx1 hx2 hy1 hy2 hG0 x0 x1 x4 x5 x6
    rcases (show (k < kn ∧ (n : Int) ≤ 5000) ∨ (k < kn ∧ ¬ (n : Int) ≤ 5000 ∧ Hid (n ≤ 5000 → Nb1 w ra d L)) ∨ (¬ k < kn ∧ Hid (n ≤ 5000 → Nb1 w ra d L)) by
      by_cases h1 : k < kn
      · by_cases h2 : (n : Int) ≤ 5000
        · exact .inl ⟨h1, h2⟩
        · exact .inr (.inl ⟨h1, h2, Lib.hid fun h3 => absurd h3 (by omega)⟩)
      · refine .inr (.inr ⟨h1, Lib.hid fun h3 => ?_⟩)
        obtain ⟨g1, g2, g3⟩ := hG.out h3
        have := hkn.out
        refine ⟨g1, by omega, fun x hx => ?_⟩
        obtain ⟨j, hj⟩ := List.getElem?_of_mem hx
        exact g3 j x (by have := (List.getElem?_eq_some_iff.1 hj).1; omega) hj) with ⟨hlt, h5⟩ | ⟨hlt, h5, hG1⟩ | ⟨hlt, hG1⟩
    · obtain ⟨x, hx⟩ : ∃ x, d.classes[k]? = some x := ⟨d.classes[k]'(by have := hkn.out; omega), List.getElem?_eq_getElem _⟩
      obtain ⟨b, o, hka, r, hc0, hc1, hcr⟩ := hK0.out.2.2 k x hx
      dsimp only at hka
      obtain ⟨hxz, hxf⟩ := hfk.out x (List.mem_of_getElem? hx)
      have e0 := cell_below hB hc0
      have e1 := cell_below hB hc1
      obtain ⟨z, hz⟩ : ∃ z, z = longFrom x.regs x.regs.length := ⟨_, rfl⟩
      have hzb : z ≤ 281474976710656 := by rw [hz]; exact longFrom_le hxf.2 (by have := hxf.1; omega)
      have hzg : x.regs.length ≤ z := by rw [hz]; exact longFrom_ge _ _
      have KL : ∀ q, Calls Tryz.prog 17 #[.slice r.a r.n r.c] (wr.drewN q) fun e w' => e = .returned (.int .i64 z) ∧ w' = wr.drewN q := fun q => by
        have := lawLong r x.regs (wr.drewN q) (hcr.below (below_drewN hB q)) hxf
        rwa [← hz] at this
      obtain ⟨q, hqb, hq1, hq2⟩ := div8 x.name.size (by omega)
      have s1 : IntKind.i64.wrap ((n : Int) + 1) = (n : Int) + 1 := IntWalk.i64_in _ (by omega)
      have s2 : IntKind.i64.wrap ((n : Int) + 1 + z) = (n : Int) + 1 + z := IntWalk.i64_in _ (by omega)
      have s3 : IntKind.i64.wrap ((n : Int) + 1 + z + q) = (n : Int) + 1 + z + q := IntWalk.i64_in _ (by omega)
      have hG2 : Hid (n + 1 + z + q ≤ 5000 → Nb0 w ra d L ∧ k + 1 ≤ n + 1 + z + q ∧ ∀ (j : Nat) (x : ClassD), j < k + 1 → d.classes[j]? = some x → x.regs.length ≤ 5000) := Lib.hid fun hle => by
        obtain ⟨g1, g2, g3⟩ := hG.out (by omega)
        refine ⟨g1, by omega, fun j y hj hy => ?_⟩
        by_cases hjk : j < k
        · exact g3 j y hjk hy
        · obtain rfl : j = k := by omega
          rw [hx] at hy; cases hy
          omega
      have hlt2 : (k : Int) < kn := by omega
      subst hka
      replace hx := Lib.hid hx
      replace hz := Lib.hid hz
      clear hG hc0 hc1 hcr hzg
      go_upto_region 5 with fail
      go_quiet ((go_at_call 17; exact Calls.quiet_of_same (KL _)))
      go_wp2_with fail
      have hq1 := hq1.out
      exact ⟨⟨k + 1, n + 1 + z + q, by omega, by go_num, by go_num, by omega, hG2, below_drewN hB _⟩, by simp [intOf]; omega⟩
    all_goals
      obtain ⟨w1, rfl⟩ : ∃ w1 : World, w1 = wr := ⟨_, rfl⟩
      clear hG
      go_wp2_with fail
      go_loopw [3, 5] (fun v i W => ∃ (k n : Nat), k ≤ on ∧ i = .int .i64 k ∧ v = .int .i64 n ∧ n ≤ 36028797018963968 ∧ Hid (n ≤ 5000 → Nb1 w ra d L ∧ k ≤ n ∧ ∀ (j : Nat) (x : OpD), j < k → d.ops[j]? = some x → x.clob.length ≤ 5000 ∧ x.uses.length ≤ 5000) ∧ Below W0.heap.size W0 W) (fun _ i _ => on - (intOf i).toNat)
      case atStart => exact ⟨0, n, Nat.zero_le _, rfl, rfl, hn, Lib.hid fun hle => ⟨hG1.out hle, Nat.zero_le _, fun j x hj => absurd hj (Nat.not_lt_zero _)⟩, hB⟩
      case round =>
        obtain ⟨k, n, hk, rfl, rfl, hn, hG, hB⟩ := hrel
        have k0 : (0 : Int) ≤ k := Int.natCast_nonneg _
        have y3 := cell_below hB x3
        clear hG1
        rcases (show (k < on ∧ (n : Int) ≤ 5000) ∨ (k < on ∧ ¬ (n : Int) ≤ 5000 ∧ Hid (n ≤ 5000 → Nb2 w ra d L)) ∨ (¬ k < on ∧ Hid (n ≤ 5000 → Nb2 w ra d L)) by
          by_cases h1 : k < on
          · by_cases h2 : (n : Int) ≤ 5000
            · exact .inl ⟨h1, h2⟩
            · exact .inr (.inl ⟨h1, h2, Lib.hid fun h3 => absurd h3 (by omega)⟩)
          · refine .inr (.inr ⟨h1, Lib.hid fun h3 => ?_⟩)
            obtain ⟨g1, g2, g3⟩ := hG.out h3
            have := hon.out
            refine ⟨g1, by omega, fun x hx => ?_⟩
            obtain ⟨j, hj⟩ := List.getElem?_of_mem hx
            exact g3 j x (by have := (List.getElem?_eq_some_iff.1 hj).1; omega) hj) with ⟨hlt, h5⟩ | ⟨hlt, h5, hG2⟩ | ⟨hlt, hG2⟩
        · obtain ⟨x, hx⟩ : ∃ x, d.ops[k]? = some x := ⟨d.ops[k]'(by have := hon.out; omega), List.getElem?_eq_getElem _⟩
          obtain ⟨b, o, hoa, u, kk, hc0, hc1, hc2, hc3, hc4, hc5, hcu, hck⟩ := hO0.out.2.2 k x hx
          dsimp only at hoa
          obtain ⟨hxz, hxd, hxf, hxu, hxc⟩ := hfp.out x (List.mem_of_getElem? hx)
          obtain ⟨ua, un, uc⟩ := u
          have hun := hcu.1
          have huc := hcu.2.1
          dsimp only at hun huc hc3
          subst hun
          have e0 := cell_below hB hc0
          have e1 := cell_below hB hc1
          have e2 := cell_below hB hc2
          have e3 := cell_below hB hc3
          have e4 := cell_below hB hc4
          have e5 := cell_below hB hc5
          obtain ⟨W2, hW2⟩ : ∃ W2, W2 = wr.alloc (.cells #[.string x.name, .string x.d.cls, .string x.d.fix, .slice ua x.uses.length uc, .int .i64 x.tie, .slice kk.a kk.n kk.c] 51) := ⟨_, rfl⟩
          have hb2 : Below wr.heap.size wr W2 := by rw [hW2]; exact (Below.refl _ _).alloc (Nat.le_refl _) _
          have hbx2 : Cells W2 wr.heap.size 51 #[.string x.name, .string x.d.cls, .string x.d.fix, .slice ua x.uses.length uc, .int .i64 x.tie, .slice kk.a kk.n kk.c] := by rw [hW2]; exact Cells.new _ _ _
          have hB2 : Below W0.heap.size W0 W2 := hB.trans (hb2.mono hB.size)
          obtain ⟨z, hz⟩ : ∃ z, z = longFrom x.clob x.clob.length := ⟨_, rfl⟩
          have hzb : z ≤ 281474976710656 := by rw [hz]; exact longFrom_le hxc.2 (by have := hxc.1; omega)
          have hzg : x.clob.length ≤ z := by rw [hz]; exact longFrom_ge _ _
          have KL : ∀ q, Calls Tryz.prog 17 #[.slice kk.a kk.n kk.c] (W2.drewN q) fun e w' => e = .returned (.int .i64 z) ∧ w' = W2.drewN q := fun q => by
            have := lawLong kk x.clob (W2.drewN q) (hck.below (below_drewN hB2 q)) hxc
            rwa [← hz] at this
          have hcu2 := hcu.below hB2
          have hul := hxu.1
          obtain ⟨q, hqb, hq1, hq2⟩ := div8 x.name.size (by omega)
          obtain ⟨r, hrb, hr1, hr2⟩ := div8 (x.d.cls.size + x.d.fix.size) (by omega)
          rw [Int.natCast_add] at hr1 hr2
          have s0 : IntKind.i64.wrap ((x.d.cls.size : Int) + x.d.fix.size) = (x.d.cls.size : Int) + x.d.fix.size := IntWalk.i64_in _ (by omega)
          have s1 : IntKind.i64.wrap ((n : Int) + 2) = (n : Int) + 2 := IntWalk.i64_in _ (by omega)
          have s2 : IntKind.i64.wrap ((n : Int) + 2 + z) = (n : Int) + 2 + z := IntWalk.i64_in _ (by omega)
          have s3 : IntKind.i64.wrap ((n : Int) + 2 + z + q) = (n : Int) + 2 + z + q := IntWalk.i64_in _ (by omega)
          have s4 : IntKind.i64.wrap ((n : Int) + 2 + z + q + r) = (n : Int) + 2 + z + q + r := IntWalk.i64_in _ (by omega)
          have s5 : IntKind.i64.wrap ((n : Int) + 2 + z + q + r + x.uses.length) = (n : Int) + 2 + z + q + r + x.uses.length := IntWalk.i64_in _ (by omega)
          have hG3 : Hid (∀ n' : Nat, n + 2 + z + q + r + x.uses.length ≤ n' → n' ≤ 5000 → Nb1 w ra d L ∧ k + 1 ≤ n' ∧ ∀ (j : Nat) (x : OpD), j < k + 1 → d.ops[j]? = some x → x.clob.length ≤ 5000 ∧ x.uses.length ≤ 5000) := Lib.hid fun n' hle hle2 => by
            obtain ⟨g1, g2, g3⟩ := hG.out (by omega)
            refine ⟨g1, by omega, fun j y hj hy => ?_⟩
            by_cases hjk : j < k
            · exact g3 j y hjk hy
            · obtain rfl : j = k := by omega
              rw [hx] at hy; cases hy
              exact ⟨by omega, by omega⟩
          have x0 := hbx2.cell (j := 0) (v := .string x.name) rfl
          have x1 := hbx2.cell (j := 1) (v := .string x.d.cls) rfl
          have x2' := hbx2.cell (j := 2) (v := .string x.d.fix) rfl
          have x3' := hbx2.cell (j := 3) (v := .slice ua x.uses.length uc) rfl
          have x5 := hbx2.cell (j := 5) (v := .slice kk.a kk.n kk.c) rfl
          have hlt2 : (k : Int) < on := by omega
          subst hoa
          replace hx := Lib.hid hx
          replace hz := Lib.hid hz
          replace hcu2 := Lib.hid hcu2
          replace hxu := Lib.hid hxu
          replace hW2 := Lib.hid hW2
          clear hG hc0 hc1 hc2 hc3 hc4 hc5 hcu hck hzg
          obtain ⟨w4, rfl⟩ : ∃ w4 : World, w4 = wr := ⟨_, rfl⟩
          go_upto_region 10 with fail
          rw [← hW2.out]
          go_quiet ((go_at_call 17; exact Calls.quiet_of_same (KL _)))
          go_wp2_with fail
          go_loopw [3, 7] (fun v i W => ∃ (j n' : Nat), j ≤ x.uses.length ∧ i = .int .i64 j ∧ v = .int .i64 n' ∧ n' ≤ 36028797018963968 ∧ n + 2 + z + q + r + x.uses.length ≤ n' ∧ Below W2.heap.size W2 W) (fun _ i _ => x.uses.length - (intOf i).toNat)
          case atStart =>
            have hq1 := hq1.out
            have hr1 := hr1.out
            exact ⟨0, n + 2 + z + q + r + x.uses.length, Nat.zero_le _, rfl, by go_num, by omega, Nat.le_refl _, below_drewN (Below.refl _ _) _⟩
          case round =>
            obtain ⟨j, n', hj, rfl, rfl, hn', hle, hB4⟩ := hrel
            have j0 : (0 : Int) ≤ j := Int.natCast_nonneg _
            have z3 := cell_below hB4 x3'
            have hB5 : Below W0.heap.size W0 wr := hB2.trans (hB4.mono hB2.size)
            by_cases hjl : j < x.uses.length
            · by_cases h6 : (n' : Int) ≤ 5000
              · obtain ⟨v, hv⟩ : ∃ v, x.uses[j]? = some v := ⟨x.uses[j], List.getElem?_eq_getElem hjl⟩
                obtain ⟨bu, ou, hua, v0, v1⟩ := hcu2.out.2.2 j v hv
                dsimp only at hua
                obtain ⟨hv1, hv2⟩ := hxu.out.2 v (List.mem_of_getElem? hv)
                have f0 := cell_below hB4 v0
                have f1 := cell_below hB4 v1
                obtain ⟨t, htb, ht1, ht2⟩ := div8 (v.cls.size + v.fix.size) (by omega)
                rw [Int.natCast_add] at ht1 ht2
                have s6 : IntKind.i64.wrap ((v.cls.size : Int) + v.fix.size) = (v.cls.size : Int) + v.fix.size := IntWalk.i64_in _ (by omega)
                have s7 : IntKind.i64.wrap ((n' : Int) + t) = (n' : Int) + t := IntWalk.i64_in _ (by omega)
                have hjl2 : (j : Int) < x.uses.length := by omega
                subst hua
                replace hv := Lib.hid hv
                clear v0 v1 s0 s1 s2 s3 s4 s5 hq2 hr2 KL
                go_upto_region 14 with fail
                go_quiet (fail)
                go_wp2_with fail
                have ht1 := ht1.out
                exact ⟨⟨j + 1, n' + t, by omega, by go_num, by go_num, by omega, by omega, below_drewN hB4 _⟩, by simp [intOf]; omega⟩
              · have hG4 := Lib.hid (hG3.out n' hle)
                clear s0 s1 s2 s3 s4 s5 hq2 hr2 KL hG3
                go_wp2_with fail
                exact ⟨⟨k + 1, n', by omega, by go_num, rfl, hn', hG4, hB5⟩, by simp [intOf]; omega⟩
            · have hG4 := Lib.hid (hG3.out n' hle)
              clear s0 s1 s2 s3 s4 s5 hq2 hr2 KL hG3
              go_wp2_with fail
              exact ⟨⟨k + 1, n', by omega, by go_num, rfl, hn', hG4, hB5⟩, by simp [intOf]; omega⟩
        all_goals
          have hend := Lib.hid (hb0.out.trans (hB.mono hb0.out.size))
          clear hG
          by_cases h25 : (2500 : Int) < n
          · go_wp2_with fail
            go_ret
            exact ⟨true, rfl, fun h => (by cases h), hend.out⟩
          · first
              | (exfalso; omega)
              | (go_wp2_with fail
                 go_ret
                 exact ⟨_, rfl, fun _ => hG2.out (by omega), hend.out⟩)
end Go.Proofs.YtfhllbnpkcgfdaaGreatDoor
