/-
  The reference's SameInts, SameIns, SameBlocks, SameFunc, of what is the same.
-/
import Derived.Test.YtfnfijgknjnccaaGreatDoorVxG
import Derived.Test.YtfnfijgknjnccaaGreatDoorVwV
import Derived.Deep.RegionWith
import Derived.StillTailTactics
namespace Go.Proofs.YtfnfijgknjnccaaGreatDoor
open Go.RowKit Go.Sort
set_option maxHeartbeats 4000000
set_option maxRecDepth 100000
theorem sameIntsL {a1 a2 : Option Addr} {c1 c2 : Nat} (l : List Int) {w : World} (hs : IntsL w a1 l) (ht : IntsL w a2 l) (hl : l.length ≤ 100000) :
    Calls Tryz.prog 19 #[.slice a1 l.length c1, .slice a2 l.length c2] w fun e w' => e = .returned (.bool true) ∧ Below w.heap.size w w' := by
  replace hs := Lib.hid hs
  replace ht := Lib.hid ht
  go_enter Tryz.func19, Tryz.ntmps19
  go_wp2_with fail
  go_loopw [5] (fun i wr => ∃ k : Nat, k ≤ l.length ∧ i = .int .i64 k ∧ Below w.heap.size w wr) (fun i _ => l.length - (intOf i).toNat)
  case atStart => exact ⟨0, Nat.zero_le _, rfl, Below.refl _ _⟩
  case round =>
    obtain ⟨k, hk, rfl, hb⟩ := hrel
    by_cases hlt : k < l.length
    · obtain ⟨x, hxk⟩ : ∃ x, l[k]? = some x := ⟨l[k], List.getElem?_eq_getElem hlt⟩
      obtain ⟨b1, o1, h1, c1⟩ := (hs.out.below hb) k x hxk
      obtain ⟨b2, o2, h2, c2⟩ := (ht.out.below hb) k x hxk
      subst h1
      subst h2
      have k1 : (k : Int) < l.length := by omega
      have hi : IntKind.i64.wrap ((k : Int) + 1) = k + 1 := IntWalk.i64_in _ (by omega)
      clear hxk
      go_wp2_with fail
      go_region
      all_goals go_wp2_with fail
      all_goals exact ⟨⟨k + 1, by omega, by go_num, hb.drew⟩, by simp [intOf]; omega⟩
    · obtain rfl : k = l.length := by omega
      go_wp2_with fail
      go_ret
      exact ⟨rfl, hb⟩
theorem sameIns (y z : InsX) (h : strip y = strip z) {w : World} (hy : IntsL w y.1.sa y.2 ∧ y.1.sn = y.2.length) (hz : IntsL w z.1.sa z.2 ∧ z.1.sn = z.2.length) (hl : y.2.length ≤ 100000) :
    Calls Tryz.prog 43 #[.agg y.1.cells, .agg z.1.cells] w fun e w' => e = .returned (.bool true) ∧ Below w.heap.size w w' := by
  obtain ⟨⟨k, d, a, b, n, nm, sa, sn, sc, t, f⟩, l⟩ := y
  obtain ⟨⟨k2, d2, a2, b2, n2, nm2, sa2, sn2, sc2, t2, f2⟩, l2⟩ := z
  simp only [strip, Prod.mk.injEq, InsV.mk.injEq, true_and] at h
  obtain ⟨⟨rfl, rfl, rfl, rfl, rfl, rfl, rfl, rfl⟩, rfl⟩ := h
  obtain ⟨hy, e1⟩ := hy
  obtain ⟨hz, e2⟩ := hz
  dsimp only at e1 e2 hy hz hl ⊢
  subst e1
  subst e2
  unfold InsV.cells
  dsimp only
  have hB : Below w.heap.size w ((w.alloc (.cells #[.int .i64 k, .int .i64 d, .int .i64 a, .int .i64 b, .int .i64 n, .string nm, .slice sa l.length sc, .int .i64 t, .int .i64 f] 25)).alloc (.cells #[.int .i64 k, .int .i64 d, .int .i64 a, .int .i64 b, .int .i64 n, .string nm, .slice sa2 l.length sc2, .int .i64 t, .int .i64 f] 25)) := belowN.alloc (by simp) _
  have K := sameIntsL (c1 := sc) (c2 := sc2) l (hy.below hB) (hz.below hB) hl
  clear hy hz
  go_enter Tryz.func43, Tryz.ntmps43
  go_wp2_with (go_at_call 19; refine K.mono ?_; clear K; rintro e W1 ⟨rfl, hb1⟩)
  go_ret
  exact ⟨rfl, hB.trans (hb1.mono hB.size)⟩
/-- Two lists of instructions, of blocks, are the same. -/
def SameL (l m : List InsX) : Prop := l.length = m.length ∧ ∀ (j : Nat) (y z : InsX), l[j]? = some y → m[j]? = some z → strip y = strip z
theorem sameBlocks {a1 a2 : Option Addr} {c1 c2 : Nat} (l m : List BlkV) {w : World} (hlm : l.length = m.length) (hsame : ∀ (j : Nat) (x y : BlkV), l[j]? = some x → m[j]? = some y → SameL x.l y.l)
    (hs : BlksL w a1 l) (ht : BlksL w a2 m) (hsi : ∀ b, b ∈ l → InsL w b.a b.l) (hti : ∀ b, b ∈ m → InsL w b.a b.l)
    (hsa : ∀ b, b ∈ l → ∀ y, y ∈ b.l → IntsL w y.1.sa y.2 ∧ y.1.sn = y.2.length) (hta : ∀ b, b ∈ m → ∀ y, y ∈ b.l → IntsL w y.1.sa y.2 ∧ y.1.sn = y.2.length)
    (hl : l.length ≤ 100000) (hll : ∀ b, b ∈ l → b.l.length ≤ 100000 ∧ ∀ y, y ∈ b.l → y.2.length ≤ 100000) :
    Calls Tryz.prog 20 #[.slice a1 l.length c1, .slice a2 m.length c2] w fun e w' => e = .returned (.bool true) ∧ Below w.heap.size w w' := by
  replace hs := Lib.hid hs
  replace ht := Lib.hid ht
  replace hsi := Lib.hid hsi
  replace hti := Lib.hid hti
  replace hsa := Lib.hid hsa
  replace hta := Lib.hid hta
  replace hsame := Lib.hid hsame
  replace hll := Lib.hid hll
  rw [← hlm]
  replace hlm := Lib.hid hlm
  go_enter Tryz.func20, Tryz.ntmps20
  go_wp2_with fail
  go_loopw [5, 6, 7] (fun i _ _ wr => ∃ k : Nat, k ≤ l.length ∧ i = .int .i64 k ∧ Below w.heap.size w wr) (fun i _ _ _ => l.length - (intOf i).toNat)
  case atStart => exact ⟨0, Nat.zero_le _, rfl, Below.refl _ _⟩
  case round =>
    obtain ⟨k, hk, rfl, hb⟩ := hrel
    by_cases hlt : k < l.length
    · obtain ⟨x, hx⟩ : ∃ x, l[k]? = some x := ⟨l[k], List.getElem?_eq_getElem hlt⟩
      obtain ⟨y, hy⟩ : ∃ y, m[k]? = some y := ⟨m[k]'(by have := hlm.out; omega), List.getElem?_eq_getElem (by have := hlm.out; omega)⟩
      obtain ⟨b1, o1, h1, d1⟩ := hs.out k x hx
      obtain ⟨b2, o2, h2, d2⟩ := ht.out k y hy
      subst h1
      subst h2
      obtain ⟨hxl, hxy⟩ := hsame.out k x y hx hy
      have hxi := hsi.out x (List.mem_of_getElem? hx)
      have hyi := hti.out y (List.mem_of_getElem? hy)
      have hxa := hsa.out x (List.mem_of_getElem? hx)
      have hya := hta.out y (List.mem_of_getElem? hy)
      obtain ⟨hxm, hxm2⟩ := hll.out x (List.mem_of_getElem? hx)
      obtain ⟨xa, xc, xl⟩ := x
      obtain ⟨ya, yc, yl⟩ := y
      dsimp only at d1 d2 hxl hxy hxi hyi hxa hya hxm hxm2
      rw [← hxl] at d2
      replace hxi := Lib.hid hxi
      replace hyi := Lib.hid hyi
      replace hxa := Lib.hid hxa
      replace hya := Lib.hid hya
      replace hxy := Lib.hid hxy
      replace hxl := Lib.hid hxl
      replace hxm2 := Lib.hid hxm2
      have c1' := cell_below hb d1
      have c2' := cell_below hb d2
      have k1 : (k : Int) < l.length := by omega
      have hi : IntKind.i64.wrap ((k : Int) + 1) = k + 1 := IntWalk.i64_in _ (by omega)
      clear hx hy
      go_wp2_with fail
      go_quiet (fail)
      go_wp2_with fail
      clear c1' c2'
      go_loopw [6, 7] (fun i _ wr => ∃ j : Nat, j ≤ xl.length ∧ i = .int .i64 j ∧ Below w.heap.size w wr) (fun i _ _ => xl.length - (intOf i).toNat)
      case atStart => exact ⟨0, Nat.zero_le _, rfl, below_drewN hb _⟩
      case round =>
        obtain ⟨j, hj, rfl, hB⟩ := hrel
        have c1' := cell_below hB d1
        have c2' := cell_below hB d2
        by_cases hjl : j < xl.length
        · obtain ⟨u, hu⟩ : ∃ u, xl[j]? = some u := ⟨xl[j], List.getElem?_eq_getElem hjl⟩
          obtain ⟨v, hv⟩ : ∃ v, yl[j]? = some v := ⟨yl[j]'(by have := hxl.out; omega), List.getElem?_eq_getElem (by have := hxl.out; omega)⟩
          obtain ⟨b3, o3, h3, e3⟩ := (hxi.out.below hB) j u hu
          obtain ⟨b4, o4, h4, e4⟩ := (hyi.out.below hB) j v hv
          subst h3
          subst h4
          obtain ⟨u0, u1, u2, u3, u4, u5, u6, u7, u8⟩ := insl_cells e3
          obtain ⟨v0, v1, v2, v3, v4, v5, v6, v7, v8⟩ := insl_cells e4
          have hua := hxa.out u (List.mem_of_getElem? hu)
          have hva := hya.out v (List.mem_of_getElem? hv)
          have K := sameIns u v (hxy.out j u v hu hv) (w := wr.drew) ⟨hua.1.below hB.drew, hua.2⟩ ⟨hva.1.below hB.drew, hva.2⟩ (hxm2.out u (List.mem_of_getElem? hu))
          unfold InsV.cells at K
          have j1 : (j : Int) < xl.length := by omega
          have hij : IntKind.i64.wrap ((j : Int) + 1) = j + 1 := IntWalk.i64_in _ (by omega)
          clear hu hv e3 e4 hua hva
          go_wp2_with fail
          go_still_tail 14, (by kernel_rfl)
          change wpList _ _ _ _ _ wr.drew
          go_wp2_with (go_at_call 43; refine K.mono ?_; clear K; rintro e W1 ⟨rfl, hb1⟩)
          exact ⟨⟨j + 1, by omega, by go_num, hB.drew.trans (hb1.mono hB.drew.size)⟩, by simp [intOf]; omega⟩
        · obtain rfl : j = xl.length := by omega
          go_wp2_with fail
          exact ⟨⟨k + 1, by omega, by go_num, hB⟩, by simp [intOf]; omega⟩
    · obtain rfl : k = l.length := by omega
      go_wp2_with fail
      go_ret
      exact ⟨rfl, hb⟩
/-- Two functions are the same, but for where their parts lie. -/
structure SameF (f g : FnV) : Prop where
  nm : f.nm = g.nm
  vr : f.vr = g.vr
  ps : f.ps = g.ps
  res : f.res = g.res
  lb : f.bl.length = g.bl.length
  bl : ∀ (j : Nat) (x y : BlkV), f.bl[j]? = some x → g.bl[j]? = some y → SameL x.l y.l
theorem sameFunc {f g : FnV} (h : SameF f g) {w : World} (hf : FnAt w f) (hg : FnAt w g) (hv : f.vr.length ≤ 100000) (hp : f.ps.length ≤ 100000) (hl : f.bl.length ≤ 100000) (hll : ∀ b, b ∈ f.bl → b.l.length ≤ 100000 ∧ ∀ y, y ∈ b.l → y.2.length ≤ 100000) :
    Calls Tryz.prog 10 #[.agg f.cells, .agg g.cells] w fun e w' => e = .returned (.bool true) ∧ Below w.heap.size w w' := by
  obtain ⟨nm, va, vc, vr, pa, pc, ps, res, ba, bc, bl⟩ := f
  obtain ⟨nm2, va2, vc2, vr2, pa2, pc2, ps2, res2, ba2, bc2, bl2⟩ := g
  obtain ⟨e1, e2, e3, e4, hlb, hbl⟩ := h
  obtain ⟨q1, q2, q3, q4, q5⟩ := hf
  obtain ⟨r1, r2, r3, r4, r5⟩ := hg
  dsimp only at *
  subst e1
  subst e2
  subst e3
  subst e4
  unfold FnV.cells
  dsimp only
  have hB0 : Below w.heap.size w ((w.alloc (.cells #[.string nm, .slice va vr.length vc, .slice pa ps.length pc, .string res, .slice ba bl.length bc] 30)).alloc (.cells #[.string nm, .slice va2 vr.length vc2, .slice pa2 ps.length pc2, .string res, .slice ba2 bl2.length bc2] 30)) := belowN.alloc (by simp) _
  have m1 := (Cells.new w 30 #[.string nm, .slice va vr.length vc, .slice pa ps.length pc, .string res, .slice ba bl.length bc]).alloc (.cells #[.string nm, .slice va2 vr.length vc2, .slice pa2 ps.length pc2, .string res, .slice ba2 bl2.length bc2] 30)
  have m2 := Cells.new (w.alloc (.cells #[.string nm, .slice va vr.length vc, .slice pa ps.length pc, .string res, .slice ba bl.length bc] 30)) 30 #[.string nm, .slice va2 vr.length vc2, .slice pa2 ps.length pc2, .string res, .slice ba2 bl2.length bc2]
  rw [World.size_alloc] at m2
  have hz : ((w.alloc (.cells #[.string nm, .slice va vr.length vc, .slice pa ps.length pc, .string res, .slice ba bl.length bc] 30)).alloc (.cells #[.string nm, .slice va2 vr.length vc2, .slice pa2 ps.length pc2, .string res, .slice ba2 bl2.length bc2] 30)).heap.size = w.heap.size + 2 := by simp
  have K1 := fun V (hb : Below w.heap.size w V) => sameIntsL (c1 := pc) (c2 := pc2) ps (q2.below hb) (r2.below hb) hp
  have K2 := fun V (hb : Below w.heap.size w V) => sameBlocks (c1 := bc) (c2 := bc2) bl bl2 hlb hbl (q3.below hb) (r3.below hb) (fun b hm => (q4 b hm).below hb) (fun b hm => (r4 b hm).below hb) (fun b hm y hy => ⟨(q5 b hm y hy).1.below hb, (q5 b hm y hy).2⟩) (fun b hm y hy => ⟨(r5 b hm y hy).1.below hb, (r5 b hm y hy).2⟩) hl hll
  clear hlb hbl q2 q3 q4 q5 r2 r3 r4 r5 hl hll hp
  replace K1 := Lib.hid K1
  replace K2 := Lib.hid K2
  replace q1 := Lib.hid q1
  replace r1 := Lib.hid r1
  go_enter Tryz.func10, Tryz.ntmps10
  go_wp2_with fail
  generalize (w.alloc _).alloc _ = X at *
  replace hB0 := Lib.hid hB0
  go_loopw [5] (fun i wr => ∃ k : Nat, k ≤ vr.length ∧ i = .int .i64 k ∧ Below X.heap.size X wr) (fun i _ => vr.length - (intOf i).toNat)
  case atStart => exact ⟨0, Nat.zero_le _, rfl, Below.refl _ _⟩
  case round =>
    obtain ⟨k, hk, rfl, hb⟩ := hrel
    have n1 := m1.below hb (by omega)
    have n2 := m2.below hb (by omega)
    have x1 := n1.cell (j := 1) (v := .slice va vr.length vc) rfl
    have x2 := n2.cell (j := 1) (v := .slice va2 vr.length vc2) rfl
    by_cases hlt : k < vr.length
    · obtain ⟨x, hxk⟩ : ∃ x, vr[k]? = some x := ⟨vr[k], List.getElem?_eq_getElem hlt⟩
      have hB := hB0.out.trans (hb.mono hB0.out.size)
      obtain ⟨b1, o1, h1, c1⟩ := (q1.out.below hB) k x hxk
      obtain ⟨b2, o2, h2, c2⟩ := (r1.out.below hB) k x hxk
      subst h1
      subst h2
      have k1 : (k : Int) < vr.length := by omega
      have hi : IntKind.i64.wrap ((k : Int) + 1) = k + 1 := IntWalk.i64_in _ (by omega)
      clear hxk
      go_wp2_with fail
      go_quiet (fail)
      go_wp2_with fail
      exact ⟨⟨k + 1, by omega, by go_num, below_drewN hb _⟩, by simp [intOf]; omega⟩
    · obtain rfl : k = vr.length := by omega
      have x3 := n1.cell (j := 2) (v := .slice pa ps.length pc) rfl
      have x4 := n2.cell (j := 2) (v := .slice pa2 ps.length pc2) rfl
      have hB := hB0.out.trans (hb.mono hB0.out.size)
      have K3 := K1.out wr hB
      replace hB := Lib.hid hB
      have hnext : Hid (∀ W1, Below wr.heap.size wr W1 → W1.cell? ⟨w.heap.size, 4, none⟩ = some (.slice ba bl.length bc) ∧ W1.cell? ⟨w.heap.size + 1, 4, none⟩ = some (.slice ba2 bl2.length bc2) ∧ Below w.heap.size w W1) := Lib.hid fun W1 hb1 =>
        ⟨cell_below hb1 (n1.cell (j := 4) (v := .slice ba bl.length bc) rfl), cell_below hb1 (n2.cell (j := 4) (v := .slice ba2 bl2.length bc2) rfl), hB.out.trans (hb1.mono hB.out.size)⟩
      go_wp2_with (first
        | (go_at_call 19; refine K3.mono ?_; clear K3; rintro e W1 ⟨rfl, hb1⟩; obtain ⟨y1, y2, hB1⟩ := hnext.out W1 hb1; have K4 := K2.out W1 hB1)
        | (go_at_call 20; refine K4.mono ?_; clear K4; rintro e W2 ⟨rfl, hb2⟩))
      go_ret
      exact ⟨rfl, hB1.trans (hb2.mono hB1.size)⟩
end Go.Proofs.YtfnfijgknjnccaaGreatDoor
