/-
  What stands while a machine is checked: the block of 'checked', its names and places, in arrays of their own; what a step keeps of it. And what follows: see the heads within.
-/
import Derived.Test.YtfhllbnpkcgfdaaGreatDoorMdOne
import Derived.Test.YtfhllbnpkcgfdaaGreatDoorGeoTwo
/-! What stands while a machine is checked: the block of 'checked', its names and places, in arrays of their own; what a step keeps of it. -/
namespace Go.Proofs.YtfhllbnpkcgfdaaGreatDoor
open Go.RowKit
/-- A block that stands all the time: its number, and its cells. -/
structure Ghost where
  b : Nat
  cs : Array Value
/-- What stands while a machine is checked. -/
structure St [Inhabited Ghost] (w0 w : World) (C : Nat) (c : CV) (ns : List ByteArray) (ps : List Plc) : Prop where
  below : Below w0.heap.size w0 w
  base : w0.heap.size ≤ C
  chk : ChkAt w C c
  names : w.ownsRow w0.heap.size 9 1 c.names.v ns.length (ns.map Value.string)
  places : w.ownsRow w0.heap.size 94 3 c.places.v ps.length (placeCells ps)
  few : ns.length ≤ 200
  same : ps.length = ns.length
  ok : ∀ p, p ∈ ps → PlcOk p
  fns : Cells w (default : Ghost).b 59 (default : Ghost).cs
theorem St.step [Inhabited Ghost] {w0 w w' : World} {C : Nat} {c : CV} {ns : List ByteArray} {ps : List Plc} (h : St w0 w C c ns ps) (hb : Below w.heap.size w w') : St w0 w' C c ns ps :=
  ⟨h.below.trans (hb.mono h.below.size), h.base, h.chk.below hb h.chk.lt, ownsRow_below h.names hb, ownsRow_below h.places hb, h.few, h.same, h.ok, h.fns.below hb h.fns.lt⟩
theorem St.fns_ne [Inhabited Ghost] {w0 W : World} {C : Nat} {c : CV} {ns : List ByteArray} {ps : List Plc} (h : St w0 W C c ns ps) : (default : Ghost).b ≠ C := fun eb => by
  have h1 := h.fns
  rw [eb] at h1
  have h2 := Option.some.inj ((show W.heap[C]? = _ from h1).symm.trans (show W.heap[C]? = _ from h.chk))
  injection h2 with _ ht _
  exact absurd ht (by decide)
theorem St.namesAt [Inhabited Ghost] {w0 w : World} {C : Nat} {c : CV} {ns : List ByteArray} {ps : List Plc} (h : St w0 w C c ns ps) : NamesAt w c ns := by
  have := StrsAt.of_row h.names rfl
  exact ⟨this, by have := this.1; have := h.few; omega⟩
theorem St.placesAt [Inhabited Ghost] {w0 w : World} {C : Nat} {c : CV} {ns : List ByteArray} {ps : List Plc} (h : St w0 w C c ns ps) : PlacesAt w c ps := by
  have hf := h.few
  have hs := h.same
  have hrow := h.places
  rcases hrow.2 with ⟨h1, h2⟩ | ⟨g, cap, cur, h1, h2, h3, h4, _⟩
  · unfold SlV.v at h1
    injection h1 with e1 e2 e3
    have hl : ps = [] := List.length_eq_zero_iff.1 (by omega)
    subst hl
    exact ⟨h.ok, by simp; omega, by omega, by omega, fun i p hp => by simp at hp⟩
  · unfold SlV.v at h1
    injection h1 with e1 e2 e3
    refine ⟨h.ok, by omega, by omega, by omega, fun i p hp => ⟨g, 0, e1, ?_⟩⟩
    rw [Nat.zero_add]
    have hv : c.places.v = .slice (some ⟨g, 0, none⟩) c.places.n c.places.c := by unfold SlV.v; rw [e1]
    rw [hv] at hrow
    obtain ⟨q0, q1, q2⟩ := placeCells_get hp
    exact ⟨ownsRow_cell hrow q0, ownsRow_cell hrow q1, ownsRow_cell hrow q2⟩
/-- A row of another type is kept where a slice in a block is grown. -/
theorem grown_row {base T j : Nat} {t e : TypeId} {size : Nat} {cs : Array Value} {v' : Value} {m : Nat} {ys : List Value} {W W7 : World} (h : Grown base T j t e size cs v' m ys W W7) (hT : Cells W T t cs)
    {base' : Nat} {e' : TypeId} {size' : Nat} {v2 : Value} {k2 : Nat} {xs2 : List Value} (h2 : W.ownsRow base' e' size' v2 k2 xs2) (he : e' ≠ e) (ht : e' ≠ t) : W7.ownsRow base' e' size' v2 k2 xs2 := by
  refine ⟨h2.1, ?_⟩
  rcases h2.2 with h3 | ⟨g, cap, cur, e1, e2, e3, e4⟩
  · exact .inl h3
  · refine .inr ⟨g, cap, cur, e1, e2, h.block g e' cur e3 (fun eg => ?_) he, e4⟩
    subst eg
    have := (show W.heap[g]? = _ from e3).symm.trans (show W.heap[g]? = _ from hT)
    cases this; exact ht rfl
theorem IntsR.grown {base T j : Nat} {t e : TypeId} {size : Nat} {cs : Array Value} {v' : Value} {m : Nat} {ys : List Value} {W W7 : World} (h : Grown base T j t e size cs v' m ys W W7) (hT : Cells W T t cs) {s : SlV} {l : List Int} (hs : IntsR W s l) (he : 3 ≠ e) (ht : 3 ≠ t) : IntsR W7 s l := grown_row h hT hs he ht
/-- The lists of c's classes, in an array that stands behind what was there at first. -/
def ListsO (w0 W : World) (s : SlV) (ls : List (List Int)) : Prop :=
  ∃ vs : List SlV, vs.length = ls.length ∧ W.ownsRow w0.heap.size 55 1 s.v ls.length (vs.map SlV.v) ∧ ∀ (i : Nat) v l, vs[i]? = some v → ls[i]? = some l → IntsR W v l ∧ l.length ≤ 1000 ∧ (v.a = none → v.c = 0)
theorem ListsO.lists {w0 W : World} {s : SlV} {ls : List (List Int)} (h : ListsO w0 W s ls) : ListsR W s ls := by
  obtain ⟨vs, h1, h2, h3⟩ := h
  exact ⟨vs, h1, ownsRow_mono h2 (Nat.zero_le _), h3⟩
theorem ListsO.below {w0 W W' : World} {s : SlV} {ls : List (List Int)} (h : ListsO w0 W s ls) (hb : Below W.heap.size W W') : ListsO w0 W' s ls := by
  obtain ⟨vs, h1, h2, h3⟩ := h
  exact ⟨vs, h1, ownsRow_below h2 hb, fun i v l hv hl => ⟨(h3 i v l hv hl).1.below hb, (h3 i v l hv hl).2⟩⟩
theorem ListsO.nil (w0 W : World) : ListsO w0 W ⟨none, 0, 0⟩ [] := ⟨[], rfl, World.ownsRow_nil _ _ _ _, fun i v l hv _ => by simp at hv⟩
/-- Where a slice in the block of 'checked' has grown: what stands is as it was but for that. -/
theorem St.grown [Inhabited Ghost] {w0 W W7 : World} {C j : Nat} {c c' : CV} {ns : List ByteArray} {ps : List Plc} {e : TypeId} {size m : Nat} {v' : Value} {ys : List Value} (h : St w0 W C c ns ps) (hG : Grown w0.heap.size C j 57 e size c.cells v' m ys W W7)
    (hc : c'.cells = c.cells.setIfInBounds j v') (hn : c'.names = c.names) (hp : c'.places = c.places) (e1 : 9 ≠ e) (e2 : 94 ≠ e) (e3 : 59 ≠ e) : St w0 W7 C c' ns ps := by
  refine ⟨h.below.trans hG.below, h.base, ?_, ?_, ?_, h.few, h.same, h.ok, hG.block _ _ _ h.fns h.fns_ne e3⟩
  · show Cells W7 C 57 c'.cells
    rw [hc]; exact hG.cells
  · rw [hn]; exact grown_row hG h.chk h.names e1 (by decide)
  · rw [hp]; exact grown_row hG h.chk h.places e2 (by decide)
end Go.Proofs.YtfhllbnpkcgfdaaGreatDoor
/-! readClasses, of classes whose names can be. -/
namespace Go.Proofs.YtfhllbnpkcgfdaaGreatDoor
open Go.RowKit
theorem classesErr_at (nm : ByteArray → Bool) (ns : List ByteArray) (ps : List Plc) (cs : List ClassD) (k : Nat) (x : ClassD) (hx : cs[k]? = some x) :
    classesErr nm ns ps (cs.take k) (cs.drop k) = if classErr nm ns ps (cs.take k) x = 0 then classesErr nm ns ps (cs.take (k + 1)) (cs.drop (k + 1)) else classErr nm ns ps (cs.take k) x := by
  have hlt : k < cs.length := (List.getElem?_eq_some_iff.1 hx).1
  rw [List.drop_eq_getElem_cons hlt, List.take_add_one, hx]
  have : cs[k] = x := (List.getElem?_eq_some_iff.1 hx).2
  rw [this]; rfl
theorem regs_nums {ns : List ByteArray} {ps : List Plc} {l : List ByteArray} (hs : ps.length = ns.length) (h : (regsL ns l).contains (-1) = false) : ∀ x, x ∈ regsL ns l → Num ps x := fun x hx => by
  unfold regsL at hx
  obtain ⟨s, hs2, rfl⟩ := List.mem_map.1 hx
  have hr := regN_range ns s
  refine ⟨?_, by omega⟩
  by_cases h0 : 0 ≤ regN ns s
  · exact h0
  · have : regN ns s = -1 := by omega
    have hc : (regsL ns l).contains (-1) = true := by
      rw [List.contains_iff_mem]; exact List.mem_map.2 ⟨s, hs2, this⟩
    rw [hc] at h; cases h
def ClassesPost [Inhabited Ghost] (w0 : World) (C : Nat) (cc : SlV → CV) (ns : List ByteArray) (ps : List Plc) (cs : List ClassD) (e : Ending) (w' : World) : Prop :=
  e = .returned (.int .i64 (classesS (fun _ => true) ns ps cs)) ∧ Below w0.heap.size w0 w' ∧ (classesS (fun _ => true) ns ps cs = 0 → ∃ cV, St w0 w' C (cc cV) ns ps ∧ ListsO w0 w' cV (clsOf ns cs))
set_option maxRecDepth 100000 in
set_option maxHeartbeats 8000000 in
theorem readClasses_any [Inhabited Ghost] (C : Nat) (mn rs : ByteArray) (rg op ar sv : SlV) (ka : Option Addr) (kn kc : Nat) (sl : Int) (nV pV oV aV : SlV) (r : Int) (ns : List ByteArray) (ps : List Plc) (cs : List ClassD) (w0 w : World) (hE : Env w0)
    (hS : St w0 w C ⟨⟨mn, rg, ⟨ka, kn, kc⟩, op, ar, rs, sv, sl⟩, nV, pV, ⟨none, 0, 0⟩, oV, aV, r⟩ ns ps) (hK : ClassesAt w0 ⟨ka, kn, kc⟩ cs)
    (hnm : ∀ k : ClassD, k ∈ cs → ∀ W, Env W → Calls Tryz.prog 41 #[.string k.name] W fun e w' => e = .returned (.bool true) ∧ Below W.heap.size W w')
    (hnew : ∀ (i : Nat) (k : ClassD), cs[i]? = some k → idxP (fun x : ClassD => eqB x.name k.name) (cs.take i) = -1) (hnr : ∀ k : ClassD, k ∈ cs → regN ns k.name = -1) :
    Calls Tryz.prog 21 #[.pointer (some ⟨C, 0, none⟩)] w (ClassesPost w0 C (fun cV => ⟨⟨mn, rg, ⟨ka, kn, kc⟩, op, ar, rs, sv, sl⟩, nV, pV, cV, oV, aV, r⟩) ns ps cs) := by
  have hkn := hK.1
  have hkc := hK.2.1
  dsimp only at hkn hkc
  have c2 := hS.chk.cell (j := 2) (v := .slice ka kn kc) rfl
  have hB0 := hS.below
  by_cases hlong : (64 : Int) < kn
  · have hr : Hid (classesS (fun _ => true) ns ps cs = 2) := Lib.hid (by unfold classesS; rw [if_pos (by omega)])
    clear hnm hnew hnr hK hS hkn
    go_enter Tryz.func21, Tryz.ntmps21
    go_wp2_with fail
    go_ret
    exact ⟨ret_int hr.out.symm, hB0, fun h => by rw [hr.out] at h; cases h⟩
  · have hr : Hid (classesS (fun _ => true) ns ps cs = classesErr (fun _ => true) ns ps [] cs) := Lib.hid (by unfold classesS; rw [if_neg (by omega)])
    replace hnm := Lib.hid hnm
    replace hnew := Lib.hid hnew
    replace hnr := Lib.hid hnr
    have hK2 := Lib.hid hK
    have hS2 := Lib.hid hS
    have hkn' := Lib.hid hkn
    have kn0 : (0 : Int) ≤ kn := Int.natCast_nonneg _
    clear hK hS hkn
    go_enter Tryz.func21, Tryz.ntmps21
    go_wp2_with fail
    go_loopw [20] (fun i wr => ∃ (k : Nat) (cV : SlV), k ≤ kn ∧ i = .int .i64 k ∧ St w0 wr C ⟨⟨mn, rg, ⟨ka, kn, kc⟩, op, ar, rs, sv, sl⟩, nV, pV, cV, oV, aV, r⟩ ns ps ∧ ListsO w0 wr cV (clsOf ns (cs.take k)) ∧ Hid (classesErr (fun _ => true) ns ps [] cs = classesErr (fun _ => true) ns ps (cs.take k) (cs.drop k))) (fun i _ => kn - (intOf i).toNat)
    case atStart => exact ⟨0, ⟨none, 0, 0⟩, Nat.zero_le _, rfl, hS2.out, by simpa [clsOf] using ListsO.nil w0 w, Lib.hid (by simp)⟩
    case round =>
      clear c2 hB0 hS2
      obtain ⟨k, cV, hk, rfl, hS, hL, hT⟩ := hrel
      have k0 : (0 : Int) ≤ k := Int.natCast_nonneg _
      have hBr := hS.below
      by_cases hlt : k < kn
      · have hkl : k < cs.length := by have := hkn'.out; omega
        obtain ⟨x, hx⟩ : ∃ x, cs[k]? = some x := ⟨cs[k], List.getElem?_eq_getElem hkl⟩
        have hmem : x ∈ cs := List.mem_of_getElem? hx
        obtain ⟨b, o, rfl, ⟨ra, rn, rc⟩, hc0, hc1, hcr⟩ := hK2.out.2.2 k x hx
        dsimp only at hc0 hc1
        replace hc0 := cell_below hBr hc0
        replace hc1 := cell_below hBr hc1
        have k1 : (k : Int) < kn := by omega
        have k2 : (k : Int) ≤ kc := by omega
        have hi : IntKind.i64.wrap ((k : Int) + 1) = k + 1 := IntWalk.i64_in _ (by omega)
        have e1 := hnew.out k x hx
        have e2 := hnr.out x hmem
        have hce : Hid (classErr (fun _ => true) ns ps (cs.take k) x = if classFine ns ps x = true then 0 else 8) := Lib.hid (by unfold classErr; rw [e1, e2]; simp)
        have hT2 := Lib.hid (hT.out.trans (classesErr_at _ ns ps cs k x hx))
        have c2 := hS.chk.cell (j := 2) (v := .slice (some ⟨b, o, none⟩) kn kc) rfl
        have hCw := hS.chk.lt
        -- the callees
        have Kn : ∀ W, Below wr.heap.size wr W → Calls Tryz.prog 41 #[.string x.name] W fun e w' => e = .returned (.bool true) ∧ Below W.heap.size W w' := fun W hb => hnm.out x hmem W (hE.below (hBr.trans (hb.mono hBr.size)))
        have Kc : ∀ W, Below wr.heap.size wr W → Calls Tryz.prog 43 #[.slice (some ⟨b, o, none⟩) k kc, .string x.name, .func (.func 44) #[] #[]] W fun e w' => e = .returned (.int .i64 (-1)) ∧ Below W.heap.size W w' := fun W hb => by
          have := numberClass ⟨some ⟨b, o, none⟩, k, kc⟩ (cs.take k) x.name W ((hK2.out.head k (by omega)).below (hBr.trans (hb.mono hBr.size))) (by show k < _; omega)
          rw [e1] at this; exact this
        have Kr : ∀ W, Below wr.heap.size wr W → Calls Tryz.prog 45 #[.pointer (some ⟨C, 0, none⟩), .string x.name] W fun e w' => e = .returned (.int .i64 (-1)) ∧ Below W.heap.size W w' := fun W hb => by
          have := reg_any C _ ns x.name W (hS.step hb).chk (hS.step hb).namesAt
          rw [e2] at this; exact this
        have Kg : ∀ W, Below wr.heap.size wr W → Calls Tryz.prog 46 #[.pointer (some ⟨C, 0, none⟩), .slice ra rn rc, .int .i64 64] W (RegsPost ns x.regs 64 W) := fun W hb => regs_any C _ ns ⟨ra, rn, rc⟩ x.regs 64 W (by decide) (by decide) (hS.step hb).chk (hS.step hb).namesAt (hcr.below (hBr.trans (hb.mono hBr.size)))
        have Kt : ∀ W s, Below wr.heap.size wr W → IntsR W s (regsL ns x.regs) → x.regs.length ≤ 64 → Calls Tryz.prog 47 #[.slice s.a s.n s.c] W fun e w' => e = .returned (.bool (twiceFrom [] (regsL ns x.regs))) ∧ W = w' := fun W s _ hI h64 => twice_any s _ W hI.at_ (by have := hI.len; simp [regsL] at this; omega)
        have Ko : ∀ W s, Below wr.heap.size wr W → IntsR W s (regsL ns x.regs) → x.regs.length ≤ 64 → (regsL ns x.regs).contains (-1) = false → Calls Tryz.prog 48 #[.pointer (some ⟨C, 0, none⟩), .slice s.a s.n s.c] W fun e w' => e = .returned (.bool (oneWidthB ps (regsL ns x.regs))) ∧ Below W.heap.size W w' := fun W s hb hI h64 hno =>
          oneWidth_any C _ ps s _ W (hS.step hb).chk (hS.step hb).placesAt hI.at_ (by have := hI.len; simp [regsL] at this; omega) (regs_nums hS.same hno)
        have nC := World.new_ne wr _ c2
        have hlb := World.block_lt_of_cell? _ _ c2
        dsimp only at hlb
        have hb0 : Below wr.heap.size wr (wr.alloc (.cells #[.string x.name, .slice ra rn rc] 46)) := (Below.refl _ _).alloc (Nat.le_refl _) _
        have hxr : Hid (classFine ns ps x = (regsOk ns x.regs 64 && !decide (x.regs = []) && !twiceFrom [] (regsL ns x.regs) && oneWidthB ps (regsL ns x.regs))) := Lib.hid rfl
        have hS' := Lib.hid hS
        have hL' := Lib.hid hL
        have hbad : classFine ns ps x = false → Hid (classesS (fun _ => true) ns ps cs = 8) := fun hf => Lib.hid (by
          have h8 : classErr (fun _ => true) ns ps (cs.take k) x = 8 := by rw [hce.out, hf]; rfl
          rw [hr.out, hT2.out, h8]; rfl)
        have hgood : classFine ns ps x = true → Hid (classesErr (fun _ => true) ns ps [] cs = classesErr (fun _ => true) ns ps (cs.take (k + 1)) (cs.drop (k + 1))) := fun hf => Lib.hid (by
          have h0 : classErr (fun _ => true) ns ps (cs.take k) x = 0 := by rw [hce.out, hf]; rfl
          rw [hT2.out, h0]; rfl)
        have hlist : Hid (clsOf ns (cs.take (k + 1)) = clsOf ns (cs.take k) ++ [regsL ns x.regs]) := Lib.hid (by unfold clsOf; rw [List.take_add_one, hx, List.map_append]; rfl)
        replace hbad := Lib.hid hbad
        replace hgood := Lib.hid hgood
        generalize hxn : x.name = xn at *
        clear hx hmem hcr e1 e2 hT hS hL hxn hnm hnew hnr hK2
        go_wp2_with fail
        go_region_held3 (fun w' => w'.cell? ⟨wr.heap.size, 0, none⟩ = some (.string xn) ∧ w'.cell? ⟨wr.heap.size, 1, none⟩ = some (.slice ra rn rc) ∧ w'.cell? ⟨C, 2, none⟩ = some (.slice (some ⟨b, o, none⟩) kn kc))
          (go_keep)
          ((first
            | (go_at_call 41; refine (Kn _ hb0.drew).mono ?_; clear Kn; rintro e W1 ⟨rfl, hb1⟩; have hA1 := hb0.drew.trans (hb1.mono (by simp)); have p0 : W1.cell? ⟨wr.heap.size, 0, none⟩ = some (.string xn) := cell_below hb1 (by first | assumption | (simp [*]; done)); have p1 : W1.cell? ⟨wr.heap.size, 1, none⟩ = some (.slice ra rn rc) := cell_below hb1 (by first | assumption | (simp [*]; done)); have p2 : W1.cell? ⟨C, 2, none⟩ = some (.slice (some ⟨b, o, none⟩) kn kc) := cell_below hb1 (by first | assumption | (simp [*]; done)))
            | (go_at_call 43; refine (Kc _ hA1).mono ?_; clear Kc; rintro e W2 ⟨rfl, hb2⟩; have hA2 := hA1.trans (hb2.mono hA1.size); have q0 : W2.cell? ⟨wr.heap.size, 0, none⟩ = some (.string xn) := cell_below hb2 (by first | assumption | (simp [*]; done)); have q1 : W2.cell? ⟨wr.heap.size, 1, none⟩ = some (.slice ra rn rc) := cell_below hb2 (by first | assumption | (simp [*]; done)); have q2 : W2.cell? ⟨C, 2, none⟩ = some (.slice (some ⟨b, o, none⟩) kn kc) := cell_below hb2 (by first | assumption | (simp [*]; done)))
            | (go_at_call 45; refine (Kr _ hA2).mono ?_; clear Kr; rintro e W3 ⟨rfl, hb3⟩; have hA3 := hA2.trans (hb3.mono hA2.size); have r0 : W3.cell? ⟨wr.heap.size, 0, none⟩ = some (.string xn) := cell_below hb3 (by first | assumption | (simp [*]; done)); have r1 : W3.cell? ⟨wr.heap.size, 1, none⟩ = some (.slice ra rn rc) := cell_below hb3 (by first | assumption | (simp [*]; done)); have r2 : W3.cell? ⟨C, 2, none⟩ = some (.slice (some ⟨b, o, none⟩) kn kc) := cell_below hb3 (by first | assumption | (simp [*]; done)))))
        go_wp2_with fail
        go_at_call 46
        refine (Kg _ hA3).mono ?_
        clear Kg
        rintro e W4 ⟨s, rfl, hb4, hown⟩
        have hA4 := hA3.trans (hb4.mono hA3.size)
        have hB4 : Below w0.heap.size w0 W4 := hBr.trans (hA4.mono hBr.size)
        clear p0 p1 p2 q0 q1 q2 r0 r1 r2 hc0 hc1 c2 hb1 hb2 hb3 hA1 hA2 hA3
        replace hown := Lib.hid hown
        have h64 : (64 : Int).toNat = 64 := rfl
        rw [h64]
        have h8 : classFine ns ps x = false → ∀ W, Below w0.heap.size w0 W → ClassesPost w0 C (fun cV => ⟨⟨mn, rg, ⟨some ⟨b, o, none⟩, kn, kc⟩, op, ar, rs, sv, sl⟩, nV, pV, cV, oV, aV, r⟩) ns ps cs (.returned (.int .i64 8)) W := fun hf W hW => by
          have h := (hbad.out hf).out
          exact ⟨ret_int h.symm, hW, fun h0 => by rw [h] at h0; cases h0⟩
        replace h8 := Lib.hid h8
        clear hbad h64
        cases hok : regsOk ns x.regs 64 with
        | false =>
          have hf : Hid (classFine ns ps x = false) := Lib.hid (by rw [hxr.out, hok]; rfl)
          clear hok
          go_wp2_with fail
          go_ret
          exact h8.out hf.out _ hB4
        | true =>
          have hok2 : x.regs.length ≤ 64 ∧ (regsL ns x.regs).contains (-1) = false := by unfold regsOk at hok; simpa using hok
          have hrow : IntsR W4 s (regsL ns x.regs) := by
            have := hown.out (by have := hok2.1; omega)
            have e : x.regs.length = (regsL ns x.regs).length := by simp [regsL]
            rw [e] at this
            exact ownsRow_mono this (Nat.zero_le _)
          have hsn : s.n = x.regs.length := by have := hrow.len; simpa [regsL] using this
          have Kt' := Kt W4 s hA4 hrow hok2.1
          have Ko' := Ko W4 s hA4 hrow hok2.1 hok2.2
          clear Kt Ko
          replace hok := Lib.hid hok
          by_cases hem : x.regs = []
          · have hf : Hid (classFine ns ps x = false) := Lib.hid (by rw [hxr.out, hem]; simp)
            have hs0 : s.n = 0 := by rw [hsn, hem]; rfl
            obtain ⟨sa, sn, sc⟩ := s
            dsimp only at hs0
            subst hs0
            clear hem hsn hok2 Kt' Ko' hrow hown
            go_wp2_with fail
            go_ret
            exact h8.out hf.out _ hB4
          · have hpos : 0 < s.n := by rw [hsn]; exact List.length_pos_iff.2 hem
            have hpos2 : (0 : Int) < s.n := by omega
            have hne0 : ((s.n : Int) == 0) = false := beq_eq_false_iff_ne.2 (by omega)
            have hxr2 : Hid (classFine ns ps x = (!twiceFrom [] (regsL ns x.regs) && oneWidthB ps (regsL ns x.regs))) := Lib.hid (by rw [hxr.out, hok.out, decide_eq_false hem]; simp)
            have hrow' := Lib.hid hrow
            have hs64 : (regsL ns x.regs).length ≤ 1000 := by have := hok2.1; simp [regsL]; omega
            have hvn : s.a = none → s.c = 0 := fun h => by
              rcases hrow.2 with ⟨h1, h2⟩ | ⟨g, cap, cur, h1, _⟩
              · unfold SlV.v at h1; injection h1
              · unfold SlV.v at h1; injection h1 with ea; rw [ea] at h; cases h
            clear hem hsn hok2 hrow hown hxr
            cases htw : twiceFrom [] (regsL ns x.regs) with
            | true =>
              have hf : Hid (classFine ns ps x = false) := Lib.hid (by rw [hxr2.out, htw]; rfl)
              rw [htw] at Kt'
              clear htw Ko'
              go_wp2_with (go_at_call 47; refine Kt'.mono ?_; clear Kt'; rintro e W5 ⟨rfl, rfl⟩)
              go_ret
              exact h8.out hf.out _ hB4
            | false =>
              rw [htw] at Kt'
              cases how : oneWidthB ps (regsL ns x.regs) with
              | false =>
                have hf : Hid (classFine ns ps x = false) := Lib.hid (by rw [hxr2.out, htw, how]; rfl)
                rw [how] at Ko'
                clear htw how
                go_wp2_with (first
                  | (go_at_call 47; refine Kt'.mono ?_; clear Kt'; rintro e W5 ⟨rfl, rfl⟩)
                  | (go_at_call 48; refine Ko'.mono ?_; clear Ko'; rintro e W6 ⟨rfl, hb6⟩))
                go_ret
                exact h8.out hf.out _ (hB4.trans (hb6.mono hB4.size))
              | true =>
                have hf : classFine ns ps x = true := by rw [hxr2.out, htw, how]; rfl
                have hg := hgood.out hf
                rw [how] at Ko'
                clear htw how hf h8 hxr2
                have hP : ∀ W, Below W4.heap.size W4 W → St w0 W C ⟨⟨mn, rg, ⟨some ⟨b, o, none⟩, kn, kc⟩, op, ar, rs, sv, sl⟩, nV, pV, cV, oV, aV, r⟩ ns ps ∧ ListsO w0 W cV (clsOf ns (cs.take k)) ∧ IntsR W s (regsL ns x.regs) := fun W hW => by
                  have hA := hA4.trans (hW.mono hA4.size)
                  exact ⟨hS'.out.step hA, hL'.out.below hA, hrow'.out.below hW⟩
                have hk64 : k ≤ 64 := by omega
                have hlk : (clsOf ns (cs.take k)).length = k := by unfold clsOf; rw [List.length_map, List.length_take]; omega
                replace hlk := Lib.hid hlk
                obtain ⟨i0, hi0, hz0, hz1, hz2⟩ := info_parts Tryz.infoSl
                go_wp2_with (first
                  | (go_at_call 47; refine Kt'.mono ?_; clear Kt'; rintro e W5 ⟨rfl, rfl⟩)
                  | (go_at_call 48; refine Ko'.mono ?_; clear Ko'; rintro e W6 ⟨rfl, hb6⟩; obtain ⟨hS6, ⟨vs, hv1, hrow6, hv3⟩, hI6⟩ := hP W6 hb6; rw [hlk.out] at hrow6; have c10 := hS6.chk.cell (j := 10) (v := .slice cV.a cV.n cV.c) rfl; have hnr := hS6.chk.not_row (by decide) hrow6; have hbs := hS6.below.size; clear hP; replace hv1 := Lib.hid hv1; replace hv3 := Lib.hid hv3)
                  | (at_builtin; go_loud (refine wpList_append_own_at _ rfl _ _ 53 rfl w0.heap.size 55 i0 _ 1 24 Tryz.underlying53 hi0 hz0 hz1 hz2 rfl (by decide) _ k (vs.map SlV.v) rfl (hrow6.alloc _) ⟨W6.heap.size, 0, none⟩ 1 1 [.slice s.a s.n s.c] rfl rfl (new_cells _ _ _ _ rfl) (by simp [Value.oneCell']) (by unfold maxLen; omega) (by omega) (by simp; omega) ?_; intro v' W7 hown7 hgrow _ hblk; obtain ⟨g', cap', rfl⟩ := ownsRow_succ hown7; have hT7 := (hS6.chk.alloc (.cells #[.slice s.a s.n s.c] 55)).kept hgrow hnr; have f7 := hT7.frozen 10; have c7 := hT7.cell (j := 10) (v := .slice cV.a cV.n cV.c) rfl)))
                have hG := append_step (v := .slice cV.a cV.n cV.c) hS6.chk (j := 10) rfl (by decide) hS6.base (Below.refl _ _) hrow6 hown7 hgrow hblk
                have hSn := hS6.grown (c' := ⟨⟨mn, rg, ⟨some ⟨b, o, none⟩, kn, kc⟩, op, ar, rs, sv, sl⟩, nV, pV, ⟨some ⟨g', 0, none⟩, k + 1, cap'⟩, oV, aV, r⟩) hG rfl rfl rfl (by decide) (by decide) (by decide)
                refine ⟨⟨k + 1, ⟨some ⟨g', 0, none⟩, k + 1, cap'⟩, by omega, by go_num, hSn, ⟨vs ++ [s], ?_, ?_, ?_⟩, hg⟩, by simp [intOf]; omega⟩
                · rw [hlist.out, List.length_append, List.length_append, hv1.out]; rfl
                · rw [hlist.out, List.length_append, hlk.out, List.map_append]; exact hG.row
                · intro i v l hv hl
                  rw [hlist.out] at hl
                  by_cases hi : i < k
                  · rw [List.getElem?_append_left (by rw [hv1.out, hlk.out]; exact hi)] at hv
                    rw [List.getElem?_append_left (by rw [hlk.out]; exact hi)] at hl
                    obtain ⟨h1, h2, h3⟩ := hv3.out i v l hv hl
                    exact ⟨h1.grown hG hS6.chk (by decide) (by decide), h2, h3⟩
                  · rw [List.getElem?_append_right (by rw [hv1.out, hlk.out]; omega), hv1.out, hlk.out] at hv
                    rw [List.getElem?_append_right (by rw [hlk.out]; omega), hlk.out] at hl
                    have hi0 : i - k = 0 := by
                      have := (List.getElem?_eq_some_iff.1 hl).1
                      simp at this; omega
                    rw [hi0] at hv hl
                    cases hv
                    cases hl
                    exact ⟨hI6.grown hG hS6.chk (by decide) (by decide), hs64, hvn⟩
      · obtain rfl : k = kn := by omega
        have hfin : ClassesPost w0 C (fun cV => ⟨⟨mn, rg, ⟨ka, k, kc⟩, op, ar, rs, sv, sl⟩, nV, pV, cV, oV, aV, r⟩) ns ps cs (.returned (.int .i64 0)) wr := by
          have h0 : classesS (fun _ => true) ns ps cs = 0 := by
            rw [hr.out, hT.out, List.drop_eq_nil_of_le (by have := hkn'.out; omega)]; rfl
          refine ⟨ret_int h0.symm, hBr, fun _ => ⟨cV, hS, ?_⟩⟩
          rw [List.take_of_length_le (by have := hkn'.out; omega)] at hL
          exact hL
        replace hfin := Lib.hid hfin
        clear hS hL hnm hnew hnr hK2
        go_wp2_with fail
        go_ret
        exact hfin.out
end Go.Proofs.YtfhllbnpkcgfdaaGreatDoor
/-! readOp: an operation that can be is read. -/
namespace Go.Proofs.YtfhllbnpkcgfdaaGreatDoor
open Go.RowKit
/-- A row is kept where a row of another type grows. -/
theorem row_kept {W W' : World} {base base2 : Nat} {e e2 : TypeId} {size size2 k k2 : Nat} {v v2 : Value} {xs xs2 : List Value} (h : W.ownsRow base e size v k xs) (h2 : W.ownsRow base2 e2 size2 v2 k2 xs2) (hg : W.grownBy W' v2.ownBlock) (he : e ≠ e2) : W'.ownsRow base e size v k xs := by
  refine h.kept hg ?_
  cases hv : v.ownBlock with
  | none => exact .inl rfl
  | some b =>
    refine .inr fun e1 => ?_
    obtain ⟨_, c1, hc1⟩ := ownsRow_block h hv
    obtain ⟨_, c2, hc2⟩ := ownsRow_block h2 e1.symm
    have := (show W.heap[b]? = _ from hc1).symm.trans (show W.heap[b]? = _ from hc2)
    cases this; exact he rfl
/-- Two slices stand over unlike arrays. -/
def ApartS (v u : SlV) : Prop := ∀ b, v.v.ownBlock = some b → u.v.ownBlock ≠ some b
theorem IntsR.kept {W W' : World} {s u : SlV} {l : List Int} (h : IntsR W s l) (hg : W.grownBy W' u.v.ownBlock) (ha : ApartS s u) : IntsR W' s l := by
  refine World.ownsRow.kept h hg ?_
  cases hv : s.v.ownBlock with
  | none => exact .inl rfl
  | some b => exact .inr fun e1 => ha b hv e1.symm
theorem IntsR.lt {W : World} {s : SlV} {l : List Int} (h : IntsR W s l) {b : Nat} (hb : s.v.ownBlock = some b) : b < W.heap.size := by
  obtain ⟨_, cur, hc⟩ := ownsRow_block h hb
  exact hc.lt
/-- An array that was laid behind a world is none that stood in it. -/
theorem ApartS.fresh {W : World} {s u : SlV} {l : List Int} (h : IntsR W s l) (hu : ∀ b, u.v.ownBlock = some b → W.heap.size ≤ b) : ApartS s u := fun b hb e => by
  have := h.lt hb
  have := hu b e
  omega
theorem Cells.drew {W : World} {b : Nat} {t : TypeId} {cs : Array Value} (h : Cells W b t cs) : Cells W.drew b t cs := h
theorem Cells.kept_row {W W' : World} {b : Nat} {t : TypeId} {cs : Array Value} {base : Nat} {e : TypeId} {size k : Nat} {v : Value} {xs : List Value} (h : Cells W b t cs) (h2 : W.ownsRow base e size v k xs) (hg : W.grownBy W' v.ownBlock) (hte : t ≠ e) : Cells W' b t cs := h.kept hg (h.not_row hte h2)
theorem row_set {W : World} {b : Nat} {t : TypeId} {cs : Array Value} {base : Nat} {e : TypeId} {size k : Nat} {v : Value} {xs : List Value} (hC : Cells W b t cs) (h : W.ownsRow base e size v k xs) (he : e ≠ t) (j : Nat) (x : Value) : (W.setCell ⟨b, j, none⟩ x).ownsRow base e size v k xs :=
  h.kept (grownBy_set W b j x) (.inr fun e1 => hC.not_row (Ne.symm he) h e1.symm)
theorem setFour {W : World} {R : Nat} {t : TypeId} {a b c d : Value} (h : Cells W R t #[a, b, c, d]) (x y z u : Value) : Cells ((((W.setCell ⟨R, 0, none⟩ x).setCell ⟨R, 1, none⟩ y).setCell ⟨R, 2, none⟩ z).setCell ⟨R, 3, none⟩ u) R t #[x, y, z, u] := by
  simpa using (((h.set (j := 0) x).set (j := 1) y).set (j := 2) z).set (j := 3) u
theorem setFour_row {W : World} {R : Nat} {t : TypeId} {a b c d : Value} (h : Cells W R t #[a, b, c, d]) (x y z u : Value) {base : Nat} {e : TypeId} {size k : Nat} {v : Value} {xs : List Value} (hr : W.ownsRow base e size v k xs) (he : e ≠ t) :
    ((((W.setCell ⟨R, 0, none⟩ x).setCell ⟨R, 1, none⟩ y).setCell ⟨R, 2, none⟩ z).setCell ⟨R, 3, none⟩ u).ownsRow base e size v k xs :=
  row_set (((h.set (j := 0) x).set (j := 1) y).set (j := 2) z) (row_set ((h.set (j := 0) x).set (j := 1) y) (row_set (h.set (j := 0) x) (row_set h hr he 0 x) he 1 y) he 2 z) he 3 u
theorem setFour_other {W : World} {R b' : Nat} {t : TypeId} {cs : Array Value} (h : Cells W b' t cs) (hne : b' ≠ R) (x y z u : Value) : Cells ((((W.setCell ⟨R, 0, none⟩ x).setCell ⟨R, 1, none⟩ y).setCell ⟨R, 2, none⟩ z).setCell ⟨R, 3, none⟩ u) b' t cs :=
  (((h.other hne x).other hne y).other hne z).other hne u
theorem setFour_below {B R : Nat} {w W : World} (h : Below B w W) (hR : B ≤ R) (x y z u : Value) : Below B w ((((W.setCell ⟨R, 0, none⟩ x).setCell ⟨R, 1, none⟩ y).setCell ⟨R, 2, none⟩ z).setCell ⟨R, 3, none⟩ u) :=
  (((h.setCell (p := ⟨R, 0, none⟩) hR x).setCell (p := ⟨R, 1, none⟩) hR y).setCell (p := ⟨R, 2, none⟩) hR z).setCell (p := ⟨R, 3, none⟩) hR u
/-- What stands while an operation is read. -/
structure OpFr (w W : World) (R : Nat) (bx : Array Value) (dv uv kv : SlV) (tie : Int) (d k : List Int) : Prop where
  below : Below w.heap.size w W
  far : w.heap.size + 2 ≤ R
  box : Cells W w.heap.size 51 bx
  res : Cells W (w.heap.size + 1) 73 #[.slice none 0 0, .slice none 0 0, .int .i64 0, .slice none 0 0]
  read : Cells W R 73 #[.slice dv.a dv.n dv.c, .slice uv.a uv.n uv.c, .int .i64 tie, .slice kv.a kv.n kv.c]
  d : IntsR W dv d
  k : IntsR W kv k
theorem OpFr.step {w W W' : World} {R : Nat} {bx : Array Value} {dv uv kv : SlV} {tie : Int} {d k : List Int} (h : OpFr w W R bx dv uv kv tie d k) (hb : Below W.heap.size W W') : OpFr w W' R bx dv uv kv tie d k :=
  ⟨h.below.trans (hb.mono h.below.size), h.far, h.box.below hb h.box.lt, h.res.below hb h.res.lt, h.read.below hb h.read.lt, h.d.below hb, h.k.below hb⟩
/-- The uses read so far, and all numbers together. -/
structure UsesInv (w W : World) (uv wd dv kv : SlV) (ls : List (List Int)) (wl : List Int) (vs : List SlV) : Prop where
  len : vs.length = ls.length
  urow : W.ownsRow w.heap.size 55 1 uv.v ls.length (vs.map SlV.v)
  each : ∀ (i : Nat) v l, vs[i]? = some v → ls[i]? = some l → IntsR W v l ∧ l.length ≤ 1000 ∧ (v.a = none → v.c = 0) ∧ ApartS v wd
  wrow : W.ownsRow w.heap.size 3 1 wd.v wl.length (wl.map (Value.int .i64))
  da : ApartS dv wd
  ka : ApartS kv wd
theorem UsesInv.step {w W W' : World} {uv wd dv kv : SlV} {ls : List (List Int)} {wl : List Int} {vs : List SlV} (h : UsesInv w W uv wd dv kv ls wl vs) (hb : Below W.heap.size W W') : UsesInv w W' uv wd dv kv ls wl vs :=
  ⟨h.len, ownsRow_below h.urow hb, fun i v l hv hl => ⟨(h.each i v l hv hl).1.below hb, (h.each i v l hv hl).2⟩, ownsRow_below h.wrow hb, h.da, h.ka⟩
theorem flatten_len : ∀ {ls : List (List Int)}, (∀ l, l ∈ ls → l.length ≤ 1000) → ls.flatten.length ≤ 1000 * ls.length
  | [], _ => by simp
  | l :: ls, h => by
    have h1 := h l (by simp)
    have h2 := flatten_len (ls := ls) (fun x hx => h x (by simp [hx]))
    simp only [List.flatten_cons, List.length_append, List.length_cons]; omega
theorem UsesInv.flat {w W : World} {uv wd dv kv : SlV} {ls : List (List Int)} {wl : List Int} {vs : List SlV} (h : UsesInv w W uv wd dv kv ls wl vs) : ls.flatten.length ≤ 1000 * ls.length :=
  flatten_len fun l hl => by
    obtain ⟨i, hi⟩ := List.getElem?_of_mem hl
    have hi2 : i < vs.length := by rw [h.len]; exact (List.getElem?_eq_some_iff.1 hi).1
    exact (h.each i vs[i] l (List.getElem?_eq_getElem hi2) hi).2.1
theorem uses_step {w W12 W14 W15 : World} {R : Nat} {bx : Array Value} {dv uv uv' kv wd wd' s : SlV} {tie : Int} {d k l wl : List Int} {ls : List (List Int)} {vs : List SlV} {tmp : Obj}
    (hF : OpFr w W12 R bx dv uv kv tie d k) (hU : UsesInv w W12 uv wd dv kv ls wl vs) (hs : IntsR W12 s l) (hl : l.length ≤ 1000) (hz : s.a = none → s.c = 0) (ha : ApartS s wd)
    (hg1 : (W12.alloc tmp).grownBy W14 uv.v.ownBlock) (ho1 : W14.ownsRow w.heap.size 55 1 uv'.v (ls.length + 1) (vs.map SlV.v ++ [s.v]))
    (hg2 : W14.grownBy W15 wd.v.ownBlock) (ho2 : W15.ownsRow w.heap.size 3 1 wd'.v (wl.length + l.length) (wl.map (Value.int .i64) ++ l.map (Value.int .i64))) (hb2 : wd'.v.ownBlock = wd.v.ownBlock ∨ wd'.v.ownBlock = some W14.heap.size) :
    OpFr w (W15.setCell ⟨R, 1, none⟩ uv'.v) R bx dv uv' kv tie d k ∧ UsesInv w (W15.setCell ⟨R, 1, none⟩ uv'.v) uv' wd' dv kv (ls ++ [l]) (wl ++ l) (vs ++ [s]) := by
  have hu13 := hU.urow.alloc tmp
  have hw14 := row_kept (hU.wrow.alloc tmp) hu13 hg1 (by decide)
  have hz12 : W12.heap.size ≤ W14.heap.size := Nat.le_trans (by simp) hg1.size
  have hR : w.heap.size ≤ R := by have := hF.far; omega
  have kept : ∀ {b : Nat} {t : TypeId} {cs : Array Value}, Cells W12 b t cs → t ≠ 55 → t ≠ 3 → Cells W15 b t cs := fun h h1 h2 => ((h.alloc tmp).kept_row hu13 hg1 h1).kept_row hw14 hg2 h2
  have hrd := kept hF.read (by decide) (by decide)
  have ints : ∀ {v : SlV} {li : List Int}, IntsR W12 v li → ApartS v wd → IntsR (W15.setCell ⟨R, 1, none⟩ uv'.v) v li := fun h hap => by
    have h13 : IntsR (W12.alloc tmp) _ _ := World.ownsRow.alloc h tmp
    have h14 : IntsR W14 _ _ := row_kept h13 hu13 hg1 (by decide)
    exact row_set hrd (h14.kept hg2 hap) (by decide) 1 uv'.v
  have apart : ∀ {v : SlV} {li : List Int}, IntsR W12 v li → ApartS v wd → ApartS v wd' := fun h hap b hb e => by
    rcases hb2 with h2 | h2
    · rw [h2] at e; exact hap b hb e
    · rw [h2] at e
      have := h.lt hb
      cases e; omega
  have hB : Below w.heap.size w (W15.setCell ⟨R, 1, none⟩ uv'.v) := by
    have hw := hF.below.size
    have b14 : Below w.heap.size w W14 := (hF.below.alloc hw tmp).grown hg1 (by simp; omega) (fun i e => (ownsRow_block hU.urow e).1)
    have b15 : Below w.heap.size w W15 := b14.grown hg2 (by omega) (fun i e => (ownsRow_block hU.wrow e).1)
    exact b15.setCell (p := ⟨R, 1, none⟩) hR uv'.v
  have hne0 : w.heap.size ≠ R := by have := hF.far; omega
  have hne1 : w.heap.size + 1 ≠ R := by have := hF.far; omega
  refine ⟨⟨hB, hF.far, (kept hF.box (by decide) (by decide)).other hne0 _, (kept hF.res (by decide) (by decide)).other hne1 _, ?_, ints hF.d hU.da, ints hF.k hU.ka⟩, ⟨?_, ?_, ?_, ?_, apart hF.d hU.da, apart hF.k hU.ka⟩⟩
  · have := hrd.set (j := 1) uv'.v
    simpa [SlV.v] using this
  · rw [List.length_append, List.length_append, hU.len]; rfl
  · rw [List.length_append, List.map_append]
    exact row_set hrd (row_kept ho1 hw14 hg2 (by decide)) (by decide) 1 uv'.v
  · intro i v li hv hli
    by_cases hi : i < ls.length
    · rw [List.getElem?_append_left (by rw [hU.len]; exact hi)] at hv
      rw [List.getElem?_append_left hi] at hli
      obtain ⟨h1, h2, h3, h4⟩ := hU.each i v li hv hli
      exact ⟨ints h1 h4, h2, h3, apart h1 h4⟩
    · rw [List.getElem?_append_right (by rw [hU.len]; omega), hU.len] at hv
      rw [List.getElem?_append_right (by omega)] at hli
      have hi0 : i - ls.length = 0 := by
        have := (List.getElem?_eq_some_iff.1 hli).1
        simp at this; omega
      rw [hi0] at hv hli
      cases hv
      cases hli
      exact ⟨ints hs ha, hl, hz, apart hs ha⟩
  · rw [List.length_append, List.map_append]
    exact row_set hrd ho2 (by decide) 1 uv'.v
/-- An operation as it is read, in memory. -/
structure OpVR (W : World) (dv uv kv : SlV) (o : OpR) : Prop where
  d : IntsR W dv o.d
  dn : o.d.length ≤ 1000
  dz : dv.a = none → dv.c = 0
  uses : ListsR W uv o.uses
  clob : IntsR W kv o.clob
  cn : o.clob.length ≤ 1000
theorem choice_mem {ns : List ByteArray} {cs : List ClassD} {o : OperD} {x : Int} (hx : x ∈ choiceS ns cs o) : ∃ l, l ∈ clsOf ns cs ∧ x ∈ l := by
  unfold choiceS at hx
  cases hf : cs.findIdx? (fun x => eqB x.name o.cls) with
  | none => rw [hf] at hx; cases hx
  | some k =>
    rw [hf] at hx
    have hk : k < (clsOf ns cs).length := by unfold clsOf; rw [List.length_map]; exact (List.findIdx?_eq_some_iff_getElem.1 hf).1
    have hg : (clsOf ns cs).getD k [] = (clsOf ns cs)[k] := by rw [List.getD_eq_getElem?_getD, List.getElem?_eq_getElem hk]; rfl
    simp only [hg] at hx
    refine ⟨(clsOf ns cs)[k], List.getElem_mem hk, ?_⟩
    split at hx
    · exact hx
    · split at hx
      · rename_i _ h
        have : x = regN ns o.fix := by simpa using hx
        rw [this]; simpa using h
      · cases hx
def ReadOpPost (w : World) (o : OpR) (e : Ending) (w' : World) : Prop :=
  ∃ dv uv kv : SlV, e = .returned (.tuple #[.agg #[.slice dv.a dv.n dv.c, .slice uv.a uv.n uv.c, .int .i64 o.tie, .slice kv.a kv.n kv.c], .bool true]) ∧ Below w.heap.size w w' ∧ OpVR w' dv uv kv o
set_option maxRecDepth 100000 in
set_option maxHeartbeats 8000000 in
theorem readOp_ok [Inhabited Ghost] (C : Nat) (c : CV) (ns : List ByteArray) (ps : List Plc) (cs : List ClassD) (o : OpD) (u kk : SlV) (w0 w : World) (hS : St w0 w C c ns ps) (hK : ClassesAt w0 c.m.classes cs) (hkb : c.m.classes.n ≤ 64) (hL : ListsO w0 w c.classes (clsOf ns cs)) (hnum : ∀ l, l ∈ clsOf ns cs → ∀ x, x ∈ l → Num ps x)
    (hu : OpersAt w u o.uses) (hkk : StrsAt w kk o.clob) (hf : opFine ns ps cs o = true) (hub : o.uses.length ≤ 2) :
    Calls Tryz.prog 52 #[.pointer (some ⟨C, 0, none⟩), .agg #[.string o.name, .string o.d.cls, .string o.d.fix, .slice u.a u.n u.c, .int .i64 o.tie, .slice kk.a kk.n kk.c]] w (ReadOpPost w (opR ns cs o)) := by
  obtain ⟨nm, ⟨dc, df⟩, us, tie, cl⟩ := o
  obtain ⟨ua, un, uc⟩ := u
  obtain ⟨ka, kn, kc⟩ := kk
  unfold opFine at hf
  simp only [Bool.and_eq_true, decide_eq_true_eq] at hf
  obtain ⟨⟨⟨⟨⟨⟨hf1, hf2⟩, hf3⟩, hf4⟩, hf5⟩, hf6⟩, hf7⟩ := hf
  have hun := hu.1
  have huc := hu.2.1
  dsimp only at hun huc hf1 hf2 hf3 hf4 hf5 hf6 hf7 hu hub ⊢
  have hb0 : Below w.heap.size w (w.alloc (.cells #[.string nm, .string dc, .string df, .slice ua un uc, .int .i64 tie, .slice ka kn kc] 51)) := (Below.refl _ _).alloc (Nat.le_refl _) _
  have hb1 : Below w.heap.size w ((w.alloc (.cells #[.string nm, .string dc, .string df, .slice ua un uc, .int .i64 tie, .slice ka kn kc] 51)).alloc (.cells #[.slice none 0 0, .slice none 0 0, .int .i64 0, .slice none 0 0] 73)) := hb0.alloc (by simp) _
  have Ka : ∀ W, Calls Tryz.prog 49 #[.string nm] W fun e w' => e = .returned (.int .i64 un) ∧ W = w' := fun W => (arity_any nm W).mono fun e w' ⟨he, hw⟩ => ⟨by rw [he]; exact ret_int (by omega), hw⟩
  have Kt : ∀ W, Below w.heap.size w W → Calls Tryz.prog 90 #[.agg #[.string nm, .string dc, .string df, .slice ua un uc, .int .i64 tie, .slice ka kn kc]] W fun e w' => e = .returned (.bool true) ∧ Below W.heap.size W w' := fun W hb => by
    have := tieCanBe_any ⟨nm, ⟨dc, df⟩, us, tie, cl⟩ ⟨ua, un, uc⟩ ⟨ka, kn, kc⟩ W (hu.below hb) (by show un < _; omega)
    rw [hf2] at this; exact this
  have hok2 : cl.length ≤ 64 ∧ (regsL ns cl).contains (-1) = false := by unfold regsOk at hf3; simpa using hf3
  have Kg : ∀ W, Below w.heap.size w W → Calls Tryz.prog 46 #[.pointer (some ⟨C, 0, none⟩), .slice ka kn kc, .int .i64 64] W fun e w' => ∃ s : SlV, e = .returned (.tuple #[.slice s.a s.n s.c, .bool true]) ∧ Below W.heap.size W w' ∧ IntsR w' s (regsL ns cl) := fun W hb =>
    (regs_any C _ ns ⟨ka, kn, kc⟩ cl 64 W (by decide) (by decide) (hS.step hb).chk (hS.step hb).namesAt (hkk.below hb)).mono fun e w' ⟨s, he, hbl, hown⟩ => by
      refine ⟨s, by rw [he, show (64 : Int).toNat = 64 from rfl, hf3], hbl, ?_⟩
      have := hown (by have := hok2.1; omega)
      have el : cl.length = (regsL ns cl).length := by simp [regsL]
      rw [el] at this
      exact ownsRow_mono this (Nat.zero_le _)
  have Kw : ∀ W s, IntsR W s (regsL ns cl) → Calls Tryz.prog 47 #[.slice s.a s.n s.c] W fun e w' => e = .returned (.bool false) ∧ W = w' := fun W s hI => by
    have := twice_any s _ W hI.at_ (by have := hI.len; have := hok2.1; simp [regsL] at *; omega)
    rw [show twiceFrom [] (regsL ns cl) = false by simpa using hf4] at this; exact this
  have Kc : ∀ (oo : OperD) W, Below w.heap.size w W → Calls Tryz.prog 91 #[.pointer (some ⟨C, 0, none⟩), .agg #[.string oo.cls, .string oo.fix]] W (ChoicePost w W (choiceS ns cs oo)) := fun oo W hb =>
    choice_any C c ns cs oo w W (hS.step hb).chk (hS.step hb).namesAt (hK.below (hS.step hb).below) hkb hL.lists hb
  have hS' := Lib.hid hS
  replace hun := Lib.hid hun
  clear hS hK hL hf1 hf2 hf3 hf4 hkk
  go_enter Tryz.func52, Tryz.ntmps52
  go_wp2_with fail
  go_region_held3 (fun w' => w'.cell? ⟨w.heap.size, 0, none⟩ = some (.string nm) ∧ w'.cell? ⟨w.heap.size, 1, none⟩ = some (.string dc) ∧ w'.cell? ⟨w.heap.size, 2, none⟩ = some (.string df) ∧ w'.cell? ⟨w.heap.size, 3, none⟩ = some (.slice ua un uc) ∧ w'.cell? ⟨w.heap.size, 4, none⟩ = some (.int .i64 tie) ∧ w'.cell? ⟨w.heap.size, 5, none⟩ = some (.slice ka kn kc))
    (go_keep)
    ((first
      | (go_at_call 49; refine (Ka _).mono ?_; clear Ka; rintro e W1 ⟨rfl, rfl⟩)
      | (go_at_call 90; refine (Kt _ hb1.drew).mono ?_; clear Kt; rintro e W1 ⟨rfl, hbt⟩; have hA1 := hb1.drew.trans (hbt.mono (by simp; omega)); have k0 : W1.cell? ⟨w.heap.size, 0, none⟩ = some (.string nm) := cell_below hbt (by first | assumption | (simp [*]; done)); have k1 : W1.cell? ⟨w.heap.size, 1, none⟩ = some (.string dc) := cell_below hbt (by first | assumption | (simp [*]; done)); have k2 : W1.cell? ⟨w.heap.size, 2, none⟩ = some (.string df) := cell_below hbt (by first | assumption | (simp [*]; done)); have k3 : W1.cell? ⟨w.heap.size, 3, none⟩ = some (.slice ua un uc) := cell_below hbt (by first | assumption | (simp [*]; done)); have k4 : W1.cell? ⟨w.heap.size, 4, none⟩ = some (.int .i64 tie) := cell_below hbt (by first | assumption | (simp [*]; done)); have k5 : W1.cell? ⟨w.heap.size, 5, none⟩ = some (.slice ka kn kc) := cell_below hbt (by first | assumption | (simp [*]; done)))))
  go_wp2_with (first
    | (go_at_call 46; refine (Kg _ hA1).mono ?_; clear Kg; rintro e W2 ⟨kv, rfl, hb2, hI2⟩; have hA2 := hA1.trans (hb2.mono hA1.size); have m0 := cell_below hb2 k0; have m1 := cell_below hb2 k1; have m2 := cell_below hb2 k2; have m3 := cell_below hb2 k3; have m4 := cell_below hb2 k4; clear k0 k1 k2 k3 k4 k5; have Kw' := Kw _ _ hI2)
    | (go_at_call 47; refine Kw'.mono ?_; clear Kw'; rintro e W3 ⟨rfl, rfl⟩))
  have hsz2 : w.heap.size + 2 ≤ W2.heap.size := by
    have h1 := hbt.size
    have h2 := hb2.size
    simp at h1; omega
  have hBx2 : Cells W2 w.heap.size 51 #[.string nm, .string dc, .string df, .slice ua un uc, .int .i64 tie, .slice ka kn kc] := by
    have h0 := (Cells.new w 51 #[.string nm, .string dc, .string df, .slice ua un uc, .int .i64 tie, .slice ka kn kc]).alloc (.cells #[.slice none 0 0, .slice none 0 0, .int .i64 0, .slice none 0 0] 73)
    exact (((Cells.drew h0).below hbt (by simp; omega)).below hb2 (by have := hbt.size; simp at this; omega))
  have hRs2 : Cells W2 (w.heap.size + 1) 73 #[.slice none 0 0, .slice none 0 0, .int .i64 0, .slice none 0 0] := by
    have h0 := Cells.new (w.alloc (.cells #[.string nm, .string dc, .string df, .slice ua un uc, .int .i64 tie, .slice ka kn kc] 51)) 73 #[.slice none 0 0, .slice none 0 0, .int .i64 0, .slice none 0 0]
    rw [World.size_alloc] at h0
    exact (((Cells.drew h0).below hbt (by simp)).below hb2 (by have := hbt.size; simp at this; omega))
  have nb : W2.heap.size ≠ w.heap.size := by omega
  have nb1 : W2.heap.size ≠ w.heap.size + 1 := by omega
  go_region_held3 (fun w' => w'.cell? ⟨w.heap.size, 1, none⟩ = some (.string dc) ∧ w'.cell? ⟨w.heap.size, 2, none⟩ = some (.string df) ∧ w'.cell? ⟨w.heap.size, 4, none⟩ = some (.int .i64 tie))
    (go_keep)
    ((go_at_call 91; refine (Kc ⟨dc, df⟩ _ (by first | exact hA2.drew | exact (hA2.drew).alloc (by have := hA2.size; simp; omega) _)).mono ?_; rintro e W4 ⟨dv, rfl, hb4, hI4, hd4, hz4, ha4⟩; obtain ⟨hc4, hf4⟩ := bcell hb4; have hs4 := hb4.size; have k1 : W4.cell? ⟨w.heap.size, 1, none⟩ = some (.string dc) := cell_below hb4 (by first | assumption | (simp [*]; done)); have k2 : W4.cell? ⟨w.heap.size, 2, none⟩ = some (.string df) := cell_below hb4 (by first | assumption | (simp [*]; done)); have k4 : W4.cell? ⟨w.heap.size, 4, none⟩ = some (.int .i64 tie) := cell_below hb4 (by first | assumption | (simp [*]; done))))
  all_goals
    first
      | (have hFr : OpFr w (W4.alloc (.cells #[.slice dv.a dv.n dv.c, .slice none 0 0, .int .i64 tie, .slice kv.a kv.n kv.c] 73)) W4.heap.size #[.string nm, .string dc, .string df, .slice ua un uc, .int .i64 tie, .slice ka kn kc] dv ⟨none, 0, 0⟩ kv tie (choiceS ns cs ⟨dc, df⟩) (regsL ns cl) := by
           have hbA : Below W2.heap.size W2 W4 := ((Below.refl W2.heap.size W2).drew).trans hb4
           have hal : Below W4.heap.size W4 (W4.alloc (.cells #[.slice dv.a dv.n dv.c, .slice none 0 0, .int .i64 tie, .slice kv.a kv.n kv.c] 73)) := (Below.refl _ _).alloc (Nat.le_refl _) _
           exact ⟨(hA2.trans (hbA.mono hA2.size)).trans (hal.mono (Nat.le_trans hA2.size hbA.size)), Nat.le_trans hsz2 hbA.size, (hBx2.below hbA hBx2.lt).below hal (Nat.lt_of_lt_of_le hBx2.lt hbA.size), (hRs2.below hbA hRs2.lt).below hal (Nat.lt_of_lt_of_le hRs2.lt hbA.size), Cells.new W4 _ _, hI4.below hal, (hI2.below hbA).below hal⟩
         clear hb4 hI4 ha4 k1 k2 k4 hc4 hf4 hs4
         generalize W4.alloc (.cells #[.slice dv.a dv.n dv.c, .slice none 0 0, .int .i64 tie, .slice kv.a kv.n kv.c] 73) = W5 at hFr ⊢
         generalize W4.heap.size = R at hFr ⊢)
      | (have hFr : OpFr w ((((W4.setCell ⟨W2.heap.size, 0, none⟩ (.slice dv.a dv.n dv.c)).setCell ⟨W2.heap.size, 1, none⟩ (.slice none 0 0)).setCell ⟨W2.heap.size, 2, none⟩ (.int .i64 tie)).setCell ⟨W2.heap.size, 3, none⟩ (.slice kv.a kv.n kv.c)) W2.heap.size #[.string nm, .string dc, .string df, .slice ua un uc, .int .i64 tie, .slice ka kn kc] dv ⟨none, 0, 0⟩ kv tie (choiceS ns cs ⟨dc, df⟩) (regsL ns cl) := by
           have hbB : Below W2.heap.size W2 W4 := (((Below.refl W2.heap.size W2).drew).alloc (Nat.le_refl _) _).trans (hb4.mono (by simp))
           have hn := (Cells.new W2.drew 73 #[.slice none 0 0, .slice none 0 0, .int .i64 0, .slice none 0 0]).below hb4 (by simp)
           exact ⟨setFour_below (hA2.trans (hbB.mono hA2.size)) hA2.size _ _ _ _, hsz2, setFour_other (hBx2.below hbB hBx2.lt) nb.symm _ _ _ _, setFour_other (hRs2.below hbB hRs2.lt) nb1.symm _ _ _ _, setFour hn _ _ _ _, setFour_row hn _ _ _ _ hI4 (by decide), setFour_row hn _ _ _ _ (hI2.below hbB) (by decide)⟩
         clear hb4 hI4 ha4 k1 k2 k4 hc4 hf4 hs4
         generalize ((((W4.setCell ⟨W2.heap.size, 0, none⟩ (.slice dv.a dv.n dv.c)).setCell ⟨W2.heap.size, 1, none⟩ (.slice none 0 0)).setCell ⟨W2.heap.size, 2, none⟩ (.int .i64 tie)).setCell ⟨W2.heap.size, 3, none⟩ (.slice kv.a kv.n kv.c)) = W5 at hFr ⊢
         generalize W2.heap.size = R at hFr ⊢)
    have Kcl := cloneInts dv _ W5 hFr.d.at_ (by have := hFr.d.len; omega) hz4
    have d0 := hFr.read.cell (j := 0) (v := .slice dv.a dv.n dv.c) rfl
    clear nb nb1 hsz2 hBx2 hRs2 hA1 hA2 hbt hb2 hI2 m0 m1 m2 m3 m4 Kw hb0 hb1
    go_wp2_with (go_at_call 72; refine Kcl.mono ?_; clear Kcl; rintro e W6 ⟨wd, rfl, hwd, hb6⟩; have hF6 := hFr.step hb6; have bx3 := hF6.box.cell (j := 3) (v := .slice ua un uc) rfl)
    have hU6 : UsesInv w W6 ⟨none, 0, 0⟩ wd dv kv [] (choiceS ns cs ⟨dc, df⟩) [] := ⟨rfl, World.ownsRow_nil _ _ _ _, fun i v l hv _ => by simp at hv, ownsRow_mono hwd hFr.below.size, ApartS.fresh hFr.d (fun b hb => (ownsRow_block hwd hb).1), ApartS.fresh hFr.k (fun b hb => (ownsRow_block hwd hb).1)⟩
    clear hwd d0 hb6 bx3
    have hFr2 := Lib.hid hF6
    replace hU6 := Lib.hid hU6
    clear hFr hF6
    have un0 : (0 : Int) ≤ un := Int.natCast_nonneg _
    go_loopw [54, 9, 7] (fun i s9 s7 wr => ∃ (k : Nat) (uv wd : SlV) (vs : List SlV), k ≤ un ∧ i = .int .i64 k ∧ s9 = .slice wd.a wd.n wd.c ∧ s7 = .bool true ∧ OpFr w wr R #[.string nm, .string dc, .string df, .slice ua un uc, .int .i64 tie, .slice ka kn kc] dv uv kv tie (choiceS ns cs ⟨dc, df⟩) (regsL ns cl) ∧
      UsesInv w wr uv wd dv kv ((us.take k).map (choiceS ns cs)) (choiceS ns cs ⟨dc, df⟩ ++ ((us.take k).map (choiceS ns cs)).flatten) vs) (fun i _ _ _ => un - (intOf i).toNat)
    case atStart => exact ⟨0, ⟨none, 0, 0⟩, wd, [], Nat.zero_le _, rfl, rfl, rfl, hFr2.out, by simpa using hU6.out⟩
    case round =>
      clear hFr2 hU6
      obtain ⟨k, uv, wd', vs, hk, rfl, rfl, rfl, hF, hU⟩ := hrel
      have k0 : (0 : Int) ≤ k := Int.natCast_nonneg _
      by_cases hlt : k < un
      · have hku : k < us.length := by have := hun.out; omega
        obtain ⟨x, hx⟩ : ∃ x, us[k]? = some x := ⟨us[k], List.getElem?_eq_getElem hku⟩
        obtain ⟨b, of, rfl, x0, x1⟩ := hu.2.2 k x hx
        replace x0 := cell_below hF.below x0
        replace x1 := cell_below hF.below x1
        have k1 : (k : Int) < un := by omega
        have hi : IntKind.i64.wrap ((k : Int) + 1) = k + 1 := IntWalk.i64_in _ (by omega)
        have hne : choiceS ns cs x ≠ [] := by
          have := List.all_eq_true.1 hf5 x (List.mem_of_getElem? hx)
          simpa using this
        have hbal : Below wr.heap.size wr (wr.alloc (.cells #[.string x.cls, .string x.fix] 48)) := (Below.refl _ _).alloc (Nat.le_refl _) _
        have K := Kc x (wr.alloc (.cells #[.string x.cls, .string x.fix] 48)) (hF.below.trans (hbal.mono hF.below.size))
        have htake : Hid ((us.take (k + 1)).map (choiceS ns cs) = (us.take k).map (choiceS ns cs) ++ [choiceS ns cs x]) := Lib.hid (by rw [List.take_add_one, hx, List.map_append]; rfl)
        have hlen : Hid (((us.take k).map (choiceS ns cs)).length = k) := Lib.hid (by rw [List.length_map, List.length_take]; omega)
        obtain ⟨xc, xf⟩ := x
        dsimp only at x0 x1 K hbal
        generalize choiceS ns cs ⟨xc, xf⟩ = l at K hne htake
        have hF' := Lib.hid hF
        have hU' := Lib.hid hU
        replace hne := Lib.hid hne
        clear hx hF hU
        obtain ⟨i0, hi0, hz0, hz1, hz2⟩ := info_parts Tryz.infoSl
        obtain ⟨j0, hj0, hj1, hj2, hj3⟩ := info_parts Tryz.infoInt
        go_wp2_with fail
        go_at_call 91
        refine K.mono ?_
        clear K
        rintro e W12 ⟨s, rfl, hbc, hIs, hls, hzs, has⟩
        have hbW : Below wr.heap.size wr W12 := hbal.trans (hbc.mono (by simp))
        have hF12 := hF'.out.step hbW
        have hU12 := hU'.out.step hbW
        have hap : ApartS s wd' := fun b' hb' e' => by
          obtain ⟨h1, cur, h2⟩ := ownsRow_block hU'.out.wrow e'
          have h3 := h2.lt
          rcases has b' hb' with h | h
          · omega
          · simp at h; omega
        obtain ⟨g, hsa⟩ : ∃ g, s.a = some ⟨g, 0, none⟩ := by
          rcases hIs.2 with ⟨_, h2⟩ | ⟨g, cap, cur, h1, _⟩
          · exact absurd (List.length_eq_zero_iff.1 h2) hne.out
          · unfold SlV.v at h1; injection h1 with ea; exact ⟨g, ea⟩
        have hsn := hIs.len
        obtain ⟨sa, sn, sc⟩ := s
        dsimp only at hsa hsn
        subst hsa hsn
        have hur := hU12.urow
        rw [hlen.out] at hur
        have hwr := hU12.wrow
        have hwl1 : (choiceS ns cs ⟨dc, df⟩ ++ ((us.take k).map (choiceS ns cs)).flatten).length ≤ 100000 := by
          have h1 := hU12.flat
          have h2 := hlen.out
          rw [List.length_append]; omega
        generalize hwl : choiceS ns cs ⟨dc, df⟩ ++ ((us.take k).map (choiceS ns cs)).flatten = wl at hU12 hwr hwl1
        have hwlen := (IntsAt.of_row hwr rfl).1
        have r1 := hF12.read.cell (j := 1) (v := .slice uv.a uv.n uv.c) rfl
        have hbs := hF12.below.size
        have hlpos : 0 < l.length := List.length_pos_iff.2 hne.out
        have hlpos2 : (0 : Int) < l.length := by omega
        replace hF12 := Lib.hid hF12
        replace hU12 := Lib.hid hU12
        replace hwl := Lib.hid hwl
        replace hIs := Lib.hid hIs
        replace hap := Lib.hid hap
        clear hF' hU' hwlen has hbc hbW hbal x0 x1
        go_wp2_with (first
          | (at_builtin; refine wpList_append_own_at _ rfl _ _ 53 rfl w.heap.size 55 i0 _ 1 24 Tryz.underlying53 hi0 hz0 hz1 hz2 rfl (by decide) _ k (vs.map SlV.v) rfl (hur.alloc _) ⟨W12.heap.size, 0, none⟩ 1 1 [.slice (some ⟨g, 0, none⟩) l.length sc] rfl rfl (new_cells _ _ _ _ rfl) (by simp [Value.oneCell']) (by unfold maxLen; omega) (by omega) (by simp; omega) ?_; intro v1 W14 hown1 hgrow1 _ hblk1; obtain ⟨g1, cap1, rfl⟩ := ownsRow_succ hown1; have hwr14 := row_kept (hwr.alloc (.cells #[.slice (some ⟨g, 0, none⟩) l.length sc] 55)) (hur.alloc (.cells #[.slice (some ⟨g, 0, none⟩) l.length sc] 55)) hgrow1 (by decide); have hI14 : IntsR W14 ⟨some ⟨g, 0, none⟩, l.length, sc⟩ l := row_kept (World.ownsRow.alloc hIs.out (.cells #[.slice (some ⟨g, 0, none⟩) l.length sc] 55)) (hur.alloc (.cells #[.slice (some ⟨g, 0, none⟩) l.length sc] 55)) hgrow1 (by decide); have hz14 := hgrow1.size)
          | (at_builtin; refine wpList_append_own_at _ rfl _ _ 55 rfl w.heap.size 3 j0 _ 1 8 Tryz.underlying55 hj0 hj1 hj2 hj3 rfl (by decide) wd'.v wl.length (wl.map (Value.int .i64)) rfl hwr14 ⟨g, 0, none⟩ l.length sc (l.map (Value.int .i64)) rfl (by simp) (World.ownsRow.cells hI14 rfl) (fun u hu => by obtain ⟨y, _, rfl⟩ := List.mem_map.1 hu; rfl) (by unfold maxLen; omega) (by omega) (by simp at hz14; omega) ?_; intro v2 W15 hown2 hgrow2 _ hblk2; obtain ⟨a2, c2, rfl⟩ := ownsRow_form hown2; have hR15 := ((hF12.out.read.alloc (.cells #[.slice (some ⟨g, 0, none⟩) l.length sc] 55)).kept_row (hur.alloc (.cells #[.slice (some ⟨g, 0, none⟩) l.length sc] 55)) hgrow1 (by decide)).kept_row hwr14 hgrow2 (by decide); have r15 := hR15.cell (j := 1) (v := .slice uv.a uv.n uv.c) rfl; have f15 := hR15.frozen 1))
        have hst := uses_step (uv' := ⟨some ⟨g1, 0, none⟩, k + 1, cap1⟩) (wd' := ⟨a2, wl.length + l.length, c2⟩) (s := ⟨some ⟨g, 0, none⟩, l.length, sc⟩) hF12.out hU12.out hIs.out hls hzs hap.out hgrow1 (by rw [hlen.out]; exact hown1) hgrow2 hown2 hblk2
        refine ⟨⟨k + 1, ⟨some ⟨g1, 0, none⟩, k + 1, cap1⟩, ⟨a2, wl.length + l.length, c2⟩, vs ++ [⟨some ⟨g, 0, none⟩, l.length, sc⟩], by omega, by go_num, rfl, rfl, hst.1, ?_⟩, by simp [intOf]; omega⟩
        have h := hst.2
        rw [htake.out, List.flatten_append, ← List.append_assoc, hwl.out, List.flatten_cons, List.flatten_nil, List.append_nil]
        exact h
      · obtain rfl : k = un := by omega
        have hus : us.take k = us := List.take_of_length_le (by have := hun.out; omega)
        rw [hus] at hU
        have Ko : ∀ W, Below wr.heap.size wr W → Calls Tryz.prog 48 #[.pointer (some ⟨C, 0, none⟩), .slice wd'.a wd'.n wd'.c] W fun e w' => e = .returned (.bool true) ∧ Below W.heap.size W w' := fun W hb => by
          have hSW := hS'.out.step (hF.below.trans (hb.mono hF.below.size))
          have hI := IntsAt.of_row (ownsRow_below hU.wrow hb) rfl
          have hfl := hU.flat
          have h1 := hI.1
          have h2 := hun.out
          have := oneWidth_any C c ps wd' _ W hSW.chk hSW.placesAt hI (by rw [h1, List.length_append]; rw [List.length_map] at hfl; omega) (fun x hx => by
            rcases List.mem_append.1 hx with hx | hx
            · obtain ⟨l, h1, h2⟩ := choice_mem hx
              exact hnum l h1 x h2
            · obtain ⟨l0, h1, h2⟩ := List.mem_flatten.1 hx
              obtain ⟨oo, _, rfl⟩ := List.mem_map.1 h1
              obtain ⟨l, h3, h4⟩ := choice_mem h2
              exact hnum l h3 x h4)
          rw [hf7] at this; exact this
        have r0 := hF.read.cell (j := 0) (v := .slice dv.a dv.n dv.c) rfl
        have r1 := hF.read.cell (j := 1) (v := .slice uv.a uv.n uv.c) rfl
        have r2 := hF.read.cell (j := 2) (v := .int .i64 tie) rfl
        have r3 := hF.read.cell (j := 3) (v := .slice kv.a kv.n kv.c) rfl
        have q0 := hF.res.cell (j := 0) (v := .slice none 0 0) rfl
        have q1 := hF.res.cell (j := 1) (v := .slice none 0 0) rfl
        have q2 := hF.res.cell (j := 2) (v := .int .i64 0) rfl
        have q3 := hF.res.cell (j := 3) (v := .slice none 0 0) rfl
        have g0 := hF.res.frozen 0
        have g1 := hF.res.frozen 1
        have g2 := hF.res.frozen 2
        have g3 := hF.res.frozen 3
        have nR : w.heap.size + 1 ≠ R := by have := hF.far; omega
        have hlt1 := hF.res.lt
        have hdl : 0 < dv.n := by
          have h1 := hF.d.len
          have h2 : choiceS ns cs ⟨dc, df⟩ ≠ [] := by simpa using hf6
          have := List.length_pos_iff.2 h2
          omega
        have hdl2 : (0 : Int) < dv.n := by omega
        have hF' := Lib.hid hF
        have hU' := Lib.hid hU
        clear hF hU hus
        go_wp2_with fail
        go_region_held3 (fun w' => w'.cell? ⟨R, 0, none⟩ = some (.slice dv.a dv.n dv.c) ∧ w'.cell? ⟨R, 1, none⟩ = some (.slice uv.a uv.n uv.c) ∧ w'.cell? ⟨R, 2, none⟩ = some (.int .i64 tie) ∧ w'.cell? ⟨R, 3, none⟩ = some (.slice kv.a kv.n kv.c))
          (go_keep)
          ((go_at_call 48; refine (Ko _ ((Below.refl _ _).drew)).mono ?_; clear Ko; rintro e W20 ⟨rfl, hb20⟩; have p0 : W20.cell? ⟨w.heap.size + 1, 0, none⟩ = some (.slice none 0 0) := cell_below hb20 (by first | assumption | (simp [*]; done)); have y0 : W20.frozen? ⟨w.heap.size + 1, 0, none⟩ = false := (hb20.frozen (p := ⟨w.heap.size + 1, 0, none⟩) hlt1).trans g0; have p1 : W20.cell? ⟨w.heap.size + 1, 1, none⟩ = some (.slice none 0 0) := cell_below hb20 (by first | assumption | (simp [*]; done)); have y1 : W20.frozen? ⟨w.heap.size + 1, 1, none⟩ = false := (hb20.frozen (p := ⟨w.heap.size + 1, 1, none⟩) hlt1).trans g1; have p2 : W20.cell? ⟨w.heap.size + 1, 2, none⟩ = some (.int .i64 0) := cell_below hb20 (by first | assumption | (simp [*]; done)); have y2 : W20.frozen? ⟨w.heap.size + 1, 2, none⟩ = false := (hb20.frozen (p := ⟨w.heap.size + 1, 2, none⟩) hlt1).trans g2; have p3 : W20.cell? ⟨w.heap.size + 1, 3, none⟩ = some (.slice none 0 0) := cell_below hb20 (by first | assumption | (simp [*]; done)); have y3 : W20.frozen? ⟨w.heap.size + 1, 3, none⟩ = false := (hb20.frozen (p := ⟨w.heap.size + 1, 3, none⟩) hlt1).trans g3; have k0 : W20.cell? ⟨R, 0, none⟩ = some (.slice dv.a dv.n dv.c) := cell_below hb20 (by first | assumption | (simp [*]; done)); have k1 : W20.cell? ⟨R, 1, none⟩ = some (.slice uv.a uv.n uv.c) := cell_below hb20 (by first | assumption | (simp [*]; done)); have k2 : W20.cell? ⟨R, 2, none⟩ = some (.int .i64 tie) := cell_below hb20 (by first | assumption | (simp [*]; done)); have k3 : W20.cell? ⟨R, 3, none⟩ = some (.slice kv.a kv.n kv.c) := cell_below hb20 (by first | assumption | (simp [*]; done))))
        have hbF : Below wr.heap.size wr W20 := ((Below.refl wr.heap.size wr).drew).trans hb20
        have hF20 := hF'.out.step hbF
        have hU20 := hU'.out.step hbF
        have hfin : Cells ((((W20.setCell ⟨w.heap.size + 1, 0, none⟩ (.slice dv.a dv.n dv.c)).setCell ⟨w.heap.size + 1, 1, none⟩ (.slice uv.a uv.n uv.c)).setCell ⟨w.heap.size + 1, 2, none⟩ (.int .i64 tie)).setCell ⟨w.heap.size + 1, 3, none⟩ (.slice kv.a kv.n kv.c)) (w.heap.size + 1) 73 #[.slice dv.a dv.n dv.c, .slice uv.a uv.n uv.c, .int .i64 tie, .slice kv.a kv.n kv.c] ∧ Below w.heap.size w ((((W20.setCell ⟨w.heap.size + 1, 0, none⟩ (.slice dv.a dv.n dv.c)).setCell ⟨w.heap.size + 1, 1, none⟩ (.slice uv.a uv.n uv.c)).setCell ⟨w.heap.size + 1, 2, none⟩ (.int .i64 tie)).setCell ⟨w.heap.size + 1, 3, none⟩ (.slice kv.a kv.n kv.c)) ∧
            OpVR ((((W20.setCell ⟨w.heap.size + 1, 0, none⟩ (.slice dv.a dv.n dv.c)).setCell ⟨w.heap.size + 1, 1, none⟩ (.slice uv.a uv.n uv.c)).setCell ⟨w.heap.size + 1, 2, none⟩ (.int .i64 tie)).setCell ⟨w.heap.size + 1, 3, none⟩ (.slice kv.a kv.n kv.c)) dv uv kv (opR ns cs ⟨nm, ⟨dc, df⟩, us, tie, cl⟩) := by
          refine ⟨setFour hF20.res _ _ _ _, setFour_below hF20.below (by omega) _ _ _ _, setFour_row hF20.res _ _ _ _ hF20.d (by decide), hd4, hz4, ⟨vs, hU20.len, ?_, fun i v l hv hl => ?_⟩, setFour_row hF20.res _ _ _ _ hF20.k (by decide), by have := hok2.1; simp [opR, regsL]; omega⟩
          · exact setFour_row hF20.res _ _ _ _ (ownsRow_mono hU20.urow (Nat.zero_le _)) (by decide)
          · obtain ⟨h1, h2, h3, _⟩ := hU20.each i v l hv hl
            exact ⟨setFour_row hF20.res _ _ _ _ h1 (by decide), h2, h3⟩
        clear k0 k1 k2 k3 p0 p1 p2 p3 y0 y1 y2 y3 hbF hF20 hU20 hb20
        generalize ((((W20.setCell ⟨w.heap.size + 1, 0, none⟩ (.slice dv.a dv.n dv.c)).setCell ⟨w.heap.size + 1, 1, none⟩ (.slice uv.a uv.n uv.c)).setCell ⟨w.heap.size + 1, 2, none⟩ (.int .i64 tie)).setCell ⟨w.heap.size + 1, 3, none⟩ (.slice kv.a kv.n kv.c)) = Wf at hfin ⊢
        obtain ⟨hCf, hBf, hVf⟩ := hfin
        have z0 := hCf.cell (j := 0) (v := .slice dv.a dv.n dv.c) rfl
        have z1 := hCf.cell (j := 1) (v := .slice uv.a uv.n uv.c) rfl
        have z2 := hCf.cell (j := 2) (v := .int .i64 tie) rfl
        have z3 := hCf.cell (j := 3) (v := .slice kv.a kv.n kv.c) rfl
        have hP : ReadOpPost w (opR ns cs ⟨nm, ⟨dc, df⟩, us, tie, cl⟩) (.returned (.tuple #[.agg #[.slice dv.a dv.n dv.c, .slice uv.a uv.n uv.c, .int .i64 tie, .slice kv.a kv.n kv.c], .bool true])) Wf := ⟨dv, uv, kv, rfl, hBf, hVf⟩
        replace hP := Lib.hid hP
        clear r0 r1 r2 r3 q0 q1 q2 q3 g0 g1 g2 g3 hCf hBf hVf hF' hU'
        go_wp2_with fail
        exact bodyPost_ret (v := .tuple #[.agg #[.slice dv.a dv.n dv.c, .slice uv.a uv.n uv.c, .int .i64 tie, .slice kv.a kv.n kv.c], .bool true]) (by simp [results, Tryz.results52, go_sem, z0, z1, z2, z3]) rfl hP.out
end Go.Proofs.YtfhllbnpkcgfdaaGreatDoor
/-! readOp where an operation has another number of uses, or a tie that can't be; readOps. -/
namespace Go.Proofs.YtfhllbnpkcgfdaaGreatDoor
open Go.RowKit
def ReadOpNo (w : World) (e : Ending) (w' : World) : Prop := e = .returned (.tuple #[.agg #[.slice none 0 0, .slice none 0 0, .int .i64 0, .slice none 0 0], .bool false]) ∧ Below w.heap.size w w'
set_option maxRecDepth 100000 in
set_option maxHeartbeats 2000000 in
theorem readOp_few (C : Nat) (o : OpD) (u kk : SlV) (w : World) (hu : u.n = o.uses.length) (hf : o.uses.length ≠ arityN o.name) :
    Calls Tryz.prog 52 #[.pointer (some ⟨C, 0, none⟩), .agg #[.string o.name, .string o.d.cls, .string o.d.fix, .slice u.a u.n u.c, .int .i64 o.tie, .slice kk.a kk.n kk.c]] w (ReadOpNo w) := by
  have hne : ((u.n : Int) != (arityN o.name : Int)) = true := by simp; omega
  have Ka := arity_any o.name
  generalize (arityN o.name : Int) = an at hne Ka
  have hne2 : ¬ (u.n : Int) = an := by simpa using hne
  have hP : ∀ W, Below w.heap.size w W → ReadOpNo w (.returned (.tuple #[.agg #[.slice none 0 0, .slice none 0 0, .int .i64 0, .slice none 0 0], .bool false])) W := fun W hb => ⟨rfl, hb⟩
  replace hP := Lib.hid hP
  clear hu hf
  go_enter Tryz.func52, Tryz.ntmps52
  go_wp2_with fail
  go_quiet ((go_at_call 49; exact Calls.quiet_of_same ((Ka _).mono fun _ _ ⟨he, hw⟩ => ⟨he, hw.symm⟩)))
  go_wp2_with fail
  exact bodyPost_ret (v := .tuple #[.agg #[.slice none 0 0, .slice none 0 0, .int .i64 0, .slice none 0 0], .bool false]) (by simp [results, Tryz.results52, go_sem]) rfl (hP.out _ (setFour_below (below_drewN (((Below.refl _ _).alloc (Nat.le_refl _) _).alloc (by simp) _) _) (by simp) _ _ _ _))
set_option maxRecDepth 100000 in
set_option maxHeartbeats 2000000 in
theorem readOp_untied (C : Nat) (o : OpD) (u kk : SlV) (w : World) (hu : OpersAt w u o.uses) (hub : u.n < 4611686018427387904) (hf : o.uses.length = arityN o.name) (ht : tieFine o = false) :
    Calls Tryz.prog 52 #[.pointer (some ⟨C, 0, none⟩), .agg #[.string o.name, .string o.d.cls, .string o.d.fix, .slice u.a u.n u.c, .int .i64 o.tie, .slice kk.a kk.n kk.c]] w (ReadOpNo w) := by
  obtain ⟨nm, ⟨dc, df⟩, us, tie, cl⟩ := o
  obtain ⟨ua, un, uc⟩ := u
  obtain ⟨ka, kn, kc⟩ := kk
  have hun := hu.1
  dsimp only at hun hf hu hub ⊢
  have hb0 : Below w.heap.size w (w.alloc (.cells #[.string nm, .string dc, .string df, .slice ua un uc, .int .i64 tie, .slice ka kn kc] 51)) := (Below.refl _ _).alloc (Nat.le_refl _) _
  have hb1 : Below w.heap.size w ((w.alloc (.cells #[.string nm, .string dc, .string df, .slice ua un uc, .int .i64 tie, .slice ka kn kc] 51)).alloc (.cells #[.slice none 0 0, .slice none 0 0, .int .i64 0, .slice none 0 0] 73)) := hb0.alloc (by simp) _
  have Ka : ∀ W, Calls Tryz.prog 49 #[.string nm] W fun e w' => e = .returned (.int .i64 un) ∧ W = w' := fun W => (arity_any nm W).mono fun e w' ⟨he, hw⟩ => ⟨by rw [he]; exact ret_int (by omega), hw⟩
  have Kt : ∀ W, Below w.heap.size w W → Calls Tryz.prog 90 #[.agg #[.string nm, .string dc, .string df, .slice ua un uc, .int .i64 tie, .slice ka kn kc]] W fun e w' => e = .returned (.bool false) ∧ Below W.heap.size W w' := fun W hb => by
    have := tieCanBe_any ⟨nm, ⟨dc, df⟩, us, tie, cl⟩ ⟨ua, un, uc⟩ ⟨ka, kn, kc⟩ W (hu.below hb) hub
    rw [ht] at this; exact this
  have hR0 : Cells ((w.alloc (.cells #[.string nm, .string dc, .string df, .slice ua un uc, .int .i64 tie, .slice ka kn kc] 51)).alloc (.cells #[.slice none 0 0, .slice none 0 0, .int .i64 0, .slice none 0 0] 73)) (w.heap.size + 1) 73 #[.slice none 0 0, .slice none 0 0, .int .i64 0, .slice none 0 0] := by
    have h0 := Cells.new (w.alloc (.cells #[.string nm, .string dc, .string df, .slice ua un uc, .int .i64 tie, .slice ka kn kc] 51)) 73 #[.slice none 0 0, .slice none 0 0, .int .i64 0, .slice none 0 0]
    rw [World.size_alloc] at h0; exact h0
  replace hR0 := Lib.hid hR0
  clear hun hf ht hu
  go_enter Tryz.func52, Tryz.ntmps52
  go_wp2_with fail
  go_region_held3 (fun w' => w'.cell? ⟨w.heap.size, 0, none⟩ = some (.string nm) ∧ w'.cell? ⟨w.heap.size, 1, none⟩ = some (.string dc) ∧ w'.cell? ⟨w.heap.size, 2, none⟩ = some (.string df) ∧ w'.cell? ⟨w.heap.size, 3, none⟩ = some (.slice ua un uc) ∧ w'.cell? ⟨w.heap.size, 4, none⟩ = some (.int .i64 tie) ∧ w'.cell? ⟨w.heap.size, 5, none⟩ = some (.slice ka kn kc))
    (go_keep)
    ((first
      | (go_at_call 49; refine (Ka _).mono ?_; clear Ka; rintro e W1 ⟨rfl, rfl⟩)
      | (go_at_call 90; refine (Kt _ hb1.drew).mono ?_; clear Kt; rintro e W1 ⟨rfl, hbt⟩; have hA1 := hb1.drew.trans (hbt.mono (by simp; omega)); have k0 : W1.cell? ⟨w.heap.size, 0, none⟩ = some (.string nm) := cell_below hbt (by first | assumption | (simp [*]; done)); have k1 : W1.cell? ⟨w.heap.size, 1, none⟩ = some (.string dc) := cell_below hbt (by first | assumption | (simp [*]; done)); have k2 : W1.cell? ⟨w.heap.size, 2, none⟩ = some (.string df) := cell_below hbt (by first | assumption | (simp [*]; done)); have k3 : W1.cell? ⟨w.heap.size, 3, none⟩ = some (.slice ua un uc) := cell_below hbt (by first | assumption | (simp [*]; done)); have k4 : W1.cell? ⟨w.heap.size, 4, none⟩ = some (.int .i64 tie) := cell_below hbt (by first | assumption | (simp [*]; done)); have k5 : W1.cell? ⟨w.heap.size, 5, none⟩ = some (.slice ka kn kc) := cell_below hbt (by first | assumption | (simp [*]; done)))))
  have hR1 : Cells W1 (w.heap.size + 1) 73 #[.slice none 0 0, .slice none 0 0, .int .i64 0, .slice none 0 0] := (Cells.drew hR0.out).below hbt (by simp)
  have q0 := hR1.cell (j := 0) (v := .slice none 0 0) rfl
  have q1 := hR1.cell (j := 1) (v := .slice none 0 0) rfl
  have q2 := hR1.cell (j := 2) (v := .int .i64 0) rfl
  have q3 := hR1.cell (j := 3) (v := .slice none 0 0) rfl
  have g0 := hR1.frozen 0
  have g1 := hR1.frozen 1
  have g2 := hR1.frozen 2
  have g3 := hR1.frozen 3
  have hP : ReadOpNo w (.returned (.tuple #[.agg #[.slice none 0 0, .slice none 0 0, .int .i64 0, .slice none 0 0], .bool false])) ((((W1.setCell ⟨w.heap.size + 1, 0, none⟩ (.slice none 0 0)).setCell ⟨w.heap.size + 1, 1, none⟩ (.slice none 0 0)).setCell ⟨w.heap.size + 1, 2, none⟩ (.int .i64 0)).setCell ⟨w.heap.size + 1, 3, none⟩ (.slice none 0 0)) := ⟨rfl, setFour_below hA1 (by omega) _ _ _ _⟩
  have hC := setFour hR1 (.slice none 0 0) (.slice none 0 0) (.int .i64 0) (.slice none 0 0)
  replace hC := Lib.hid hC
  replace hP := Lib.hid hP
  go_wp2_with fail
  generalize ((((W1.setCell ⟨w.heap.size + 1, 0, none⟩ (.slice none 0 0)).setCell ⟨w.heap.size + 1, 1, none⟩ (.slice none 0 0)).setCell ⟨w.heap.size + 1, 2, none⟩ (.int .i64 0)).setCell ⟨w.heap.size + 1, 3, none⟩ (.slice none 0 0)) = Wf at hP hC ⊢
  have z0 := hC.out.cell (j := 0) (v := .slice none 0 0) rfl
  have z1 := hC.out.cell (j := 1) (v := .slice none 0 0) rfl
  have z2 := hC.out.cell (j := 2) (v := .int .i64 0) rfl
  have z3 := hC.out.cell (j := 3) (v := .slice none 0 0) rfl
  exact bodyPost_ret (v := .tuple #[.agg #[.slice none 0 0, .slice none 0 0, .int .i64 0, .slice none 0 0], .bool false]) (by simp [results, Tryz.results52, go_sem, z0, z1, z2, z3]) rfl hP.out
end Go.Proofs.YtfhllbnpkcgfdaaGreatDoor
/-! readOps, of operations no name of which stands twice. -/
namespace Go.Proofs.YtfhllbnpkcgfdaaGreatDoor
open Go.RowKit
/-- The cells of an operation that was read. -/
def opCells (v : SlV × SlV × SlV × Int) : List Value := [.slice v.1.a v.1.n v.1.c, .slice v.2.1.a v.2.1.n v.2.1.c, .int .i64 v.2.2.2, .slice v.2.2.1.a v.2.2.1.n v.2.2.1.c]
/-- c's operations, in an array that stands behind what was there at first. -/
def OpsO (w0 W : World) (s : SlV) (os : List OpR) : Prop :=
  ∃ vs : List (SlV × SlV × SlV × Int), vs.length = os.length ∧ W.ownsRow w0.heap.size 73 4 s.v os.length (vs.flatMap opCells) ∧ ∀ (i : Nat) v o, vs[i]? = some v → os[i]? = some o → v.2.2.2 = o.tie ∧ OpVR W v.1 v.2.1 v.2.2.1 o
theorem OpVR.below {W W' : World} {dv uv kv : SlV} {o : OpR} (h : OpVR W dv uv kv o) (hb : Below W.heap.size W W') : OpVR W' dv uv kv o := ⟨h.d.below hb, h.dn, h.dz, h.uses.below hb, h.clob.below hb, h.cn⟩
theorem OpsO.below {w0 W W' : World} {s : SlV} {os : List OpR} (h : OpsO w0 W s os) (hb : Below W.heap.size W W') : OpsO w0 W' s os := by
  obtain ⟨vs, h1, h2, h3⟩ := h
  exact ⟨vs, h1, ownsRow_below h2 hb, fun i v o hv ho => ⟨(h3 i v o hv ho).1, (h3 i v o hv ho).2.below hb⟩⟩
theorem OpsO.nil (w0 W : World) : OpsO w0 W ⟨none, 0, 0⟩ [] := ⟨[], rfl, World.ownsRow_nil _ _ _ _, fun i v o hv _ => by simp at hv⟩
theorem ListsR.grown {base T j : Nat} {t e : TypeId} {size : Nat} {cs : Array Value} {v' : Value} {m : Nat} {ys : List Value} {W W7 : World} (h : Grown base T j t e size cs v' m ys W W7) (hT : Cells W T t cs) {s : SlV} {ls : List (List Int)} (hs : ListsR W s ls) (he : 3 ≠ e) (ht : 3 ≠ t) (he2 : 55 ≠ e) (ht2 : 55 ≠ t) : ListsR W7 s ls := by
  obtain ⟨vs, h1, h2, h3⟩ := hs
  exact ⟨vs, h1, grown_row h hT h2 he2 ht2, fun i v l hv hl => ⟨(h3 i v l hv hl).1.grown h hT he ht, (h3 i v l hv hl).2⟩⟩
theorem ListsO.grown {w0 : World} {base T j : Nat} {t e : TypeId} {size : Nat} {cs : Array Value} {v' : Value} {m : Nat} {ys : List Value} {W W7 : World} (h : Grown base T j t e size cs v' m ys W W7) (hT : Cells W T t cs) {s : SlV} {ls : List (List Int)} (hs : ListsO w0 W s ls) (he : 3 ≠ e) (ht : 3 ≠ t) (he2 : 55 ≠ e) (ht2 : 55 ≠ t) : ListsO w0 W7 s ls := by
  obtain ⟨vs, h1, h2, h3⟩ := hs
  exact ⟨vs, h1, grown_row h hT h2 he2 ht2, fun i v l hv hl => ⟨(h3 i v l hv hl).1.grown h hT he ht, (h3 i v l hv hl).2⟩⟩
theorem OpVR.grown {base T j : Nat} {t e : TypeId} {size : Nat} {cs : Array Value} {v' : Value} {m : Nat} {ys : List Value} {W W7 : World} (h : Grown base T j t e size cs v' m ys W W7) (hT : Cells W T t cs) {dv uv kv : SlV} {o : OpR} (hs : OpVR W dv uv kv o) (he : 3 ≠ e) (ht : 3 ≠ t) (he2 : 55 ≠ e) (ht2 : 55 ≠ t) : OpVR W7 dv uv kv o :=
  ⟨hs.d.grown h hT he ht, hs.dn, hs.dz, hs.uses.grown h hT he ht he2 ht2, hs.clob.grown h hT he ht, hs.cn⟩
theorem opsErr_at (ns : List ByteArray) (ps : List Plc) (cs : List ClassD) (os : List OpD) (k : Nat) (x : OpD) (hx : os[k]? = some x) :
    opsErr ns ps cs (os.take k) (os.drop k) = if opErr ns ps cs (os.take k) x = 0 then opsErr ns ps cs (os.take (k + 1)) (os.drop (k + 1)) else opErr ns ps cs (os.take k) x := by
  have hlt : k < os.length := (List.getElem?_eq_some_iff.1 hx).1
  rw [List.drop_eq_getElem_cons hlt, List.take_add_one, hx]
  have : os[k] = x := (List.getElem?_eq_some_iff.1 hx).2
  rw [this]; rfl
/-- An operation that is right, or wrong in the number of its uses or its tie. -/
def OpNice (ns : List ByteArray) (ps : List Plc) (cs : List ClassD) (o : OpD) : Prop := opFine ns ps cs o = true ∨ (o.uses.length ≠ arityN o.name ∨ (o.uses.length = arityN o.name ∧ tieFine o = false))
theorem OpNice.bad {ns : List ByteArray} {ps : List Plc} {cs : List ClassD} {o : OpD} (h : o.uses.length ≠ arityN o.name ∨ (o.uses.length = arityN o.name ∧ tieFine o = false)) : opFine ns ps cs o = false := by
  unfold opFine
  rcases h with h | ⟨_, h⟩
  · rw [decide_eq_false h]; simp
  · rw [h]; simp
theorem arity_le (s : ByteArray) : arityN s ≤ 2 := by
  unfold arityN; split
  · exact Nat.le_refl _
  · split <;> omega
def OpsPost [Inhabited Ghost] (w0 : World) (C : Nat) (cV : SlV) (cc : SlV → CV) (ns : List ByteArray) (ps : List Plc) (cs : List ClassD) (os : List OpD) (e : Ending) (w' : World) : Prop :=
  e = .returned (.int .i64 (opsS ns ps cs os)) ∧ Below w0.heap.size w0 w' ∧ (opsS ns ps cs os = 0 → ∃ oV, St w0 w' C (cc oV) ns ps ∧ ListsO w0 w' cV (clsOf ns cs) ∧ OpsO w0 w' oV (os.map (opR ns cs)))
theorem Tryz.infoOpR : (Tryz.prog.info? 73).map (fun i => (i.zero, i.size, i.bytes)) = some (some (.agg #[.slice none 0 0, .slice none 0 0, .int .i64 0, .slice none 0 0]), 4, 80) := by kernel_rfl
set_option maxRecDepth 100000 in
set_option maxHeartbeats 8000000 in
theorem readOps_any [Inhabited Ghost] (C : Nat) (mn rs : ByteArray) (rg kl ar sv : SlV) (oa : Option Addr) (on oc : Nat) (sl : Int) (nV pV cV aV : SlV) (r : Int) (ns : List ByteArray) (ps : List Plc) (cs : List ClassD) (os : List OpD) (w0 w : World)
    (hS : St w0 w C ⟨⟨mn, rg, kl, ⟨oa, on, oc⟩, ar, rs, sv, sl⟩, nV, pV, cV, ⟨none, 0, 0⟩, aV, r⟩ ns ps) (hK : ClassesAt w0 kl cs) (hkb : kl.n ≤ 64) (hL : ListsO w0 w cV (clsOf ns cs)) (hnum : ∀ l, l ∈ clsOf ns cs → ∀ x, x ∈ l → Num ps x)
    (hO : OpsAt w0 ⟨oa, on, oc⟩ os) (hnice : ∀ o : OpD, o ∈ os → OpNice ns ps cs o) (hub : ∀ o : OpD, o ∈ os → o.uses.length ≤ 100000)
    (hnew : ∀ (i : Nat) (o : OpD), os[i]? = some o → idxP (fun x : OpD => eqB x.name o.name) (os.take i) = -1) :
    Calls Tryz.prog 22 #[.pointer (some ⟨C, 0, none⟩)] w (OpsPost w0 C cV (fun oV => ⟨⟨mn, rg, kl, ⟨oa, on, oc⟩, ar, rs, sv, sl⟩, nV, pV, cV, oV, aV, r⟩) ns ps cs os) := by
  have hkn := hO.1
  have hkc := hO.2.1
  dsimp only at hkn hkc
  have c3 := hS.chk.cell (j := 3) (v := .slice oa on oc) rfl
  have hB0 := hS.below
  by_cases hlong : (64 : Int) < on
  · have hr : Hid (opsS ns ps cs os = 2) := Lib.hid (by unfold opsS; rw [if_pos (by omega)])
    clear hnice hnew hK hS hkn hL hnum hO hub
    go_enter Tryz.func22, Tryz.ntmps22
    go_wp2_with fail
    go_ret
    exact ⟨ret_int hr.out.symm, hB0, fun h => by rw [hr.out] at h; cases h⟩
  · have hr : Hid (opsS ns ps cs os = opsErr ns ps cs [] os) := Lib.hid (by unfold opsS; rw [if_neg (by omega)])
    replace hnice := Lib.hid hnice
    replace hnew := Lib.hid hnew
    replace hub := Lib.hid hub
    replace hnum := Lib.hid hnum
    have hK2 := Lib.hid hK
    have hO2 := Lib.hid hO
    have hS2 := Lib.hid hS
    have hL2 := Lib.hid hL
    have hkn' := Lib.hid hkn
    have on0 : (0 : Int) ≤ on := Int.natCast_nonneg _
    clear hK hS hkn hL hO
    go_enter Tryz.func22, Tryz.ntmps22
    go_wp2_with fail
    go_loopw [20] (fun i wr => ∃ (k : Nat) (oV : SlV), k ≤ on ∧ i = .int .i64 k ∧ St w0 wr C ⟨⟨mn, rg, kl, ⟨oa, on, oc⟩, ar, rs, sv, sl⟩, nV, pV, cV, oV, aV, r⟩ ns ps ∧ ListsO w0 wr cV (clsOf ns cs) ∧ OpsO w0 wr oV ((os.take k).map (opR ns cs)) ∧ Hid (opsErr ns ps cs [] os = opsErr ns ps cs (os.take k) (os.drop k))) (fun i _ => on - (intOf i).toNat)
    case atStart => exact ⟨0, ⟨none, 0, 0⟩, Nat.zero_le _, rfl, hS2.out, hL2.out, by simpa using OpsO.nil w0 w, Lib.hid (by simp)⟩
    case round =>
      clear c3 hB0 hS2 hL2
      obtain ⟨k, oV, hk, rfl, hS, hL, hQ, hT⟩ := hrel
      have k0 : (0 : Int) ≤ k := Int.natCast_nonneg _
      have hBr := hS.below
      by_cases hlt : k < on
      · have hkl : k < os.length := by have := hkn'.out; omega
        obtain ⟨x, hx⟩ : ∃ x, os[k]? = some x := ⟨os[k], List.getElem?_eq_getElem hkl⟩
        have hmem : x ∈ os := List.mem_of_getElem? hx
        obtain ⟨b, o, rfl, ⟨ua, un, uc⟩, ⟨va, vn, vc⟩, hc0, hc1, hc2, hc3, hc4, hc5, hcu, hcv⟩ := hO2.out.2.2 k x hx
        dsimp only at hc0 hc1 hc2 hc3 hc4 hc5
        replace hc0 := cell_below hBr hc0
        replace hc1 := cell_below hBr hc1
        replace hc2 := cell_below hBr hc2
        replace hc3 := cell_below hBr hc3
        replace hc4 := cell_below hBr hc4
        replace hc5 := cell_below hBr hc5
        have k1 : (k : Int) < on := by omega
        have k2 : (k : Int) ≤ oc := by omega
        have hi : IntKind.i64.wrap ((k : Int) + 1) = k + 1 := IntWalk.i64_in _ (by omega)
        have e1 := hnew.out k x hx
        have hT2 := Lib.hid (hT.out.trans (opsErr_at ns ps cs os k x hx))
        have c3 := hS.chk.cell (j := 3) (v := .slice (some ⟨b, o, none⟩) on oc) rfl
        have hlb := hS.chk.lt
        have nC := World.new_ne wr _ c3
        have hb0 : Below wr.heap.size wr (wr.alloc (.cells #[.string x.name, .string x.d.cls, .string x.d.fix, .slice ua un uc, .int .i64 x.tie, .slice va vn vc] 51)) := (Below.refl _ _).alloc (Nat.le_refl _) _
        have Ka := arity_any x.name
        have Kn : ∀ W, Below wr.heap.size wr W → Calls Tryz.prog 50 #[.slice (some ⟨b, o, none⟩) k oc, .string x.name, .func (.func 51) #[] #[]] W fun e w' => e = .returned (.int .i64 (-1)) ∧ Below W.heap.size W w' := fun W hb => by
          have := numberOp ⟨some ⟨b, o, none⟩, k, oc⟩ (os.take k) x.name W ((hO2.out.head k (by omega)).below (hBr.trans (hb.mono hBr.size))) (by show k < _; omega)
          rw [e1] at this; exact this
        have hno : ∀ W, Below w0.heap.size w0 W → ∀ c : Int, c ≠ 0 → opErr ns ps cs (os.take k) x = c → OpsPost w0 C cV (fun oV => ⟨⟨mn, rg, kl, ⟨some ⟨b, o, none⟩, on, oc⟩, ar, rs, sv, sl⟩, nV, pV, cV, oV, aV, r⟩) ns ps cs os (.returned (.int .i64 c)) W := fun W hW c hc he => by
          have h : opsS ns ps cs os = c := by rw [hr.out, hT2.out, he, if_neg hc]
          exact ⟨ret_int h.symm, hW, fun h0 => by rw [h] at h0; exact absurd h0 hc⟩
        replace hno := Lib.hid hno
        by_cases ha0 : arityN x.name = 0
        · have he : Hid (opErr ns ps cs (os.take k) x = 5) := Lib.hid (by unfold opErr; rw [ha0]; simp)
          rw [ha0] at Ka
          clear ha0 hx hmem hcu hcv e1 hT hS hL hQ hnew hnice hK2 hO2 hub hnum Kn
          go_wp2_with fail
          go_quiet ((go_at_call 49; exact Calls.quiet_of_same ((Ka _).mono fun _ _ ⟨he, hw⟩ => ⟨he, hw.symm⟩)))
          go_wp2_with fail
          go_ret
          exact hno.out _ (hBr.trans ((below_drewN hb0 _).mono hBr.size)) 5 (by decide) he.out
        · have ha1 : ((arityN x.name : Int) == 0) = false := beq_eq_false_iff_ne.2 (by omega)
          have hce : Hid (opErr ns ps cs (os.take k) x = if opFine ns ps cs x = true then 0 else 9) := Lib.hid (by unfold opErr; rw [e1]; simp [ha0])
          have hnx := hnice.out x hmem
          have hux := hub.out x hmem
          have hcu' := hcu.below hBr
          have hcv' := hcv.below hBr
          generalize hga : (arityN x.name : Int) = an at Ka ha1
          clear hga
          have Kr : ∀ W, Below wr.heap.size wr W → opFine ns ps cs x = true → Calls Tryz.prog 52 #[.pointer (some ⟨C, 0, none⟩), .agg #[.string x.name, .string x.d.cls, .string x.d.fix, .slice ua un uc, .int .i64 x.tie, .slice va vn vc]] W (ReadOpPost W (opR ns cs x)) := fun W hb hf => by
            have ha : x.uses.length ≤ 2 := by
              unfold opFine at hf
              simp only [Bool.and_eq_true, decide_eq_true_eq] at hf
              have := arity_le x.name
              omega
            exact readOp_ok C _ ns ps cs x ⟨ua, un, uc⟩ ⟨va, vn, vc⟩ w0 W (hS.step hb) hK2.out hkb (hL.below hb) hnum.out (hcu'.below hb) (hcv'.below hb) hf ha
          have Kb : ∀ W, Below wr.heap.size wr W → (x.uses.length ≠ arityN x.name ∨ (x.uses.length = arityN x.name ∧ tieFine x = false)) → Calls Tryz.prog 52 #[.pointer (some ⟨C, 0, none⟩), .agg #[.string x.name, .string x.d.cls, .string x.d.fix, .slice ua un uc, .int .i64 x.tie, .slice va vn vc]] W (ReadOpNo W) := fun W hb h => by
            rcases h with h | ⟨h1, h2⟩
            · exact readOp_few C x ⟨ua, un, uc⟩ ⟨va, vn, vc⟩ W hcu'.1 h
            · exact readOp_untied C x ⟨ua, un, uc⟩ ⟨va, vn, vc⟩ W (hcu'.below hb) (by have := hcu'.1; omega) h1 h2
          have hS' := Lib.hid hS
          have hL' := Lib.hid hL
          have hQ' := Lib.hid hQ
          have hlist : Hid ((os.take (k + 1)).map (opR ns cs) = (os.take k).map (opR ns cs) ++ [opR ns cs x]) := Lib.hid (by rw [List.take_add_one, hx, List.map_append]; rfl)
          have hgood : opFine ns ps cs x = true → Hid (opsErr ns ps cs [] os = opsErr ns ps cs (os.take (k + 1)) (os.drop (k + 1))) := fun hf => Lib.hid (by
            have h0 : opErr ns ps cs (os.take k) x = 0 := by rw [hce.out, hf]; rfl
            rw [hT2.out, h0]; rfl)
          have hlk : Hid (((os.take k).map (opR ns cs)).length = k) := Lib.hid (by rw [List.length_map, List.length_take]; omega)
          have htie : (opR ns cs x).tie = x.tie := rfl
          generalize opR ns cs x = ox at Kr hlist htie
          obtain ⟨xn, ⟨xc, xf⟩, xu, xt, xk⟩ := x
          dsimp only at hc0 hc1 hc2 hc3 hc4 hc5 hb0 Ka Kn Kr Kb htie
          replace hgood := Lib.hid hgood
          replace htie := Lib.hid htie
          replace hnx := Lib.hid hnx
          clear ha0 hx hmem hcu hcv e1 hT hS hL hQ hnew hnice hK2 hO2 hub hnum hcu' hcv' hux
          go_wp2_with fail
          go_region_held3 (fun w' => w'.cell? ⟨wr.heap.size, 0, none⟩ = some (.string xn) ∧ w'.cell? ⟨wr.heap.size, 1, none⟩ = some (.string xc) ∧ w'.cell? ⟨wr.heap.size, 2, none⟩ = some (.string xf) ∧ w'.cell? ⟨wr.heap.size, 3, none⟩ = some (.slice ua un uc) ∧ w'.cell? ⟨wr.heap.size, 4, none⟩ = some (.int .i64 xt) ∧ w'.cell? ⟨wr.heap.size, 5, none⟩ = some (.slice va vn vc) ∧ w'.cell? ⟨C, 3, none⟩ = some (.slice (some ⟨b, o, none⟩) on oc))
            (go_keep)
            ((first
              | (go_at_call 49; refine (Ka _).mono ?_; clear Ka; rintro e W1 ⟨rfl, rfl⟩)
              | (go_at_call 50; refine (Kn _ hb0.drew).mono ?_; clear Kn; rintro e W2 ⟨rfl, hb2⟩; have hA2 := hb0.drew.trans (hb2.mono (by simp)); have q0 : W2.cell? ⟨wr.heap.size, 0, none⟩ = some (.string xn) := cell_below hb2 (by first | assumption | (simp [*]; done)); have q1 : W2.cell? ⟨wr.heap.size, 1, none⟩ = some (.string xc) := cell_below hb2 (by first | assumption | (simp [*]; done)); have q2 : W2.cell? ⟨wr.heap.size, 2, none⟩ = some (.string xf) := cell_below hb2 (by first | assumption | (simp [*]; done)); have q3 : W2.cell? ⟨wr.heap.size, 3, none⟩ = some (.slice ua un uc) := cell_below hb2 (by first | assumption | (simp [*]; done)); have q4 : W2.cell? ⟨wr.heap.size, 4, none⟩ = some (.int .i64 xt) := cell_below hb2 (by first | assumption | (simp [*]; done)); have q5 : W2.cell? ⟨wr.heap.size, 5, none⟩ = some (.slice va vn vc) := cell_below hb2 (by first | assumption | (simp [*]; done)); have q6 : W2.cell? ⟨C, 3, none⟩ = some (.slice (some ⟨b, o, none⟩) on oc) := cell_below hb2 (by first | assumption | (simp [*]; done)))))
          go_wp2_with fail
          go_at_call 52
          rcases hnx.out with hf | hbad
          · refine (Kr _ hA2 hf).mono ?_
            have hg := hgood.out hf
            rintro e W4 ⟨dv, uv, kv, rfl, hb4, hV⟩
            have hA4 := hA2.trans (hb4.mono hA2.size)
            have hS4 := hS'.out.step hA4
            have hL4 := hL'.out.below hA4
            obtain ⟨vs, hv1, hrow, hv3⟩ := hQ'.out.below hA4
            rw [hlk.out] at hrow
            rw [htie.out]
            have hal : Below W4.heap.size W4 (W4.alloc (.cells #[.slice dv.a dv.n dv.c, .slice uv.a uv.n uv.c, .int .i64 xt, .slice kv.a kv.n kv.c] 73)) := (Below.refl _ _).alloc (Nat.le_refl _) _
            have hS5 := Lib.hid (hS4.step hal)
            have hL5 := Lib.hid (hL4.below hal)
            have hV5 := Lib.hid (hV.below hal)
            have hrow5 := ownsRow_below hrow hal
            replace hv3 := Lib.hid fun i v o hv ho => (show v.2.2.2 = o.tie ∧ OpVR (W4.alloc (.cells #[.slice dv.a dv.n dv.c, .slice uv.a uv.n uv.c, .int .i64 xt, .slice kv.a kv.n kv.c] 73)) v.1 v.2.1 v.2.2.1 o from ⟨(hv3 i v o hv ho).1, (hv3 i v o hv ho).2.below hal⟩)
            replace hv1 := Lib.hid hv1
            clear q0 q1 q2 q3 q4 q5 q6 hc0 hc1 hc2 hc3 hc4 hc5 c3 hb2 hb4 hV hrow hS4 hL4 Kr Kb
            go_wp2_with fail
            have hop := Cells.new W4 73 #[.slice dv.a dv.n dv.c, .slice uv.a uv.n uv.c, .int .i64 xt, .slice kv.a kv.n kv.c]
            generalize W4.alloc (.cells #[.slice dv.a dv.n dv.c, .slice uv.a uv.n uv.c, .int .i64 xt, .slice kv.a kv.n kv.c] 73) = W5 at hS5 hL5 hV5 hrow5 hv3 hop ⊢
            clear hal hA4
            generalize W4.heap.size = P at hop ⊢
            have p0 := hop.cell (j := 0) (v := .slice dv.a dv.n dv.c) rfl
            have p1 := hop.cell (j := 1) (v := .slice uv.a uv.n uv.c) rfl
            have p2 := hop.cell (j := 2) (v := .int .i64 xt) rfl
            have p3 := hop.cell (j := 3) (v := .slice kv.a kv.n kv.c) rfl
            have hCk := hS5.out.chk
            have c11 := hCk.cell (j := 11) (v := .slice oV.a oV.n oV.c) rfl
            have f11 := hCk.frozen 11
            have hnr := hCk.not_row (by decide) hrow5
            have hCb := hS5.out.base
            have hCl : C < W5.heap.size := hCk.lt
            have hnC := World.new_ne W5 _ c11
            have hk64 : k ≤ 64 := by omega
            obtain ⟨i0, hi0, hz0, hz1, hz2⟩ := info_parts Tryz.infoOpR
            have hC' := Lib.hid hCk
            clear hop hCk hno hA2
            go_region_law (refine step_append_lies _ (by rfl) _ _ _ (by rfl) w0.heap.size 73 i0 _ 4 80 Tryz.underlying54 hi0 hz0 hz1 hz2 rfl (by omega) (.slice oV.a oV.n oV.c) k (vs.flatMap opCells) (by rfl) ((hrow5.alloc _).drew) ⟨W5.heap.size, 0, none⟩ 1 1 [.slice dv.a dv.n dv.c, .slice uv.a uv.n uv.c, .int .i64 xt, .slice kv.a kv.n kv.c] (by rfl) (by rfl) (World.news_of_block (cs := #[.slice dv.a dv.n dv.c, .slice uv.a uv.n uv.c, .int .i64 xt, .slice kv.a kv.n kv.c]) (t := 73) (fr := (0, 0)) (heap_alloc_new W5 _)) (by simp [Value.oneCell']) (by omega) (by unfold maxLen; omega) (by omega) (by simp; omega) (W5.heap.size + 1) (by simp) ?_; intro gg gcap W6 hown1 hgrow hat hlt6; have hT6 := ((hC'.out.alloc _).drew).kept hgrow hnr; have f6 := hT6.frozen 11; have c6 := hT6.cell (j := 11) (v := .slice oV.a oV.n oV.c) rfl)
            all_goals
              have hgrow2 : (W5.drew.alloc (.cells #[.slice dv.a dv.n dv.c, .slice uv.a uv.n uv.c, .int .i64 xt, .slice kv.a kv.n kv.c] 73)).grownBy W6 (Value.slice oV.a oV.n oV.c).ownBlock := hgrow
              have hG := append_step (v := .slice oV.a oV.n oV.c) hC'.out (j := 11) rfl (by decide) hCb ((Below.refl W5.heap.size W5).drew) hrow5 hown1 hgrow2 (hat.elim (fun h => .inl (by rw [h]; rfl)) (fun h => .inr (by rw [h]; simp [Value.ownBlock])))
              have hSn := hS5.out.grown (c' := ⟨⟨mn, rg, kl, ⟨some ⟨b, o, none⟩, on, oc⟩, ar, rs, sv, sl⟩, nV, pV, cV, ⟨some ⟨gg, 0, none⟩, k + 1, gcap⟩, aV, r⟩) hG rfl rfl rfl (by decide) (by decide) (by decide)
              have hLn := hL5.out.grown hG hC'.out (by decide) (by decide) (by decide) (by decide)
              have hVn := hV5.out.grown hG hC'.out (by decide) (by decide) (by decide) (by decide)
              have hQn : OpsO w0 (W6.setCell ⟨C, 11, none⟩ (.slice (some ⟨gg, 0, none⟩) (k + 1) gcap)) ⟨some ⟨gg, 0, none⟩, k + 1, gcap⟩ ((os.take (k + 1)).map (opR ns cs)) := by
                refine ⟨vs ++ [(dv, uv, kv, xt)], ?_, ?_, fun i v oo hv hoo => ?_⟩
                · rw [hlist.out, List.length_append, List.length_append, hv1.out]; rfl
                · rw [hlist.out, List.length_append, hlk.out, List.flatMap_append]
                  have := hG.row
                  simpa [opCells, SlV.v] using this
                · rw [hlist.out] at hoo
                  by_cases hi : i < k
                  · rw [List.getElem?_append_left (by rw [hv1.out, hlk.out]; exact hi)] at hv
                    rw [List.getElem?_append_left (by rw [hlk.out]; exact hi)] at hoo
                    obtain ⟨h1, h2⟩ := hv3.out i v oo hv hoo
                    exact ⟨h1, h2.grown hG hC'.out (by decide) (by decide) (by decide) (by decide)⟩
                  · rw [List.getElem?_append_right (by rw [hv1.out, hlk.out]; omega), hv1.out, hlk.out] at hv
                    rw [List.getElem?_append_right (by rw [hlk.out]; omega), hlk.out] at hoo
                    have hi0 : i - k = 0 := by
                      have := (List.getElem?_eq_some_iff.1 hoo).1
                      simp at this; omega
                    rw [hi0] at hv hoo
                    cases hv
                    cases hoo
                    exact ⟨htie.out.symm, hVn⟩
              clear hG hgrow hgrow2 hown1 hat hlt6 hT6 f6 c6 hVn hS5 hL5 hV5 hrow5 hv3 hv1 p0 p1 p2 p3 c11 f11 hnr hC' hi0 hz0 hz1 hz2
              replace hSn := Lib.hid hSn
              replace hLn := Lib.hid hLn
              replace hQn := Lib.hid hQn
              go_wp2_with fail
              exact ⟨⟨k + 1, ⟨some ⟨gg, 0, none⟩, k + 1, gcap⟩, by omega, by go_num, hSn.out, hLn.out, hQn.out, hg⟩, by simp [intOf]; omega⟩
          · refine (Kb _ hA2 hbad).mono ?_
            have he : Hid (opErr ns ps cs (os.take k) ⟨xn, ⟨xc, xf⟩, xu, xt, xk⟩ = 9) := Lib.hid (by rw [hce.out, OpNice.bad hbad]; rfl)
            rintro e W4 ⟨rfl, hb4⟩
            clear hnx hbad Kr Kb
            go_wp2_with fail
            go_ret
            exact hno.out _ (hBr.trans ((hA2.trans ((hb4.alloc hb4.size _).mono hA2.size)).mono hBr.size)) 9 (by decide) he.out
      · obtain rfl : k = on := by omega
        have hfin : OpsPost w0 C cV (fun oV => ⟨⟨mn, rg, kl, ⟨oa, k, oc⟩, ar, rs, sv, sl⟩, nV, pV, cV, oV, aV, r⟩) ns ps cs os (.returned (.int .i64 0)) wr := by
          have h0 : opsS ns ps cs os = 0 := by
            rw [hr.out, hT.out, List.drop_eq_nil_of_le (by have := hkn'.out; omega)]; rfl
          refine ⟨ret_int h0.symm, hBr, fun _ => ⟨oV, hS, hL, ?_⟩⟩
          rw [List.take_of_length_le (by have := hkn'.out; omega)] at hQ
          exact hQ
        replace hfin := Lib.hid hfin
        clear hS hL hQ hnew hnice hK2 hO2 hub hnum
        go_wp2_with fail
        go_ret
        exact hfin.out
end Go.Proofs.YtfhllbnpkcgfdaaGreatDoor
/-! readConvention. -/
namespace Go.Proofs.YtfhllbnpkcgfdaaGreatDoor
open Go.RowKit
theorem St.set [Inhabited Ghost] {w0 W : World} {C j : Nat} {c c' : CV} {ns : List ByteArray} {ps : List Plc} {v : Value} (h : St w0 W C c ns ps) (hc : c'.cells = c.cells.setIfInBounds j v) (hn : c'.names = c.names) (hp : c'.places = c.places) : St w0 (W.setCell ⟨C, j, none⟩ v) C c' ns ps := by
  refine ⟨h.below.setCell (p := ⟨C, j, none⟩) h.base v, h.base, ?_, ?_, ?_, h.few, h.same, h.ok, (Below.heap_setCell W ⟨C, j, none⟩ v _ (h.fns_ne)).trans h.fns⟩
  · show Cells _ C 57 c'.cells
    rw [hc]; exact Cells.set h.chk v
  · rw [hn]; exact row_set h.chk h.names (by decide) j v
  · rw [hp]; exact row_set h.chk h.places (by decide) j v
theorem ListsR.set {W : World} {b : Nat} {t : TypeId} {cs : Array Value} (hC : Cells W b t cs) {s : SlV} {ls : List (List Int)} (h : ListsR W s ls) (h1 : 3 ≠ t) (h2 : 55 ≠ t) (j : Nat) (v : Value) : ListsR (W.setCell ⟨b, j, none⟩ v) s ls := by
  obtain ⟨vs, a, b', c⟩ := h
  exact ⟨vs, a, row_set hC b' h2 j v, fun i v' l hv hl => ⟨row_set hC (c i v' l hv hl).1 h1 j v, (c i v' l hv hl).2⟩⟩
theorem ListsO.set {w0 W : World} {b : Nat} {t : TypeId} {cs : Array Value} (hC : Cells W b t cs) {s : SlV} {ls : List (List Int)} (h : ListsO w0 W s ls) (h1 : 3 ≠ t) (h2 : 55 ≠ t) (j : Nat) (v : Value) : ListsO w0 (W.setCell ⟨b, j, none⟩ v) s ls := by
  obtain ⟨vs, a, b', c⟩ := h
  exact ⟨vs, a, row_set hC b' h2 j v, fun i v' l hv hl => ⟨row_set hC (c i v' l hv hl).1 h1 j v, (c i v' l hv hl).2⟩⟩
theorem OpsO.set {w0 W : World} {b : Nat} {t : TypeId} {cs : Array Value} (hC : Cells W b t cs) {s : SlV} {os : List OpR} (h : OpsO w0 W s os) (h1 : 3 ≠ t) (h2 : 55 ≠ t) (h3 : 73 ≠ t) (j : Nat) (v : Value) : OpsO w0 (W.setCell ⟨b, j, none⟩ v) s os := by
  obtain ⟨vs, a, b', c⟩ := h
  exact ⟨vs, a, row_set hC b' h3 j v, fun i v' l hv hl => ⟨(c i v' l hv hl).1, by
    obtain ⟨d, dn, dz, u, k, kn⟩ := (c i v' l hv hl).2
    exact ⟨row_set hC d h1 j v, dn, dz, u.set hC h1 h2 j v, row_set hC k h1 j v, kn⟩⟩⟩
/-- All that the checks ahead have read. -/
structure Rd [Inhabited Ghost] (w0 w : World) (C : Nat) (c : CV) (ns : List ByteArray) (ps : List Plc) (cls : List (List Int)) (os : List OpR) : Prop where
  st : St w0 w C c ns ps
  cls : ListsO w0 w c.classes cls
  ops : OpsO w0 w c.ops os
theorem Rd.step [Inhabited Ghost] {w0 w w' : World} {C : Nat} {c : CV} {ns : List ByteArray} {ps : List Plc} {cls : List (List Int)} {os : List OpR} (h : Rd w0 w C c ns ps cls os) (hb : Below w.heap.size w w') : Rd w0 w' C c ns ps cls os := ⟨h.st.step hb, h.cls.below hb, h.ops.below hb⟩
theorem Rd.set [Inhabited Ghost] {w0 W : World} {C j : Nat} {c c' : CV} {ns : List ByteArray} {ps : List Plc} {cls : List (List Int)} {os : List OpR} {v : Value} (h : Rd w0 W C c ns ps cls os) (hc : c'.cells = c.cells.setIfInBounds j v) (hn : c'.names = c.names) (hp : c'.places = c.places) (hk : c'.classes = c.classes) (ho : c'.ops = c.ops) : Rd w0 (W.setCell ⟨C, j, none⟩ v) C c' ns ps cls os :=
  ⟨h.st.set hc hn hp, by rw [hk]; exact h.cls.set h.st.chk (by decide) (by decide) j v, by rw [ho]; exact h.ops.set h.st.chk (by decide) (by decide) (by decide) j v⟩
/-- Of what stood in W all but one block stands in W' as it did. -/
def KeptBut (C : Nat) (W W' : World) : Prop := ∀ b, b < W.heap.size → b ≠ C → W'.heap[b]? = W.heap[b]?
theorem KeptBut.row {C : Nat} {W W' : World} {t : TypeId} {cs : Array Value} (h : KeptBut C W W') (hC : Cells W C t cs) {base : Nat} {e : TypeId} {size k : Nat} {v : Value} {xs : List Value} (hr : W.ownsRow base e size v k xs) (he : e ≠ t) : W'.ownsRow base e size v k xs := by
  refine ⟨hr.1, ?_⟩
  rcases hr.2 with h3 | ⟨g, cap, cur, e1, e2, e3, e4⟩
  · exact .inl h3
  · refine .inr ⟨g, cap, cur, e1, e2, (h g (lt_of_heap e3) (fun eg => ?_)).trans e3, e4⟩
    subst eg
    have := (show W.heap[g]? = _ from e3).symm.trans (show W.heap[g]? = _ from hC)
    cases this; exact he rfl
theorem KeptBut.lists {C : Nat} {W W' : World} {t : TypeId} {cs : Array Value} (h : KeptBut C W W') (hC : Cells W C t cs) {s : SlV} {ls : List (List Int)} (hl : ListsR W s ls) (h1 : 3 ≠ t) (h2 : 55 ≠ t) : ListsR W' s ls := by
  obtain ⟨vs, a, b', c⟩ := hl
  exact ⟨vs, a, h.row hC b' h2, fun i v' l hv hl => ⟨h.row hC (c i v' l hv hl).1 h1, (c i v' l hv hl).2⟩⟩
theorem Rd.kept [Inhabited Ghost] {w0 W W' : World} {C : Nat} {c c' : CV} {ns : List ByteArray} {ps : List Plc} {cls : List (List Int)} {os : List OpR} (h : Rd w0 W C c ns ps cls os) (hk : KeptBut C W W') (hB : Below w0.heap.size w0 W') (hC : ChkAt W' C c') (hn : c'.names = c.names) (hp : c'.places = c.places) (hkl : c'.classes = c.classes) (ho : c'.ops = c.ops) : Rd w0 W' C c' ns ps cls os := by
  refine ⟨⟨hB, h.st.base, hC, by rw [hn]; exact hk.row h.st.chk h.st.names (by decide), by rw [hp]; exact hk.row h.st.chk h.st.places (by decide), h.st.few, h.st.same, h.st.ok, (hk _ h.st.fns.lt h.st.fns_ne).trans h.st.fns⟩, ?_, ?_⟩
  · rw [hkl]
    obtain ⟨vs, a, b', c⟩ := h.cls
    exact ⟨vs, a, hk.row h.st.chk b' (by decide), fun i v' l hv hl => ⟨hk.row h.st.chk (c i v' l hv hl).1 (by decide), (c i v' l hv hl).2⟩⟩
  · rw [ho]
    obtain ⟨vs, a, b', c⟩ := h.ops
    refine ⟨vs, a, hk.row h.st.chk b' (by decide), fun i v' l hv hl => ⟨(c i v' l hv hl).1, ?_⟩⟩
    obtain ⟨d, dn, dz, u, k, kn⟩ := (c i v' l hv hl).2
    exact ⟨hk.row h.st.chk d (by decide), dn, dz, hk.lists h.st.chk u (by decide) (by decide), hk.row h.st.chk k (by decide), kn⟩
theorem KeptBut.below {C : Nat} {W W1 W2 : World} (h : KeptBut C W W1) (hs : W.heap.size ≤ W1.heap.size) (hb : Below W1.heap.size W1 W2) : KeptBut C W W2 := fun b hlt hne => (hb.block b (Nat.lt_of_lt_of_le hlt hs)).trans (h b hlt hne)
theorem KeptBut.set {C j : Nat} {v : Value} {W W1 : World} (h : KeptBut C W W1) : KeptBut C W (W1.setCell ⟨C, j, none⟩ v) := fun b hlt hne => (Below.heap_setCell W1 ⟨C, j, none⟩ v b hne).trans (h b hlt hne)
theorem KeptBut.grown {C : Nat} {W W1 W2 : World} {row : Option Nat} (h : KeptBut C W W1) (hs : W.heap.size ≤ W1.heap.size) (hg : W1.grownBy W2 row) (hr : ∀ b, row = some b → W.heap.size ≤ b) : KeptBut C W W2 := fun b hlt hne =>
  (hg.block b (Nat.lt_of_lt_of_le hlt hs) (fun e => by have := hr b e.symm; omega)).trans (h b hlt hne)
/-- 'append' behind a guard that holds. -/
theorem wpList_append_if {ops : Array Oper} {rest : List Oper} {o : Oper} {a : Act} {Q : Exit → Act → World → Prop} {w : World} (s x : Operand) (t : TypeId)
    (ho : o.op = .call { callee := .builtin .append, args := #[s, x], argTypes := #[t, t] }) (hw : Region.wanted o (yielded ops a.tmps) = true)
    (base : Nat) (e : TypeId) (i : TypeInfo) (z : Value) (size bytes : Nat) (ht : Tryz.prog.underlying t = some (.slice e)) (hi : Tryz.prog.info? e = some i) (hz : i.zero = some z)
    (hsize : i.size = size) (hby : i.bytes = bytes) (hzs : z.cells.size = size) (hsz : 0 < size)
    (v : Value) (n : Nat) (xs : List Value) (hs : a.eval s = v) (hown : w.ownsRow base e size v n xs)
    (ad : Addr) (m c : Nat) (news : List Value) (hx : a.eval x = .slice (some ad) m c) (hl : news.length = m * size) (hnews : ∀ j u, news[j]? = some u → w.cell? (ad.add j) = some u) (h1 : ∀ u ∈ news, u.oneCell' = true)
    (hm : 0 < m) (h63 : n + m ≤ maxLen) (hbytes : (n + m) * bytes ≤ 140737488355328) (hbase : base ≤ w.heap.size)
    (h : ∀ g cap w', w'.ownsRow base e size (.slice (some ⟨g, 0, none⟩) (n + m) cap) (n + m) (xs ++ news) → w.grownBy w' v.ownBlock → (v.ownBlock = some g ∨ g = w.heap.size) → wpList Tryz.prog ops Q rest (a.put o.dst (.slice (some ⟨g, 0, none⟩) (n + m) cap)) w') :
    wpList Tryz.prog ops Q (o :: rest) a w :=
  wpList_step fun K hK => by
    rw [if_pos hw]
    exact wp_append_lies w s x t ho base e i z size bytes ht hi hz hsize hby hzs hsz v n xs hs hown ad m c news hx hl hnews h1 hm h63 hbytes hbase _ rfl fun g cap w' h2 h3 h4 _ => hK _ _ (h g cap w' h2 h3 h4)
/-- What readConvention answers. -/
def ConvPost [Inhabited Ghost] (w0 : World) (C : Nat) (cc : SlV → Int → CV) (ns : List ByteArray) (ps : List Plc) (cls : List (List Int)) (os : List OpR) (args : List ByteArray) (result : ByteArray) (fine : Bool) (e : Ending) (w' : World) : Prop :=
  (fine = false ∧ e = .returned (.int .i64 10) ∧ Below w0.heap.size w0 w') ∨ (fine = true ∧ e = .returned (.int .i64 0) ∧ ∃ aV, Rd w0 w' C (cc aV (regN ns result)) ns ps cls os ∧ w'.ownsRow w0.heap.size 3 1 aV.v (regsL ns args).length ((regsL ns args).map (Value.int .i64)) ∧ args.length ≤ 16 ∧ (regsL ns args).contains (-1) = false ∧ 0 ≤ regN ns result ∧
      ∃ W1 aV0 r0, Rd w0 W1 C (cc aV0 r0) ns ps cls os ∧ KeptBut C W1 w' ∧ W1.heap.size ≤ w'.heap.size ∧ ∀ b, aV.v.ownBlock = some b → W1.heap.size ≤ b)
set_option maxRecDepth 100000 in
set_option maxHeartbeats 8000000 in
theorem readConvention_any [Inhabited Ghost] (C : Nat) (mn rs : ByteArray) (rg kl op ar sv : SlV) (sl : Int) (nV pV cV oV aV0 : SlV) (r0 : Int) (ns : List ByteArray) (ps : List Plc) (cls : List (List Int)) (os : List OpR) (args saved : List ByteArray) (w0 w : World)
    (hR : Rd w0 w C ⟨⟨mn, rg, kl, op, ar, rs, sv, sl⟩, nV, pV, cV, oV, aV0, r0⟩ ns ps cls os) (ha : StrsAt w0 ar args) (hs : StrsAt w0 sv saved) :
    Calls Tryz.prog 23 #[.pointer (some ⟨C, 0, none⟩)] w (ConvPost w0 C (fun aV r => ⟨⟨mn, rg, kl, op, ar, rs, sv, sl⟩, nV, pV, cV, oV, aV, r⟩) ns ps cls os args rs (convFine ns ps args rs saved sl)) := by
  have hB := hR.st.below
  have hlt := hR.st.chk.lt
  have c4 := hR.st.chk.cell (j := 4) (v := .slice ar.a ar.n ar.c) rfl
  have K1 := regs_any C _ ns ar args 16 w (by decide) (by decide) hR.st.chk hR.st.namesAt (ha.below hB)
  have K2 : ∀ W, Below w.heap.size w W → Calls Tryz.prog 46 #[.pointer (some ⟨C, 0, none⟩), .slice sv.a sv.n sv.c, .int .i64 64] W (RegsPost ns saved 64 W) := fun W hb => regs_any C _ ns sv saved 64 W (by decide) (by decide) (hR.step hb).st.chk (hR.step hb).st.namesAt (hs.below (hR.step hb).st.below)
  have K3 : ∀ W, Below w.heap.size w W → Calls Tryz.prog 45 #[.pointer (some ⟨C, 0, none⟩), .string rs] W fun e w' => e = .returned (.int .i64 (regN ns rs)) ∧ Below W.heap.size W w' := fun W hb => reg_any C _ ns rs W (hR.step hb).st.chk (hR.step hb).st.namesAt
  have hR' := Lib.hid hR
  clear hR ha hs
  go_enter Tryz.func23, Tryz.ntmps23
  go_wp2_with (first
    | (go_at_call 46; refine K1.mono ?_; clear K1; rintro e W1 ⟨a1, rfl, hb1, hI1⟩; have hR1 := hR'.out.step hb1; have c6 := hR1.st.chk.cell (j := 6) (v := .slice sv.a sv.n sv.c) rfl)
    | (go_at_call 46; refine (K2 _ hb1).mono ?_; clear K2; rintro e W2 ⟨s2, rfl, hb2, hI2⟩; have hR2 := hR1.step hb2; have c5 := hR2.st.chk.cell (j := 5) (v := .string rs) rfl; have hb2' := hb1.trans (hb2.mono hb1.size)))
  go_at_call 45
  refine (K3 _ hb2').mono ?_
  rintro e W3 ⟨rfl, hb3⟩
  have hR3 := hR2.step hb3
  have c12 := hR3.st.chk.cell (j := 12) (v := .slice aV0.a aV0.n aV0.c) rfl
  have c13 := hR3.st.chk.cell (j := 13) (v := .int .i64 r0) rfl
  have f12 := hR3.st.chk.frozen 12
  have f13 := hR3.st.chk.frozen 13
  have hR4 := hR3.set (j := 12) (v := .slice a1.a a1.n a1.c) (c' := ⟨⟨mn, rg, kl, op, ar, rs, sv, sl⟩, nV, pV, cV, oV, a1, r0⟩) rfl rfl rfl rfl rfl
  have hR5 := hR4.set (j := 13) (v := .int .i64 (regN ns rs)) (c' := ⟨⟨mn, rg, kl, op, ar, rs, sv, sl⟩, nV, pV, cV, oV, a1, regN ns rs⟩) rfl rfl rfl rfl rfl
  have hset : ∀ (s : SlV) (l : List Int), IntsR W3 s l → IntsR ((W3.setCell ⟨C, 12, none⟩ (.slice a1.a a1.n a1.c)).setCell ⟨C, 13, none⟩ (.int .i64 (regN ns rs))) s l := fun s l h => row_set hR4.st.chk (row_set hR3.st.chk h (by decide) 12 _) (by decide) 13 _
  have hA : args.length ≤ 16 → IntsR ((W3.setCell ⟨C, 12, none⟩ (.slice a1.a a1.n a1.c)).setCell ⟨C, 13, none⟩ (.int .i64 (regN ns rs))) a1 (regsL ns args) := fun h => by
    have h1 := hI1 (by omega)
    rw [show args.length = (regsL ns args).length by simp [regsL]] at h1
    exact hset _ _ (((show IntsR W1 a1 _ from ownsRow_mono h1 (Nat.zero_le _)).below hb2).below hb3)
  have hSv : saved.length ≤ 64 → ((W3.setCell ⟨C, 12, none⟩ (.slice a1.a a1.n a1.c)).setCell ⟨C, 13, none⟩ (.int .i64 (regN ns rs))).ownsRow w0.heap.size 3 1 s2.v (regsL ns saved).length ((regsL ns saved).map (Value.int .i64)) := fun h => by
    have h1 := hI2 (by omega)
    rw [show saved.length = (regsL ns saved).length by simp [regsL]] at h1
    have h2 := ownsRow_mono h1 hR1.st.below.size
    exact row_set hR4.st.chk (row_set hR3.st.chk (ownsRow_below h2 hb3) (by decide) 12 _) (by decide) 13 _
  have hR1' := Lib.hid hR1
  have hA1 : args.length ≤ 16 → W1.ownsRow w.heap.size 3 1 a1.v (regsL ns args).length ((regsL ns args).map (Value.int .i64)) := fun h => by
    have h1 := hI1 (by omega)
    rw [show args.length = (regsL ns args).length by simp [regsL]] at h1
    exact h1
  have hW1 : w0.heap.size ≤ w.heap.size := hR'.out.st.below.size
  have hB1 := Lib.hid hb1
  have hs2b : saved.length ≤ 64 → ∀ b, s2.v.ownBlock = some b → W1.heap.size ≤ b := fun h b hb => (ownsRow_block (hI2 (by omega)) hb).1
  have hk5 : KeptBut C W1 ((W3.setCell ⟨C, 12, none⟩ (.slice a1.a a1.n a1.c)).setCell ⟨C, 13, none⟩ (.int .i64 (regN ns rs))) := by
    have h0 : KeptBut C W1 W1 := fun _ _ _ => rfl
    exact ((((h0.below (Nat.le_refl _) hb2).below hb2.size hb3)).set).set
  have hz5 : W1.heap.size ≤ ((W3.setCell ⟨C, 12, none⟩ (.slice a1.a a1.n a1.c)).setCell ⟨C, 13, none⟩ (.int .i64 (regN ns rs))).heap.size := by
    have h1 := hb2.size
    have h2 := hb3.size
    simp; omega
  replace hA1 := Lib.hid hA1
  replace hs2b := Lib.hid hs2b
  replace hk5 := Lib.hid hk5
  replace hz5 := Lib.hid hz5
  replace hR5 := Lib.hid hR5
  replace hA := Lib.hid hA
  replace hSv := Lib.hid hSv
  clear hI1 hI2 hset hR4 hR3 hR2 hR1 c4 c5 c6 K3 hb1 hb2 hb3 hb2' hB
  have hno : convFine ns ps args rs saved sl = false → ∀ W, Below w0.heap.size w0 W → ConvPost w0 C (fun aV r => ⟨⟨mn, rg, kl, op, ar, rs, sv, sl⟩, nV, pV, cV, oV, aV, r⟩) ns ps cls os args rs (convFine ns ps args rs saved sl) (.returned (.int .i64 10)) W := fun h W hb => .inl ⟨h, rfl, hb⟩
  replace hno := Lib.hid hno
  have hconv : Hid (convFine ns ps args rs saved sl = ((regsOk ns args 16 && regsOk ns saved 64 && decide (0 ≤ regN ns rs) && decide (0 ≤ sl) && decide (sl ≤ 1000)) && (apartB ps (regsL ns args) && apartB ps (regsL ns saved ++ [regN ns rs])))) := Lib.hid rfl
  have hBw := hR5.out.st.below
  cases h1 : regsOk ns args 16 with
  | false =>
    have hf : Hid (convFine ns ps args rs saved sl = false) := Lib.hid (by rw [hconv.out, h1]; rfl)
    clear h1
    go_wp2_with fail
    go_ret
    exact hno.out hf.out _ hBw
  | true =>
    cases h2 : regsOk ns saved 64 with
    | false =>
      have hf : Hid (convFine ns ps args rs saved sl = false) := Lib.hid (by rw [hconv.out, h1, h2]; rfl)
      clear h1 h2
      go_wp2_with fail
      go_ret
      exact hno.out hf.out _ hBw
    | true =>
      have ho1 : args.length ≤ 16 ∧ (regsL ns args).contains (-1) = false := by unfold regsOk at h1; simpa using h1
      have ho2 : saved.length ≤ 64 ∧ (regsL ns saved).contains (-1) = false := by unfold regsOk at h2; simpa using h2
      have hc2 : Hid (convFine ns ps args rs saved sl = ((decide (0 ≤ regN ns rs) && decide (0 ≤ sl) && decide (sl ≤ 1000)) && (apartB ps (regsL ns args) && apartB ps (regsL ns saved ++ [regN ns rs])))) := Lib.hid (by rw [hconv.out, h1, h2]; simp)
      clear h1 h2 hconv
      by_cases h3 : regN ns rs < 0
      · have hf : Hid (convFine ns ps args rs saved sl = false) := Lib.hid (by rw [hc2.out, decide_eq_false (by omega : ¬ 0 ≤ regN ns rs)]; rfl)
        clear ho1 ho2
        go_wp2_with fail
        go_ret
        exact hno.out hf.out _ hBw
      by_cases h4 : sl < 0
      · have hf : Hid (convFine ns ps args rs saved sl = false) := Lib.hid (by rw [hc2.out, decide_eq_false (by omega : ¬ 0 ≤ sl)]; simp)
        clear ho1 ho2
        have c7 := hR5.out.st.chk.cell (j := 7) (v := .int .i64 sl) rfl
        go_wp2_with fail
        go_ret
        exact hno.out hf.out _ hBw
      by_cases h5 : 1000 < sl
      · have hf : Hid (convFine ns ps args rs saved sl = false) := Lib.hid (by rw [hc2.out, decide_eq_false (by omega : ¬ sl ≤ 1000)]; simp)
        clear ho1 ho2
        have c7 := hR5.out.st.chk.cell (j := 7) (v := .int .i64 sl) rfl
        go_wp2_with fail
        go_ret
        exact hno.out hf.out _ hBw
      have hc3 : Hid (convFine ns ps args rs saved sl = (apartB ps (regsL ns args) && apartB ps (regsL ns saved ++ [regN ns rs]))) := Lib.hid (by
        rw [hc2.out, decide_eq_true (by omega : 0 ≤ regN ns rs), decide_eq_true (by omega : 0 ≤ sl), decide_eq_true (by omega : sl ≤ 1000)]; simp)
      clear hc2
      have c7 := hR5.out.st.chk.cell (j := 7) (v := .int .i64 sl) rfl
      have c13' := hR5.out.st.chk.cell (j := 13) (v := .int .i64 (regN ns rs)) rfl
      have hA' := hA.out ho1.1
      have hS' := hSv.out ho2.1
      have hsl : (regsL ns saved).length ≤ 64 := by have := ho2.1; simp [regsL]; omega
      go_wp2_with fail
      generalize ((W3.setCell ⟨C, 12, none⟩ (.slice a1.a a1.n a1.c)).setCell ⟨C, 13, none⟩ (.int .i64 (regN ns rs))) = W5 at hR5 hA hSv hA' hS' hBw c7 c13' hk5 hz5 ⊢
      have hRd := hR5.out
      have Kp := apart_any C _ ps a1 (regsL ns args) W5 hRd.st.chk hRd.st.placesAt hA'.at_ (by have := hA'.len; have := ho1.1; simp [regsL] at *; omega) (regs_nums hRd.st.same ho1.2)
      go_at_call 53
      refine Kp.mono ?_
      clear Kp
      rintro e W6 ⟨rfl, hb6⟩
      cases hq : apartB ps (regsL ns args) with
      | false =>
        have hf : Hid (convFine ns ps args rs saved sl = false) := Lib.hid (by rw [hc3.out, hq]; rfl)
        clear hq ho1 ho2 hRd
        go_wp2_with fail
        go_ret
        exact hno.out hf.out _ (hBw.trans (hb6.mono hBw.size))
      | true =>
        have hc4 : Hid (convFine ns ps args rs saved sl = apartB ps (regsL ns saved ++ [regN ns rs])) := Lib.hid (by rw [hc3.out, hq]; rfl)
        have hR6 := hRd.step hb6
        have hS6 := ownsRow_below hS' hb6
        have c13'' := hR6.st.chk.cell (j := 13) (v := .int .i64 (regN ns rs)) rfl
        have hk6 := hk5.out.below hz5.out hb6
        have hz6 : W1.heap.size ≤ W6.heap.size := Nat.le_trans hz5.out hb6.size
        have hb06 := hR6.st.below.size
        have hKp2 : ∀ W8 g cap, W8.ownsRow w0.heap.size 3 1 (.slice (some ⟨g, 0, none⟩) ((regsL ns saved).length + 1) cap) ((regsL ns saved).length + 1) ((regsL ns saved).map (Value.int .i64) ++ [.int .i64 (regN ns rs)]) → (W6.alloc (.cells #[.int .i64 (regN ns rs)] 3)).grownBy W8 s2.v.ownBlock →
            Rd w0 W8 C ⟨⟨mn, rg, kl, op, ar, rs, sv, sl⟩, nV, pV, cV, oV, a1, regN ns rs⟩ ns ps cls os ∧ (W8.ownsRow w0.heap.size 3 1 a1.v (regsL ns args).length ((regsL ns args).map (Value.int .i64)) ∧ KeptBut C W1 W8 ∧ W1.heap.size ≤ W8.heap.size) ∧
            Calls Tryz.prog 53 #[.pointer (some ⟨C, 0, none⟩), .slice (some ⟨g, 0, none⟩) ((regsL ns saved).length + 1) cap] W8 fun e w' => e = .returned (.bool (apartB ps (regsL ns saved ++ [regN ns rs]))) ∧ Below W8.heap.size W8 w' := fun W8 g cap hown hg => by
          have hal : Below W6.heap.size W6 (W6.alloc (.cells #[.int .i64 (regN ns rs)] 3)) := (Below.refl _ _).alloc (Nat.le_refl _) _
          have hk7 := hk6.below hz6 hal
          have hk8 := hk7.grown (Nat.le_trans hz6 hal.size) hg (hs2b.out ho2.1)
          have hchk : ChkAt W8 C ⟨⟨mn, rg, kl, op, ar, rs, sv, sl⟩, nV, pV, cV, oV, a1, regN ns rs⟩ := ((show Cells W6 C _ _ from hR6.st.chk).alloc _).kept_row (hS6.alloc _) hg (by decide)
          have hB8 : Below w0.heap.size w0 W8 := (hR6.st.below.alloc hb06 _).grown hg (by simp; omega) (fun i e => (ownsRow_block hS6 e).1)
          have hRd8 := hR1'.out.kept hk8 hB8 hchk rfl rfl rfl rfl
          have hA8 := hk8.row hR1'.out.st.chk (ownsRow_mono (hA1.out ho1.1) hW1) (by decide)
          refine ⟨hRd8, ⟨hA8, hk8, Nat.le_trans (Nat.le_trans hz6 hal.size) hg.size⟩, ?_⟩
          have hown' : W8.ownsRow w0.heap.size 3 1 (SlV.v ⟨some ⟨g, 0, none⟩, (regsL ns saved).length + 1, cap⟩) (regsL ns saved ++ [regN ns rs]).length ((regsL ns saved ++ [regN ns rs]).map (Value.int .i64)) := by
            rw [List.length_append, List.map_append]; exact hown
          exact apart_any C _ ps ⟨some ⟨g, 0, none⟩, (regsL ns saved).length + 1, cap⟩ _ W8 hRd8.st.chk hRd8.st.placesAt (IntsAt.of_row hown' rfl) (by show _ + 1 < _; omega) (fun x hx => by
            rcases List.mem_append.1 hx with hx | hx
            · exact regs_nums hRd8.st.same ho2.2 x hx
            · obtain rfl : x = regN ns rs := by simpa using hx
              have := regN_range ns rs
              have := hRd8.st.same
              exact ⟨by omega, by omega⟩)
        replace hKp2 := Lib.hid hKp2
        obtain ⟨j0, hj0, hj1, hj2, hj3⟩ := info_parts Tryz.infoInt
        have hfin : ∀ W8 W9, Rd w0 W8 C ⟨⟨mn, rg, kl, op, ar, rs, sv, sl⟩, nV, pV, cV, oV, a1, regN ns rs⟩ ns ps cls os → (W8.ownsRow w0.heap.size 3 1 a1.v (regsL ns args).length ((regsL ns args).map (Value.int .i64)) ∧ KeptBut C W1 W8 ∧ W1.heap.size ≤ W8.heap.size) → Below W8.heap.size W8 W9 → apartB ps (regsL ns saved ++ [regN ns rs]) = true → ConvPost w0 C (fun aV r => ⟨⟨mn, rg, kl, op, ar, rs, sv, sl⟩, nV, pV, cV, oV, aV, r⟩) ns ps cls os args rs (convFine ns ps args rs saved sl) (.returned (.int .i64 0)) W9 := fun W8 W9 h1 h2 h3 h4 =>
          .inr ⟨by rw [hc4.out, h4], rfl, a1, h1.step h3, ownsRow_below h2.1 h3, ho1.1, ho1.2, by omega, w, aV0, r0, hR'.out, fun b hb hne => ((h2.2.1.below h2.2.2 h3) b (Nat.lt_of_lt_of_le hb hB1.out.size) hne).trans (hB1.out.block b hb),
            Nat.le_trans hB1.out.size (Nat.le_trans h2.2.2 h3.size), fun b hb => (ownsRow_block (hA1.out ho1.1) hb).1⟩
        replace hfin := Lib.hid hfin
        have ho1' := Lib.hid ho1
        have ho2' := Lib.hid ho2
        generalize hsvl : (regsL ns saved).length = svn at *
        replace hsvl := Lib.hid hsvl
        clear hq ho1 ho2 hRd hR6 hk6 hA' hS'
        go_wp2_with (first
          | (at_builtin; go_loud (refine wpList_append_if _ _ 55 rfl (by rfl) w0.heap.size 3 j0 _ 1 8 Tryz.underlying55 hj0 hj1 hj2 hj3 rfl (by decide) s2.v svn ((regsL ns saved).map (Value.int .i64)) rfl (hS6.alloc _) ⟨W6.heap.size, 0, none⟩ 1 1 [.int .i64 (regN ns rs)] rfl rfl (new_cells _ _ _ _ rfl) (by simp [Value.oneCell']) (by decide) (by unfold maxLen; omega) (by omega) (by simp; omega) ?_; intro g cap W8 hown hgrow _; obtain ⟨hR8, hA8, Kp2⟩ := hKp2.out W8 g cap hown hgrow; replace hR8 := Lib.hid hR8))
          | fail)
        go_at_call 53
        refine Kp2.mono ?_
        clear Kp2
        rintro e W9 ⟨rfl, hb9⟩
        cases hq2 : apartB ps (regsL ns saved ++ [regN ns rs]) with
        | false =>
          have hf : Hid (convFine ns ps args rs saved sl = false) := Lib.hid (by rw [hc4.out, hq2])
          clear hq2
          go_wp2_with fail
          go_ret
          exact hno.out hf.out _ (hR8.out.st.below.trans (hb9.mono hR8.out.st.below.size))
        | true =>
          have hq3 := Lib.hid hq2
          clear hq2
          go_wp2_with fail
          go_ret
          exact hfin.out _ _ hR8.out hA8 hb9 hq3.out
end Go.Proofs.YtfhllbnpkcgfdaaGreatDoor
/-! checkHomes: what comes in and goes out is of a class. -/
namespace Go.Proofs.YtfhllbnpkcgfdaaGreatDoor
open Go.RowKit
def hasI (x : Int) (l : List Int) : Bool := l.contains x
set_option maxHeartbeats 800000 in
theorem homes1 (bx : Nat) (s : SlV) (l : List Int) (x : Int) (w : World) (hx : w.cell? ⟨bx, 0, none⟩ = some (.int .i64 x)) (hl : IntsAt w s l) (hbig : s.n < 4611686018427387904) :
    Calls Tryz.prog 55 #[.slice s.a s.n s.c, .pointer (some ⟨bx, 0, none⟩)] w fun e w' => e = .returned (.bool (hasI x l)) ∧ w = w' := by
  have K := containsInt s l x w hl hbig
  rw [show l.contains x = hasI x l from rfl] at K
  generalize hasI x l = q at K ⊢
  clear hl
  go_enter Tryz.func55, Tryz.ntmps55
  go_wp2_with (go_at_call 56; refine K.mono ?_; clear K; rintro e W1 ⟨rfl, rfl⟩)
  go_ret
  exact ⟨rfl, rfl⟩
set_option maxRecDepth 100000 in
set_option maxHeartbeats 1600000 in
theorem idxLists (bx : Nat) (s : SlV) (ls : List (List Int)) (x : Int) (w : World) (hx : w.cell? ⟨bx, 0, none⟩ = some (.int .i64 x)) (hl : ListsR w s ls) (hbig : ls.length ≤ 1000) :
    Calls Tryz.prog 92 #[.slice s.a s.n s.c, .func (.func 55) #[] #[.pointer (some ⟨bx, 0, none⟩)]] w fun e w' => e = .returned (.int .i64 (idxP (hasI x) ls)) ∧ w = w' := by
  have hlen := hl.len
  have hget := fun (i : Nat) (l : List Int) (h : ls[i]? = some l) => hl.get h
  obtain ⟨a, n, c⟩ := s
  dsimp only at hlen hget ⊢
  subst hlen
  replace hget := Lib.hid hget
  clear hl
  go_enter Tryz.func92, Tryz.ntmps92
  go_wp2
  go_loop [8] (fun i => ∃ k : Nat, k ≤ ls.length ∧ i = .int .i64 k ∧ NoneYet (hasI x) ls k) (fun i => ls.length - (intOf i).toNat)
  case atStart => exact ⟨0, Nat.zero_le _, rfl, NoneYet.zero _ _⟩
  case round =>
    obtain ⟨k, hk, rfl, hY⟩ := hrel
    replace hY := Lib.hid hY
    have k0 : (0 : Int) ≤ k := Int.natCast_nonneg _
    by_cases hlt : k < ls.length
    · obtain ⟨l, hl⟩ : ∃ l, ls[k]? = some l := ⟨ls[k], by rw [List.getElem?_eq_getElem hlt]⟩
      obtain ⟨b, o, v, rfl, hc, hI, hI2, _, _⟩ := hget.out k l hl
      have hi : IntKind.i64.wrap ((k : Int) + 1) = k + 1 := IntWalk.i64_in _ (by omega)
      have k1 : (k : Int) < ls.length := by omega
      have C := homes1 bx v l x w hx hI.at_ (by have := hI.len; omega)
      replace hl := Lib.hid hl
      clear hI hx
      by_cases hp : hasI x l = true
      · rw [hp] at C
        replace hp := Lib.hid hp
        go_wp2_with (go_at_call 55; refine C.mono ?_; clear C; rintro e W1 ⟨rfl, rfl⟩)
        go_ret
        exact ⟨ret_int (hY.out.hit hl.out hp.out).symm, rfl⟩
      · have hp' : hasI x l = false := by simpa using hp
        rw [hp'] at C
        replace hp' := Lib.hid hp'
        clear hp
        go_wp2_with (go_at_call 55; refine C.mono ?_; clear C; rintro e W1 ⟨rfl, rfl⟩)
        go_round
        case rel => exact ⟨k + 1, by omega, by go_num, hY.out.succ hl.out hp'.out⟩
        case measure => simp [intOf]; omega
    · clear hx
      go_wp2_with fail
      go_ret
      exact ⟨ret_int (hY.out.miss (by omega)).symm, rfl⟩
set_option maxHeartbeats 800000 in
theorem containsLists (bx : Nat) (s : SlV) (ls : List (List Int)) (x : Int) (w : World) (hx : w.cell? ⟨bx, 0, none⟩ = some (.int .i64 x)) (hl : ListsR w s ls) (hbig : ls.length ≤ 1000) :
    Calls Tryz.prog 54 #[.slice s.a s.n s.c, .func (.func 55) #[] #[.pointer (some ⟨bx, 0, none⟩)]] w fun e w' => e = .returned (.bool (ls.any (hasI x))) ∧ w = w' := by
  have C := idxLists bx s ls x w hx hl hbig
  have hz := Lib.hid (idxP_any (hasI x) ls)
  generalize idxP (hasI x) ls = z at C hz
  clear hl hx
  go_enter Tryz.func54, Tryz.ntmps54
  go_wp2_with (go_at_call 92; refine C.mono ?_; clear C; rintro e W1 ⟨rfl, rfl⟩)
  go_ret
  exact ⟨ret_bool (by rw [← hz.out]), rfl⟩
def HomesPost [Inhabited Ghost] (w0 : World) (C : Nat) (c : CV) (ns : List ByteArray) (ps : List Plc) (cls : List (List Int)) (os : List OpR) (l : List Int) (e : Ending) (w' : World) : Prop :=
  e = .returned (.int .i64 (if homesFine cls l = true then 0 else 10)) ∧ Rd w0 w' C c ns ps cls os
theorem homes_at (cls : List (List Int)) (l : List Int) (k : Nat) (x : Int) (hx : l[k]? = some x) : homesFine cls (l.drop k) = (cls.any (hasI x) && homesFine cls (l.drop (k + 1))) := by
  have hlt : k < l.length := (List.getElem?_eq_some_iff.1 hx).1
  rw [List.drop_eq_getElem_cons hlt]
  have : l[k] = x := (List.getElem?_eq_some_iff.1 hx).2
  rw [this]; rfl
set_option maxRecDepth 100000 in
set_option maxHeartbeats 8000000 in
theorem checkHomes_any [Inhabited Ghost] (C : Nat) (m : MV) (nV pV cV oV aV aV0 : SlV) (r r0 : Int) (ns : List ByteArray) (ps : List Plc) (cls : List (List Int)) (os : List OpR) (al : List Int) (w0 w W1 : World)
    (hR : Rd w0 w C ⟨m, nV, pV, cV, oV, aV, r⟩ ns ps cls os) (hA : w.ownsRow w0.heap.size 3 1 aV.v al.length (al.map (Value.int .i64))) (hal : al.length ≤ 16) (hcl : cls.length ≤ 64)
    (hR1 : Rd w0 W1 C ⟨m, nV, pV, cV, oV, aV0, r0⟩ ns ps cls os) (hk : KeptBut C W1 w) (hz : W1.heap.size ≤ w.heap.size) (hab : ∀ b, aV.v.ownBlock = some b → W1.heap.size ≤ b) :
    Calls Tryz.prog 24 #[.pointer (some ⟨C, 0, none⟩)] w (HomesPost w0 C ⟨m, nV, pV, cV, oV, aV, r⟩ ns ps cls os (al ++ [r])) := by
  have c12 := hR.st.chk.cell (j := 12) (v := .slice aV.a aV.n aV.c) rfl
  have c13 := hR.st.chk.cell (j := 13) (v := .int .i64 r) rfl
  have hbs := hR.st.below.size
  have hnC := World.new_ne w _ c12
  have hCl := hR.st.chk.lt
  have hKp : ∀ W8 g cap, W8.ownsRow w0.heap.size 3 1 (.slice (some ⟨g, 0, none⟩) (al.length + 1) cap) (al.length + 1) (al.map (Value.int .i64) ++ [.int .i64 r]) → ((w.alloc (.cells #[.int .i64 r] 3)).drew).grownBy W8 aV.v.ownBlock →
      Rd w0 W8 C ⟨m, nV, pV, cV, oV, aV, r⟩ ns ps cls os ∧ IntsR W8 ⟨some ⟨g, 0, none⟩, al.length + 1, cap⟩ (al ++ [r]) := fun W8 g cap hown hg => by
    have hall : Below w.heap.size w ((w.alloc (.cells #[.int .i64 r] 3)).drew) := ((Below.refl _ _).alloc (Nat.le_refl _) _).drew
    have hk8 := (hk.below hz hall).grown (Nat.le_trans hz hall.size) hg hab
    have hchk : ChkAt W8 C ⟨m, nV, pV, cV, oV, aV, r⟩ := (((show Cells w C _ _ from hR.st.chk).alloc (.cells #[.int .i64 r] 3)).drew).kept_row ((hA.alloc _).drew) hg (by decide)
    have hB8 : Below w0.heap.size w0 W8 := ((hR.st.below.alloc hbs _).drew).grown hg (by simp; omega) (fun i e => (ownsRow_block hA e).1)
    refine ⟨hR1.kept hk8 hB8 hchk rfl rfl rfl rfl, ?_⟩
    have : W8.ownsRow w0.heap.size 3 1 (SlV.v ⟨some ⟨g, 0, none⟩, al.length + 1, cap⟩) (al ++ [r]).length ((al ++ [r]).map (Value.int .i64)) := by
      rw [List.length_append, List.map_append]; exact hown
    exact ownsRow_mono this (Nat.zero_le _)
  replace hKp := Lib.hid hKp
  obtain ⟨j0, hj0, hj1, hj2, hj3⟩ := info_parts Tryz.infoInt
  clear hR hR1 hk hab
  go_enter Tryz.func24, Tryz.ntmps24
  go_wp2_with fail
  go_region_law (refine step_append_lies _ (by rfl) _ _ _ (by rfl) w0.heap.size 3 j0 _ 1 8 Tryz.underlying55 hj0 hj1 hj2 hj3 rfl (by omega) (.slice aV.a aV.n aV.c) al.length (al.map (Value.int .i64)) (by rfl) ((hA.alloc _).drew) ⟨w.heap.size, 0, none⟩ 1 1 [.int .i64 r] (by rfl) (by rfl) (World.news_of_block (cs := #[.int .i64 r]) (t := 3) (fr := (0, 0)) (heap_alloc_new w _)) (by simp [Value.oneCell']) (by omega) (by unfold maxLen; omega) (by omega) (by simp; omega) (w.heap.size + 1) (by simp) ?_; intro g cap W8 hown1 hgrow hat hlt6)
  all_goals
    obtain ⟨hR8, hI8⟩ := hKp.out W8 g cap hown1 hgrow
    clear hown1 hgrow hat hlt6 c12 c13 hnC hA hKp
    have hlen : Hid ((al ++ [r]).length = al.length + 1) := Lib.hid (by simp)
    generalize hle : al ++ [r] = l at hI8 hlen ⊢
    replace hle := Lib.hid hle
    replace hR8 := Lib.hid hR8
    have hI8' := Lib.hid hI8
    clear hI8
    have hln : (0 : Int) ≤ ((al.length + 1 : Nat) : Int) := Int.natCast_nonneg _
    go_wp2_with fail
    simp only [Act.put, List.getElem_toArray, List.getElem_cons_succ, List.getElem_cons_zero, List.setIfInBounds_toArray, List.set_cons_zero, List.set_cons_succ]
    go_loopw [16] (fun i wr => ∃ k : Nat, k ≤ al.length + 1 ∧ i = .int .i64 k ∧ Rd w0 wr C ⟨m, nV, pV, cV, oV, aV, r⟩ ns ps cls os ∧ IntsR wr ⟨some ⟨g, 0, none⟩, al.length + 1, cap⟩ l ∧ Hid (homesFine cls l = homesFine cls (l.drop k))) (fun i _ => al.length + 1 - (intOf i).toNat)
    case atStart => exact ⟨0, Nat.zero_le _, rfl, hR8.out, hI8'.out, Lib.hid (by simp)⟩
    case round =>
      clear hR8 hI8'
      obtain ⟨k, hk, rfl, hR, hI, hT⟩ := hrel
      have k0 : (0 : Int) ≤ k := Int.natCast_nonneg _
      by_cases hlt : k < al.length + 1
      · have hkl : k < l.length := by have := hlen.out; omega
        obtain ⟨x, hx⟩ : ∃ x, l[k]? = some x := ⟨l[k], List.getElem?_eq_getElem hkl⟩
        obtain ⟨b, o, hbo, hcx⟩ := hI.at_.2.2 k x hx
        cases hbo
        rw [Nat.zero_add] at hcx
        have k1 : (k : Int) < ((al.length + 1 : Nat) : Int) := by omega
        have hi : IntKind.i64.wrap ((k : Int) + 1) = k + 1 := IntWalk.i64_in _ (by omega)
        have c10 := hR.st.chk.cell (j := 10) (v := .slice cV.a cV.n cV.c) rfl
        have hCw := hR.st.chk.lt
        have hnC := World.new_ne wr _ c10
        have hbl : Below wr.heap.size wr (wr.alloc (.cells #[.int .i64 x] 3)) := (Below.refl _ _).alloc (Nat.le_refl _) _
        have K := containsLists wr.heap.size cV cls x (wr.alloc (.cells #[.int .i64 x] 3)) (new_cell wr #[.int .i64 x] 3 (j := 0) rfl) (hR.step hbl).cls.lists (by omega)
        have hT2 := Lib.hid (hT.out.trans (homes_at cls l k x hx))
        have hR' := Lib.hid (hR.step hbl)
        have hI' := Lib.hid (hI.below hbl)
        clear hR hI hT hx
        cases hq : cls.any (hasI x) with
        | false =>
          have hf : Hid (homesFine cls l = false) := Lib.hid (by rw [hT2.out, hq]; rfl)
          rw [hq] at K
          clear hq
          go_wp2_with (go_at_call 54; refine K.mono ?_; clear K; rintro e W9 ⟨rfl, rfl⟩)
          go_ret
          exact ⟨ret_int (by rw [hle.out, hf.out]; rfl), hR'.out⟩
        | true =>
          have hf : Hid (homesFine cls l = homesFine cls (l.drop (k + 1))) := Lib.hid (by rw [hT2.out, hq, Bool.true_and])
          rw [hq] at K
          clear hq
          go_wp2_with (go_at_call 54; refine K.mono ?_; clear K; rintro e W9 ⟨rfl, rfl⟩)
          exact ⟨⟨k + 1, by omega, by go_num, hR'.out, hI'.out, hf⟩, by simp [intOf]; omega⟩
      · have hf : Hid (homesFine cls l = true) := Lib.hid (by rw [hT.out, List.drop_eq_nil_of_le (by have := hlen.out; omega)]; rfl)
        have hR' := Lib.hid hR
        clear hT hR hI
        go_wp2_with fail
        go_ret
        exact ⟨ret_int (by rw [hle.out, hf.out]; rfl), hR'.out⟩
end Go.Proofs.YtfhllbnpkcgfdaaGreatDoor
