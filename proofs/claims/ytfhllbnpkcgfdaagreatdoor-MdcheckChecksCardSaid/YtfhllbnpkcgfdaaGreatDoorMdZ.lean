/-
  Check, Fits and Pair of any machine that lies in memory: the first error, or none.
-/
import Derived.Test.YtfhllbnpkcgfdaaGreatDoorSmI
import Derived.Test.YtfhllbnpkcgfdaaGreatDoorMdFive
import Derived.Test.YtfhllbnpkcgfdaaGreatDoorPlAll
namespace Go.Proofs.YtfhllbnpkcgfdaaGreatDoor
open Go.RowKit
set_option maxRecDepth 100000 in
set_option maxHeartbeats 4000000 in
/-- No registers at all. -/
theorem readRegs_none (C : Nat) (m : MV) (w0 w : World) (hB : Below w0.heap.size w0 w) (hbase : w0.heap.size ≤ C) (hC : ChkAt w C ⟨m, ⟨none, 0, 0⟩, ⟨none, 0, 0⟩, ⟨none, 0, 0⟩, ⟨none, 0, 0⟩, ⟨none, 0, 0⟩, 0⟩)
    (K : Calls Tryz.prog 42 #[.slice m.regs.a m.regs.n m.regs.c] w (PlacesPost w [])) :
    Calls Tryz.prog 20 #[.pointer (some ⟨C, 0, none⟩)] w fun e w' => e = .returned (.int .i64 1) ∧ Below w0.heap.size w0 w' := by
  have c1 := hC.cell (j := 1) (v := .slice m.regs.a m.regs.n m.regs.c) rfl
  have hC2 := Lib.hid hC
  clear hC
  go_enter Tryz.func20, Tryz.ntmps20
  go_wp2_with (go_at_call 42; refine K.mono ?_; clear K; rintro e W1 ⟨nV, pV, rfl, hn, hp, hb1⟩; obtain ⟨na, nc, rfl⟩ := ownsRow_form hn; obtain ⟨pa, pc, rfl⟩ := ownsRow_form hp; simp only [List.length_nil] at hn hp ⊢; have hC1 := hC2.out.below hb1 hC2.out.lt; have d8 := hC1.cell (j := 8) (v := .slice none 0 0) rfl; have d9 := hC1.cell (j := 9) (v := .slice none 0 0) rfl; have f8 := hC1.frozen 8; have f9 := hC1.frozen 9; replace hn := Lib.hid hn; replace hp := Lib.hid hp)
  go_ret
  exact ⟨rfl, ((hB.trans (hb1.mono hB.size)).setCell (p := ⟨C, 8, none⟩) hbase _).setCell (p := ⟨C, 9, none⟩) hbase _⟩
set_option maxRecDepth 100000 in
set_option maxHeartbeats 4000000 in
/-- Check of a machine whose name is none, or whose registers can't be. -/
theorem check_one {w : World} {m : MV} (ok : Bool) (x : Int) (hx : x ≠ 0)
    (hnm : ∀ W, Below w.heap.size w W → Calls Tryz.prog 41 #[.string m.name] W fun e w' => e = .returned (.bool ok) ∧ Below W.heap.size W w')
    (hbad : ok = false → x = 5) (hpl : ok = true → ∀ W, Below w.heap.size w W → ChkAt W (w.heap.size + 1) m.fresh → Calls Tryz.prog 20 #[.pointer (some ⟨w.heap.size + 1, 0, none⟩)] W fun e w' => e = .returned (.int .i64 x) ∧ Below w.heap.size w w') :
    Calls Tryz.prog 7 #[m.val] w fun e w' => e = .returned (.int .i64 x) ∧ Below w.heap.size w w' := by
  have hBF : Below w.heap.size w (worldF w m 7) := (((Below.refl _ _).alloc (Nat.le_refl _) _).alloc (by simp) _).alloc (by simp; omega) _
  have K : Calls Tryz.prog 18 #[.slice (some ⟨w.heap.size + 1 + 1, 0, none⟩) 7 7] (worldF w m 7) fun e w' => e = .returned (.int .i64 x) ∧ Below w.heap.size w w' := by
    have hCh : ChkAt (worldF w m 7) (w.heap.size + 1) m.fresh := by
      have := (Cells.new (w.alloc (.cells #[.string m.name, .slice m.regs.a m.regs.n m.regs.c, .slice m.classes.a m.classes.n m.classes.c, .slice m.ops.a m.ops.n m.ops.c, .slice m.args.a m.args.n m.args.c, .string m.result, .slice m.saved.a m.saved.n m.saved.c, .int .i64 m.slots] 27)) 57 m.fresh.cells).alloc (.cells (ptCells (w.heap.size + 1) (ptFns.take 7)) 59)
      rw [World.size_alloc] at this; exact this
    have hF : Cells (worldF w m 7) (w.heap.size + 1 + 1) 59 (ptCells (w.heap.size + 1) (ptFns.take 7)) := by
      have := Cells.new ((w.alloc (.cells #[.string m.name, .slice m.regs.a m.regs.n m.regs.c, .slice m.classes.a m.classes.n m.classes.c, .slice m.ops.a m.ops.n m.ops.c, .slice m.args.a m.args.n m.args.c, .string m.result, .slice m.saved.a m.saved.n m.saved.c, .int .i64 m.slots] 27)).alloc (.cells m.fresh.cells 57)) 59 (ptCells (w.heap.size + 1) (ptFns.take 7))
      rw [World.size_alloc, World.size_alloc] at this; exact this
    have F := first_any (w.heap.size + 1) (w.heap.size + 1 + 1) ptFns
      (fun k W => (k = 0 ∨ k = 1 ∧ ok = true) ∧ Below w.heap.size w W ∧ ChkAt W (w.heap.size + 1) m.fresh ∧ Cells W (w.heap.size + 1 + 1) 59 (ptCells (w.heap.size + 1) ptFns))
      (fun y W => y = x ∧ Below w.heap.size w W) (worldF w m 7) (by decide) (fun k W h => h.2.2.2) (fun f hf => ptEnters f hf)
      (fun k f hf W ⟨hk, hb, hC, hFn⟩ => by
        rcases hk with rfl | ⟨rfl, hok⟩
        · cases hf
          refine (checkName_any (w.heap.size + 1) _ ok W hC (hnm W hb)).mono fun e W' ⟨he, hb'⟩ => ⟨_, he, fun h0 => ⟨.inr ⟨rfl, ?_⟩, hb.trans (hb'.mono hb.size), hC.below hb' hC.lt, hFn.below hb' hFn.lt⟩, fun h0 => ⟨?_, hb.trans (hb'.mono hb.size)⟩⟩
          · cases ok with
            | true => rfl
            | false => exact absurd h0 (by decide)
          · cases ok with
            | true => exact absurd rfl h0
            | false => exact (hbad rfl).symm
        · cases hf
          refine (hpl hok W hb hC).mono fun e W' ⟨he, hb'⟩ => ⟨_, he, fun h0 => absurd h0 hx, fun _ => ⟨rfl, hb'⟩⟩)
      ⟨.inl rfl, hBF, hCh, hF⟩
    refine F.mono fun e W' ⟨y, he, h1, h2⟩ => ?_
    by_cases hy : y = 0
    · rcases (h1 hy).1 with h | ⟨h, _⟩ <;> exact absurd h (by decide)
    · obtain ⟨rfl, hb⟩ := h2 hy
      exact ⟨he, hb⟩
  unfold worldF MV.fresh CV.cells ptCells ptFns at K
  unfold MV.val
  simp only [List.take_succ_cons, List.take_zero, List.map_cons, List.map_nil] at K
  clear hBF hnm hpl
  go_enter Tryz.func7, Tryz.ntmps7
  go_wp2_with (go_at_call 18; go_loud (refine K.mono ?_; clear K; rintro e W1 ⟨rfl, hb⟩))
  go_ret
  exact ⟨rfl, hb⟩
end Go.Proofs.YtfhllbnpkcgfdaaGreatDoor
/-! The seven points of Check, one behind the other, of a machine whose registers are right and whose classes' names are too. -/
namespace Go.Proofs.YtfhllbnpkcgfdaaGreatDoor
open Go.RowKit
/-- What is asked of a machine that lies in memory: m is how it lies, d what it says, E its registers' spots. -/
structure ReadB (w : World) (m : MV) (d : MachD) (E : List Spot) : Prop where
  env : Env w
  result : m.result = d.result
  slots : m.slots = d.slots
  name : nameB d.name = true
  same : m.name = d.name
  ne : E ≠ []
  few : E.length ≤ 200
  ok : ∀ p, p ∈ E.map Spot.place → PlcOk p
  places : ∀ W, Below w.heap.size w W → Calls Tryz.prog 42 #[.slice m.regs.a m.regs.n m.regs.c] W (PlacesPost W E)
  classes : ClassesAt w m.classes d.classes
  ops : OpsAt w m.ops d.ops
  oub : ∀ o : OpD, o ∈ d.ops → o.uses.length ≤ 100000
  args : StrsAt w m.args d.args
  saved : StrsAt w m.saved d.saved
/-- What holds before each of the points. -/
def RunB [Inhabited Ghost] (w : World) (C : Nat) (m : MV) (d : MachD) (ns : List ByteArray) (ps : List Plc) : Nat → World → Prop
  | 0, W => Below w.heap.size w W ∧ ChkAt W C ⟨m, ⟨none, 0, 0⟩, ⟨none, 0, 0⟩, ⟨none, 0, 0⟩, ⟨none, 0, 0⟩, ⟨none, 0, 0⟩, 0⟩ ∧ Cells W (default : Ghost).b 59 (default : Ghost).cs
  | 1, W => Below w.heap.size w W ∧ ChkAt W C ⟨m, ⟨none, 0, 0⟩, ⟨none, 0, 0⟩, ⟨none, 0, 0⟩, ⟨none, 0, 0⟩, ⟨none, 0, 0⟩, 0⟩ ∧ Cells W (default : Ghost).b 59 (default : Ghost).cs
  | 2, W => ∃ nV pV, St w W C ⟨m, nV, pV, ⟨none, 0, 0⟩, ⟨none, 0, 0⟩, ⟨none, 0, 0⟩, 0⟩ ns ps
  | 3, W => classesS nameB ns ps d.classes = 0 ∧ ∃ nV pV cV, St w W C ⟨m, nV, pV, cV, ⟨none, 0, 0⟩, ⟨none, 0, 0⟩, 0⟩ ns ps ∧ ListsO w W cV (clsOf ns d.classes)
  | 4, W => (classesS nameB ns ps d.classes = 0 ∧ opsS ns ps d.classes d.ops = 0) ∧ ∃ nV pV cV oV, Rd w W C ⟨m, nV, pV, cV, oV, ⟨none, 0, 0⟩, 0⟩ ns ps (clsOf ns d.classes) (d.ops.map (opR ns d.classes))
  | 5, W => (classesS nameB ns ps d.classes = 0 ∧ opsS ns ps d.classes d.ops = 0 ∧ convFine ns ps d.args d.result d.saved d.slots = true) ∧ ∃ nV pV cV oV aV, Rd w W C ⟨m, nV, pV, cV, oV, aV, regN ns d.result⟩ ns ps (clsOf ns d.classes) (d.ops.map (opR ns d.classes)) ∧
      W.ownsRow w.heap.size 3 1 aV.v (regsL ns d.args).length ((regsL ns d.args).map (Value.int .i64)) ∧ d.args.length ≤ 16 ∧
      ∃ W1 aV0 r0, Rd w W1 C ⟨m, nV, pV, cV, oV, aV0, r0⟩ ns ps (clsOf ns d.classes) (d.ops.map (opR ns d.classes)) ∧ KeptBut C W1 W ∧ W1.heap.size ≤ W.heap.size ∧ ∀ b, aV.v.ownBlock = some b → W1.heap.size ≤ b
  | 6, W => (classesS nameB ns ps d.classes = 0 ∧ opsS ns ps d.classes d.ops = 0 ∧ convFine ns ps d.args d.result d.saved d.slots = true ∧ homesFine (clsOf ns d.classes) (regsL ns d.args ++ [regN ns d.result]) = true) ∧
      ∃ nV pV cV oV aV, Rd w W C ⟨m, nV, pV, cV, oV, aV, regN ns d.result⟩ ns ps (clsOf ns d.classes) (d.ops.map (opR ns d.classes))
  | _, W => (classesS nameB ns ps d.classes = 0 ∧ opsS ns ps d.classes d.ops = 0 ∧ convFine ns ps d.args d.result d.saved d.slots = true ∧ homesFine (clsOf ns d.classes) (regsL ns d.args ++ [regN ns d.result]) = true ∧ roomFine ps (clsOf ns d.classes) (d.ops.map (opR ns d.classes)) = true) ∧
      Below w.heap.size w W ∧ Cells W (default : Ghost).b 59 (default : Ghost).cs
/-- What each point answers. -/
def ptB (d : MachD) (ns : List ByteArray) (ps : List Plc) : Nat → Int
  | 2 => classesS nameB ns ps d.classes
  | 3 => opsS ns ps d.classes d.ops
  | 4 => if convFine ns ps d.args d.result d.saved d.slots = true then 0 else 10
  | 5 => if homesFine (clsOf ns d.classes) (regsL ns d.args ++ [regN ns d.result]) = true then 0 else 10
  | 6 => if roomFine ps (clsOf ns d.classes) (d.ops.map (opR ns d.classes)) = true then 0 else 11
  | _ => 0
theorem runB_cells [Inhabited Ghost] {w : World} {C : Nat} {m : MV} {d : MachD} {ns : List ByteArray} {ps : List Plc} : ∀ (k : Nat) (W : World), RunB w C m d ns ps k W → Cells W (default : Ghost).b 59 (default : Ghost).cs
  | 0, _, h => h.2.2
  | 1, _, h => h.2.2
  | 2, _, ⟨_, _, h⟩ => h.fns
  | 3, _, ⟨_, _, _, _, h, _⟩ => h.fns
  | 4, _, ⟨_, _, _, _, _, h⟩ => h.st.fns
  | 5, _, ⟨_, _, _, _, _, _, h, _⟩ => h.st.fns
  | 6, _, ⟨_, _, _, _, _, _, h⟩ => h.st.fns
  | _ + 7, _, h => h.2.2
theorem pointsB [Inhabited Ghost] {w : World} {C : Nat} {m : MV} {d : MachD} {E : List Spot} (hR : ReadB w m d E) (hbase : w.heap.size ≤ C) :
    ∀ k f, ptFns[k]? = some f → ∀ W, RunB w C m d (E.map (·.name)) (E.map Spot.place) k W → Calls Tryz.prog f #[.pointer (some ⟨C, 0, none⟩)] W (PtS w (ptB d (E.map (·.name)) (E.map Spot.place) k) (RunB w C m d (E.map (·.name)) (E.map Spot.place) (k + 1))) := by
  obtain ⟨mn, rg, ⟨ka, kn, kc⟩, ⟨oa, on, oc⟩, ar, rs, sv, sl⟩ := m
  have hres := hR.result
  have hslo := hR.slots
  dsimp only at hres hslo
  intro k f hf W hW
  match k, hf, hW with
  | 0, hf, hW =>
    cases hf
    obtain ⟨hb, hC, hF⟩ := hW
    refine (checkName_any C _ true W hC (by have hn := mdIsName_any d.name W (hR.env.below hb); rw [hR.name, ← hR.same] at hn; exact hn)).mono fun e W' ⟨he, hb'⟩ => ⟨he, hb.trans (hb'.mono hb.size), fun _ => ⟨hb.trans (hb'.mono hb.size), hC.below hb' hC.lt, hF.below hb' hF.lt⟩⟩
  | 1, hf, hW =>
    cases hf
    obtain ⟨hb, hC, hF⟩ := hW
    exact (readRegs_ok C _ E w W hb hbase hC hF hR.ne hR.few hR.ok (hR.places W hb)).mono fun e W' ⟨he, nV, pV, hS⟩ => ⟨he, hS.below, fun _ => ⟨nV, pV, hS⟩⟩
  | 2, hf, hW =>
    cases hf
    obtain ⟨nV, pV, hS⟩ := hW
    exact (readClasses_all C mn rs rg ⟨oa, on, oc⟩ ar sv ka kn kc sl nV pV ⟨none, 0, 0⟩ ⟨none, 0, 0⟩ 0 _ _ d.classes w W hR.env hS hR.classes).mono fun e W' ⟨he, hb, h⟩ => ⟨he, hb, fun h0 => by
      obtain ⟨cV, h1, h2⟩ := h h0
      exact ⟨h0, nV, pV, cV, h1, h2⟩⟩
  | 3, hf, hW =>
    cases hf
    obtain ⟨h0, nV, pV, cV, hS, hL⟩ := hW
    have hkn := hR.classes.1
    have hk64 := (classesS_fine h0).1
    dsimp only at hkn
    exact (readOps_all C mn rs rg ⟨ka, kn, kc⟩ ar sv oa on oc sl nV pV cV ⟨none, 0, 0⟩ 0 _ _ d.classes d.ops w W hS hR.classes (by dsimp only; omega) hL (cls_nums hS.same h0) hR.ops hR.oub).mono fun e W' ⟨he, hb, h⟩ => ⟨he, hb, fun h1 => by
      obtain ⟨oV, g1, g2, g3⟩ := h h1
      exact ⟨⟨h0, h1⟩, nV, pV, cV, oV, g1, g2, g3⟩⟩
  | 4, hf, hW =>
    cases hf
    obtain ⟨⟨h0, h1⟩, nV, pV, cV, oV, hRd⟩ := hW
    refine (readConvention_any C mn rs rg ⟨ka, kn, kc⟩ ⟨oa, on, oc⟩ ar sv sl nV pV cV oV ⟨none, 0, 0⟩ 0 _ _ _ _ d.args d.saved w W hRd hR.args hR.saved).mono fun e W' h => ?_
    rw [hres, hslo] at h
    rcases h with ⟨hf, he, hb⟩ | ⟨hf, he, aV, g1, g2, g3, _, _, W1, aV0, r0, g4, g5, g6, g7⟩
    · refine ⟨?_, hb, ?_⟩
      · show e = .returned (.int .i64 (if convFine (E.map (·.name)) (E.map Spot.place) d.args d.result d.saved d.slots = true then 0 else 10))
        rw [hf]; exact he
      · show (if convFine (E.map (·.name)) (E.map Spot.place) d.args d.result d.saved d.slots = true then (0 : Int) else 10) = 0 → _
        rw [hf]; intro h; cases h
    · refine ⟨?_, g1.st.below, fun _ => ⟨⟨h0, h1, hf⟩, nV, pV, cV, oV, aV, ?_, g2, g3, W1, aV0, r0, ?_, g5, g6, g7⟩⟩
      · show e = .returned (.int .i64 (if convFine (E.map (·.name)) (E.map Spot.place) d.args d.result d.saved d.slots = true then 0 else 10))
        rw [hf]; exact he
      · rw [hres, hslo]; exact g1
      · rw [hres, hslo]; exact g4
  | 5, hf, hW =>
    cases hf
    obtain ⟨⟨h0, h1, h2⟩, nV, pV, cV, oV, aV, g1, g2, g3, W1, aV0, r0, g4, g5, g6, g7⟩ := hW
    have hcl : (clsOf (E.map (·.name)) d.classes).length ≤ 64 := by have := (classesS_fine h0).1; simpa [clsOf] using this
    refine (checkHomes_any C _ nV pV cV oV aV aV0 _ r0 _ _ _ _ (regsL (E.map (fun x : Spot => x.name)) d.args) w W W1 g1 g2 (by simpa [regsL] using g3) hcl g4 g5 g6 g7).mono fun e W' ⟨he, hq⟩ => ⟨he, hq.st.below, fun hx => ⟨⟨h0, h1, h2, ?_⟩, nV, pV, cV, oV, aV, hq⟩⟩
    change (if homesFine (clsOf (E.map (·.name)) d.classes) (regsL (E.map (·.name)) d.args ++ [regN (E.map (·.name)) d.result]) = true then (0 : Int) else 10) = 0 at hx
    split at hx
    · assumption
    · cases hx
  | 6, hf, hW =>
    cases hf
    obtain ⟨⟨h0, h1, h2, h3⟩, nV, pV, cV, oV, aV, g1⟩ := hW
    have hcl : (clsOf (E.map (·.name)) d.classes).length ≤ 64 := by have := (classesS_fine h0).1; simpa [clsOf] using this
    have hol : (d.ops.map (opR (E.map (·.name)) d.classes)).length ≤ 64 := by have := (opsS_fine h1).1; simpa using this
    refine (checkRoom_any C _ nV pV cV oV aV _ _ _ _ _ w W g1 (by omega) (by omega) (op_nums g1.st.same h0 h1) (cls_nums g1.st.same h0)).mono fun e W' ⟨he, hb⟩ => ⟨he, g1.st.below.trans (hb.mono g1.st.below.size), fun hx => ⟨⟨h0, h1, h2, h3, ?_⟩, g1.st.below.trans (hb.mono g1.st.below.size), g1.st.fns.below hb g1.st.fns.lt⟩⟩
    change (if roomFine (E.map Spot.place) (clsOf (E.map (·.name)) d.classes) (d.ops.map (opR (E.map (·.name)) d.classes)) = true then (0 : Int) else 11) = 0 at hx
    split at hx
    · assumption
    · cases hx
  | k + 7, hf, _ => simp [ptFns] at hf
end Go.Proofs.YtfhllbnpkcgfdaaGreatDoor
/-! Check of a machine whose registers are right and whose classes' names are too. -/
namespace Go.Proofs.YtfhllbnpkcgfdaaGreatDoor
open Go.RowKit
theorem firstPointsB [Inhabited Ghost] {w : World} {C : Nat} {m : MV} {d : MachD} {E : List Spot} (hR : ReadB w m d E) (hbase : w.heap.size ≤ C) (N : Nat) (hN : N ≤ 7) (hg : (default : Ghost).cs = ptCells C (ptFns.take N)) (W : World)
    (h0 : RunB w C m d (E.map (·.name)) (E.map Spot.place) 0 W) :
    Calls Tryz.prog 18 #[.slice (some ⟨(default : Ghost).b, 0, none⟩) N N] W (PtPost (fun W' => RunB w C m d (E.map (·.name)) (E.map Spot.place) N W' ∧ ∀ j, j < N → ptB d (E.map (·.name)) (E.map Spot.place) j = 0)
      (fun x W' => Below w.heap.size w W' ∧ ∃ k, k < N ∧ x = ptB d (E.map (·.name)) (E.map Spot.place) k ∧ ∀ j, j < k → ptB d (E.map (·.name)) (E.map Spot.place) j = 0)) := by
  have hl : (ptFns.take N).length = N := by rw [List.length_take]; exact Nat.min_eq_left hN
  have := first_any C (default : Ghost).b (ptFns.take N) (fun k W' => RunB w C m d (E.map (·.name)) (E.map Spot.place) k W' ∧ k ≤ N ∧ ∀ j, j < k → ptB d (E.map (·.name)) (E.map Spot.place) j = 0)
    (fun x W' => Below w.heap.size w W' ∧ ∃ k, k < N ∧ x = ptB d (E.map (·.name)) (E.map Spot.place) k ∧ ∀ j, j < k → ptB d (E.map (·.name)) (E.map Spot.place) j = 0) W (by omega)
    (fun k W' h => by have := runB_cells k W' h.1; rw [hg] at this; exact this)
    (fun f hf => by
      exact ptEnters f (List.mem_of_mem_take hf))
    (fun k f hf W' hW => by
      have hk : k < N := by have := (List.getElem?_eq_some_iff.1 hf).1; omega
      have hf' : ptFns[k]? = some f := by rw [List.getElem?_take] at hf; simpa [hk] using hf
      refine (pointsB hR hbase k f hf' W' hW.1).mono fun e W2 ⟨he, hb, h⟩ => ⟨_, he, fun hx => ⟨h hx, hk, fun j hj => ?_⟩, fun _ => ⟨hb, k, hk, rfl, hW.2.2⟩⟩
      by_cases hjk : j = k
      · rw [hjk]; exact hx
      · exact hW.2.2 j (by omega))
    ⟨h0, Nat.zero_le _, fun j hj => by omega⟩
  rw [hl] at this
  exact this.mono fun e W' ⟨x, he, h1, h2⟩ => ⟨x, he, fun hx => ⟨(h1 hx).1, (h1 hx).2.2⟩, h2⟩
theorem checkSB_all {d : MachD} {ns : List ByteArray} {ps : List Plc} (hnm : nameB d.name = true) (hne : ns ≠ []) (h : ∀ j, j < 7 → ptB d ns ps j = 0) : checkS nameB d 0 ns ps = 0 := by
  have h2 : classesS nameB ns ps d.classes = 0 := h 2 (by omega)
  have h3 : opsS ns ps d.classes d.ops = 0 := h 3 (by omega)
  have h4 : (if convFine ns ps d.args d.result d.saved d.slots = true then (0 : Int) else 10) = 0 := h 4 (by omega)
  have h5 : (if homesFine (clsOf ns d.classes) (regsL ns d.args ++ [regN ns d.result]) = true then (0 : Int) else 10) = 0 := h 5 (by omega)
  have h6 : (if roomFine ps (clsOf ns d.classes) (d.ops.map (opR ns d.classes)) = true then (0 : Int) else 11) = 0 := h 6 (by omega)
  unfold checkS
  rw [if_neg (by simp [hnm]), if_neg (by simp), if_neg hne, if_neg (by simp [h2]), if_neg (by simp [h3])]
  cases hc : convFine ns ps d.args d.result d.saved d.slots
  · rw [hc] at h4; cases h4
  · cases hh : homesFine (clsOf ns d.classes) (regsL ns d.args ++ [regN ns d.result])
    · rw [hh] at h5; cases h5
    · cases hr : roomFine ps (clsOf ns d.classes) (d.ops.map (opR ns d.classes))
      · rw [hr] at h6; cases h6
      · simp
theorem checkSB_at {d : MachD} {ns : List ByteArray} {ps : List Plc} (hnm : nameB d.name = true) (hne : ns ≠ []) {k : Nat} (hk : k < 7) (h : ∀ j, j < k → ptB d ns ps j = 0) (hx : ptB d ns ps k ≠ 0) : checkS nameB d 0 ns ps = ptB d ns ps k := by
  match k, hk, h, hx with
  | 0, _, _, hx => exact absurd rfl hx
  | 1, _, _, hx => exact absurd rfl hx
  | 2, _, h, hx =>
    have h2 : classesS nameB ns ps d.classes ≠ 0 := hx
    unfold checkS
    rw [if_neg (by simp [hnm]), if_neg (by simp), if_neg hne, if_pos h2]; rfl
  | 3, _, h, hx =>
    have h2 : classesS nameB ns ps d.classes = 0 := h 2 (by omega)
    have h3 : opsS ns ps d.classes d.ops ≠ 0 := hx
    unfold checkS
    rw [if_neg (by simp [hnm]), if_neg (by simp), if_neg hne, if_neg (by simp [h2]), if_pos h3]; rfl
  | 4, _, h, hx =>
    have h2 : classesS nameB ns ps d.classes = 0 := h 2 (by omega)
    have h3 : opsS ns ps d.classes d.ops = 0 := h 3 (by omega)
    have h4 : ¬ (if convFine ns ps d.args d.result d.saved d.slots = true then (0 : Int) else 10) = 0 := hx
    unfold checkS
    rw [if_neg (by simp [hnm]), if_neg (by simp), if_neg hne, if_neg (by simp [h2]), if_neg (by simp [h3])]
    show _ = (if convFine ns ps d.args d.result d.saved d.slots = true then (0 : Int) else 10)
    cases hc : convFine ns ps d.args d.result d.saved d.slots
    · simp
    · rw [hc] at h4; exact absurd rfl h4
  | 5, _, h, hx =>
    have h2 : classesS nameB ns ps d.classes = 0 := h 2 (by omega)
    have h3 : opsS ns ps d.classes d.ops = 0 := h 3 (by omega)
    have h4 : (if convFine ns ps d.args d.result d.saved d.slots = true then (0 : Int) else 10) = 0 := h 4 (by omega)
    have h5 : ¬ (if homesFine (clsOf ns d.classes) (regsL ns d.args ++ [regN ns d.result]) = true then (0 : Int) else 10) = 0 := hx
    unfold checkS
    rw [if_neg (by simp [hnm]), if_neg (by simp), if_neg hne, if_neg (by simp [h2]), if_neg (by simp [h3])]
    show _ = (if homesFine (clsOf ns d.classes) (regsL ns d.args ++ [regN ns d.result]) = true then (0 : Int) else 10)
    cases hc : convFine ns ps d.args d.result d.saved d.slots
    · rw [hc] at h4; cases h4
    · cases hh : homesFine (clsOf ns d.classes) (regsL ns d.args ++ [regN ns d.result])
      · simp
      · rw [hh] at h5; exact absurd rfl h5
  | 6, _, h, hx =>
    have h2 : classesS nameB ns ps d.classes = 0 := h 2 (by omega)
    have h3 : opsS ns ps d.classes d.ops = 0 := h 3 (by omega)
    have h4 : (if convFine ns ps d.args d.result d.saved d.slots = true then (0 : Int) else 10) = 0 := h 4 (by omega)
    have h5 : (if homesFine (clsOf ns d.classes) (regsL ns d.args ++ [regN ns d.result]) = true then (0 : Int) else 10) = 0 := h 5 (by omega)
    have h6 : ¬ (if roomFine ps (clsOf ns d.classes) (d.ops.map (opR ns d.classes)) = true then (0 : Int) else 11) = 0 := hx
    unfold checkS
    rw [if_neg (by simp [hnm]), if_neg (by simp), if_neg hne, if_neg (by simp [h2]), if_neg (by simp [h3])]
    show _ = (if roomFine ps (clsOf ns d.classes) (d.ops.map (opR ns d.classes)) = true then (0 : Int) else 11)
    cases hc : convFine ns ps d.args d.result d.saved d.slots
    · rw [hc] at h4; cases h4
    · cases hh : homesFine (clsOf ns d.classes) (regsL ns d.args ++ [regN ns d.result])
      · rw [hh] at h5; cases h5
      · cases hr : roomFine ps (clsOf ns d.classes) (d.ops.map (opR ns d.classes))
        · simp
        · rw [hr] at h6; exact absurd rfl h6
set_option maxRecDepth 100000 in
set_option maxHeartbeats 4000000 in
theorem check_read {w : World} {m : MV} {d : MachD} {E : List Spot} (hR : ReadB w m d E) :
    Calls Tryz.prog 7 #[m.val] w fun e w' => e = .returned (.int .i64 (checkS nameB d 0 (E.map (·.name)) (E.map Spot.place))) ∧ Below w.heap.size w w' := by
  have hBF : Below w.heap.size w (worldF w m 7) := (((Below.refl _ _).alloc (Nat.le_refl _) _).alloc (by simp) _).alloc (by simp; omega) _
  have K : Calls Tryz.prog 18 #[.slice (some ⟨w.heap.size + 1 + 1, 0, none⟩) 7 7] (worldF w m 7) fun e w' => e = .returned (.int .i64 (checkS nameB d 0 (E.map (·.name)) (E.map Spot.place))) ∧ Below w.heap.size w w' := by
    letI : Inhabited Ghost := ⟨⟨w.heap.size + 1 + 1, ptCells (w.heap.size + 1) (ptFns.take 7)⟩⟩
    have hCh : ChkAt (worldF w m 7) (w.heap.size + 1) m.fresh := by
      have := (Cells.new (w.alloc (.cells #[.string m.name, .slice m.regs.a m.regs.n m.regs.c, .slice m.classes.a m.classes.n m.classes.c, .slice m.ops.a m.ops.n m.ops.c, .slice m.args.a m.args.n m.args.c, .string m.result, .slice m.saved.a m.saved.n m.saved.c, .int .i64 m.slots] 27)) 57 m.fresh.cells).alloc (.cells (ptCells (w.heap.size + 1) (ptFns.take 7)) 59)
      rw [World.size_alloc] at this; exact this
    have hF : Cells (worldF w m 7) (w.heap.size + 1 + 1) 59 (ptCells (w.heap.size + 1) (ptFns.take 7)) := by
      have := Cells.new ((w.alloc (.cells #[.string m.name, .slice m.regs.a m.regs.n m.regs.c, .slice m.classes.a m.classes.n m.classes.c, .slice m.ops.a m.ops.n m.ops.c, .slice m.args.a m.args.n m.args.c, .string m.result, .slice m.saved.a m.saved.n m.saved.c, .int .i64 m.slots] 27)).alloc (.cells m.fresh.cells 57)) 59 (ptCells (w.heap.size + 1) (ptFns.take 7))
      rw [World.size_alloc, World.size_alloc] at this; exact this
    have hnn : E.map (fun x : Spot => x.name) ≠ [] := by intro h; exact hR.ne (List.map_eq_nil_iff.1 h)
    refine (firstPointsB hR (C := w.heap.size + 1) (by omega) 7 (Nat.le_refl _) rfl (worldF w m 7) ⟨hBF, hCh, hF⟩).mono fun e W' ⟨x, he, h1, h2⟩ => ?_
    by_cases hx : x = 0
    · obtain ⟨hI, hall⟩ := h1 hx
      have hb : Below w.heap.size w W' := hI.2.1
      exact ⟨by rw [he, hx, checkSB_all hR.name hnn hall], hb⟩
    · obtain ⟨hb, k, hk, hxk, hj⟩ := h2 hx
      exact ⟨by rw [he, hxk, checkSB_at hR.name hnn hk hj (by rw [← hxk]; exact hx)], hb⟩
  unfold worldF MV.fresh CV.cells ptCells ptFns at K
  unfold MV.val
  simp only [List.take_succ_cons, List.take_zero, List.map_cons, List.map_nil] at K
  clear hR hBF
  go_enter Tryz.func7, Tryz.ntmps7
  go_wp2_with (go_at_call 18; go_loud (refine K.mono ?_; clear K; rintro e W1 ⟨rfl, hb⟩))
  go_ret
  exact ⟨rfl, hb⟩
end Go.Proofs.YtfhllbnpkcgfdaaGreatDoor
/-! Fits and Pair, of a machine that reads without an error. -/
namespace Go.Proofs.YtfhllbnpkcgfdaaGreatDoor
open Go.RowKit
set_option maxRecDepth 100000 in
set_option maxHeartbeats 4000000 in
theorem fitsOp_read {w : World} {m : MV} {d : MachD} {E : List Spot} (hR : ReadB w m d E) (h0 : classesS nameB (E.map (·.name)) (E.map Spot.place) d.classes = 0) (h1 : opsS (E.map (·.name)) (E.map Spot.place) d.classes d.ops = 0) (k : Nat) (o : OpD) (ho : d.ops[k]? = some o) :
    Calls Tryz.prog 13 #[m.val, .int .i64 k] w fun e w' => e = .returned (.bool (fitsB (E.map Spot.place) (opR (E.map (·.name)) d.classes o))) ∧ Below w.heap.size w w' := by
  have K : Calls Tryz.prog 18 #[.slice (some ⟨w.heap.size + 1 + 1, 0, none⟩) 4 4] (worldF w m 4) fun e W => e = .returned (.int .i64 0) ∧ Below w.heap.size w W ∧
      ∃ (b oc : Nat) (dv uv kv : SlV), W.cell? ⟨w.heap.size + 1, 11, none⟩ = some (.slice (some ⟨b, 0, none⟩) d.ops.length oc) ∧ W.cell? ⟨b, k * 4, none⟩ = some (.slice dv.a dv.n dv.c) ∧ W.cell? ⟨b, k * 4 + 1, none⟩ = some (.slice uv.a uv.n uv.c) ∧ W.cell? ⟨b, k * 4 + 2, none⟩ = some (.int .i64 o.tie) ∧ W.cell? ⟨b, k * 4 + 3, none⟩ = some (.slice kv.a kv.n kv.c) ∧
        Calls Tryz.prog 39 #[.pointer (some ⟨w.heap.size + 1, 0, none⟩), .agg #[.slice dv.a dv.n dv.c, .slice uv.a uv.n uv.c, .int .i64 o.tie, .slice kv.a kv.n kv.c]] W fun e w' => e = .returned (.bool (fitsB (E.map Spot.place) (opR (E.map (·.name)) d.classes o))) ∧ Below W.heap.size W w' := by
    letI : Inhabited Ghost := ⟨⟨w.heap.size + 1 + 1, ptCells (w.heap.size + 1) (ptFns.take 4)⟩⟩
    obtain ⟨hBF, hCh, hF⟩ := worldF_start (w := w) (m := m) 4
    refine (firstPointsB hR (C := w.heap.size + 1) (by omega) 4 (by omega) rfl (worldF w m 4) ⟨hBF, hCh, hF⟩).mono fun e W ⟨x, he, g1, g2⟩ => ?_
    by_cases hx : x = 0
    · obtain ⟨⟨_, nV, pV, cV, oV, hRd⟩, _⟩ := g1 hx
      have hok : (d.ops.map (opR (E.map (·.name)) d.classes))[k]? = some (opR (E.map (·.name)) d.classes o) := by rw [List.getElem?_map, ho]; rfl
      obtain ⟨b, ⟨dv, uv, kv, tv⟩, e1, e2, e3, z0, z1, z2, z3, hO⟩ := hRd.ops.get hok
      have c11 := hRd.st.chk.cell (j := 11) (v := .slice oV.a oV.n oV.c) rfl
      dsimp only at e1 e2 z0 z1 z2 z3 hO
      rw [List.length_map] at e2
      rw [e1, e2] at c11
      have hN := op_num hRd.st.same h0 ((opsS_fine h1).2 o (List.mem_of_getElem? ho))
      exact ⟨by rw [he, hx], hRd.st.below, b, oV.c, dv, uv, kv, c11, z0, z1, z2, z3, fits_any _ _ _ dv uv kv _ _ _ _ W hRd.st.chk hRd.st.placesAt hO hN.tie hN.few hN.d hN.u hN.k⟩
    · obtain ⟨_, j, hj, hxj, _⟩ := g2 hx
      exfalso
      apply hx
      rw [hxj]
      match j, hj with
      | 0, _ => rfl
      | 1, _ => rfl
      | 2, _ => exact h0
      | 3, _ => exact h1
  have hkl : k < d.ops.length := (List.getElem?_eq_some_iff.1 ho).1
  have k0 : (0 : Int) ≤ k := Int.natCast_nonneg _
  have k1 : (k : Int) < d.ops.length := by omega
  unfold worldF MV.fresh CV.cells ptCells ptFns at K
  unfold MV.val
  simp only [List.take_succ_cons, List.take_zero, List.map_cons, List.map_nil] at K
  clear hR h0 h1 ho
  go_enter Tryz.func13, Tryz.ntmps13
  go_wp2_with (first
    | (go_at_call 18; refine K.mono ?_; clear K; rintro e W1 ⟨rfl, hb, b, oc, dv, uv, kv, c11, z0, z1, z2, z3, K2⟩)
    | (go_at_call 39; refine K2.mono ?_; clear K2; rintro e W2 ⟨rfl, hb2⟩))
  go_ret
  exact ⟨rfl, hb.trans (hb2.mono hb.size)⟩
end Go.Proofs.YtfhllbnpkcgfdaaGreatDoor
/-! Pair, of a machine whose registers and classes read without an error. -/
namespace Go.Proofs.YtfhllbnpkcgfdaaGreatDoor
open Go.RowKit
set_option maxRecDepth 100000 in
set_option maxHeartbeats 8000000 in
theorem pair_read {w : World} {m : MV} {d : MachD} {E : List Spot} (hR : ReadB w m d E) (h0 : classesS nameB (E.map (·.name)) (E.map Spot.place) d.classes = 0) (i j : Nat) (la lb : List Int) (hla : (clsOf (E.map (·.name)) d.classes)[i]? = some la) (hlb : (clsOf (E.map (·.name)) d.classes)[j]? = some lb) :
    Calls Tryz.prog 14 #[m.val, .int .i64 i, .int .i64 j] w fun e w' => e = .returned (.bool (togetherB (E.map Spot.place) [la, lb])) ∧ Below w.heap.size w w' := by
  have K : Calls Tryz.prog 18 #[.slice (some ⟨w.heap.size + 1 + 1, 0, none⟩) 3 3] (worldF w m 3) fun e W => e = .returned (.int .i64 0) ∧ Below w.heap.size w W ∧
      ∃ (b o cc : Nat) (va vb : SlV), W.cell? ⟨w.heap.size + 1, 10, none⟩ = some (.slice (some ⟨b, o, none⟩) d.classes.length cc) ∧ W.cell? ⟨b, o + i, none⟩ = some (.slice va.a va.n va.c) ∧ W.cell? ⟨b, o + j, none⟩ = some (.slice vb.a vb.n vb.c) ∧
        ∀ V, Below (W.alloc (.cells #[.slice va.a va.n va.c, .slice vb.a vb.n vb.c] 55)).heap.size (W.alloc (.cells #[.slice va.a va.n va.c, .slice vb.a vb.n vb.c] 55)) V →
          Calls Tryz.prog 40 #[.pointer (some ⟨w.heap.size + 1, 0, none⟩), .slice (some ⟨W.heap.size, 0, none⟩) 2 2] V fun e w' => e = .returned (.bool (togetherB (E.map Spot.place) [la, lb])) ∧ Below W.heap.size W w' := by
    letI : Inhabited Ghost := ⟨⟨w.heap.size + 1 + 1, ptCells (w.heap.size + 1) (ptFns.take 3)⟩⟩
    obtain ⟨hBF, hCh, hF⟩ := worldF_start (w := w) (m := m) 3
    refine (firstPointsB hR (C := w.heap.size + 1) (by omega) 3 (by omega) rfl (worldF w m 3) ⟨hBF, hCh, hF⟩).mono fun e W ⟨x, he, g1, g2⟩ => ?_
    by_cases hx : x = 0
    · obtain ⟨⟨_, nV, pV, cV, hS, hL⟩, _⟩ := g1 hx
      obtain ⟨b, o, va, e1, z1, e3, e4, _, _⟩ := hL.lists.get hla
      obtain ⟨b2, o2, vb, f1, z2, f3, f4, _, _⟩ := hL.lists.get hlb
      have hlen := hL.lists.len
      have c10 := hS.chk.cell (j := 10) (v := .slice cV.a cV.n cV.c) rfl
      rw [f1] at e1
      cases e1
      have hll : (clsOf (E.map (·.name)) d.classes).length = d.classes.length := by simp [clsOf]
      rw [f1, hlen, hll] at c10
      refine ⟨by rw [he, hx], hS.below, _, _, cV.c, va, vb, c10, z1, z2, fun V hV => ?_⟩
      have hb1 : Below W.heap.size W (W.alloc (.cells #[.slice va.a va.n va.c, .slice vb.a vb.n vb.c] 55)) := (Below.refl _ _).alloc (Nat.le_refl _) _
      have hbV := hb1.trans (hV.mono hb1.size)
      have hS' := hS.step hbV
      have hn := cls_nums hS.same h0
      refine (together_any _ _ _ ⟨some ⟨W.heap.size, 0, none⟩, 2, 2⟩ [la, lb] V hS'.chk hS'.placesAt ((listsB_two e3.at_ f3.at_ e4 f4).below hV) (by simp) (fun l hl => ?_)).mono fun e w' ⟨he, hb⟩ => ⟨he, hbV.trans (hb.mono hbV.size)⟩
      rcases List.mem_cons.1 hl with rfl | hl
      · exact hn _ (List.mem_of_getElem? hla)
      · have : l = lb := by simpa using hl
        subst this; exact hn _ (List.mem_of_getElem? hlb)
    · obtain ⟨_, q, hq, hxq, _⟩ := g2 hx
      exfalso
      apply hx
      rw [hxq]
      match q, hq with
      | 0, _ => rfl
      | 1, _ => rfl
      | 2, _ => exact h0
  have hil : i < d.classes.length := by have := (List.getElem?_eq_some_iff.1 hla).1; simpa [clsOf] using this
  have hjl : j < d.classes.length := by have := (List.getElem?_eq_some_iff.1 hlb).1; simpa [clsOf] using this
  have i0 : (0 : Int) ≤ i := Int.natCast_nonneg _
  have j0 : (0 : Int) ≤ j := Int.natCast_nonneg _
  have i1 : (i : Int) < d.classes.length := by omega
  have j1 : (j : Int) < d.classes.length := by omega
  have hmin : (0 : Int) ≤ min (i : Int) j := by omega
  have hmax : max (i : Int) (j : Int) < d.classes.length := by omega
  unfold worldF MV.fresh CV.cells ptCells ptFns at K
  unfold MV.val
  simp only [List.take_succ_cons, List.take_zero, List.map_cons, List.map_nil] at K
  clear hR h0 hla hlb
  go_enter Tryz.func14, Tryz.ntmps14
  go_wp2_with (go_at_call 18; refine K.mono ?_; clear K; rintro e W1 ⟨rfl, hb, b, o, cc, va, vb, c10, z1, z2, K2⟩)
  go_region_held3 (fun w' => w'.cell? ⟨w.heap.size + 1, 10, none⟩ = some (.slice (some ⟨b, o, none⟩) d.classes.length cc) ∧ w'.cell? ⟨b, o + i, none⟩ = some (.slice va.a va.n va.c) ∧ w'.cell? ⟨b, o + j, none⟩ = some (.slice vb.a vb.n vb.c))
    (go_keep)
    ((go_at_call 40; refine (K2 _ (by first | exact Below.refl _ _ | exact (Below.refl _ _).drew)).mono ?_; rintro e W2 ⟨rfl, hb2⟩; have k0 := cell_below hb2 c10; have k1 := cell_below hb2 z1; have k2 := cell_below hb2 z2))
  all_goals
    go_wp2_with fail
    go_ret
    exact ⟨rfl, hb.trans (hb2.mono hb.size)⟩
end Go.Proofs.YtfhllbnpkcgfdaaGreatDoor
