/-
  Check of a machine whose registers are a plain machine's, whatever its classes, operations, convention.
-/
import Derived.Test.YtanbjaohmhoohaaGreatDoorSmOne
namespace Go.Proofs.YtanbjaohmhoohaaGreatDoor
open Go.RowKit

theorem readable_mk {n base : Nat} {mv : MV} {d : MachD} {W : World} (hE : Env W) (h1 : 1 ≤ n) (hn : n ≤ 64)
    (hr : W.ownsRow base 44 4 (.slice mv.regs.a mv.regs.n mv.regs.c) n (sCells n))
    (hres : mv.result = d.result) (hsl : mv.slots = d.slots) (hnm : IsName mv.name ∧ NotWord mv.name)
    (hcl : ClassesAt W mv.classes d.classes) (hcn : ∀ k : ClassD, k ∈ d.classes → IsName k.name ∧ NotWord k.name)
    (hcnew : ∀ (i : Nat) (k : ClassD), d.classes[i]? = some k → idxP (fun x : ClassD => eqB x.name k.name) (d.classes.take i) = -1)
    (hcnr : ∀ k : ClassD, k ∈ d.classes → regN (sNames n) k.name = -1)
    (hops : OpsAt W mv.ops d.ops) (hnice : ∀ o : OpD, o ∈ d.ops → OpNice (sNames n) (plN n) d.classes o) (hub : ∀ o : OpD, o ∈ d.ops → o.uses.length ≤ 100000)
    (honew : ∀ (i : Nat) (o : OpD), d.ops[i]? = some o → idxP (fun x : OpD => eqB x.name o.name) (d.ops.take i) = -1)
    (hargs : StrsAt W mv.args d.args) (hsaved : StrsAt W mv.saved d.saved) : Readable W mv d (spotsOut 0 (smL n 0)) := by
  have hln := smL_len n
  have hnms := smL_names n
  have hpl := smL_places n
  exact {
    env := hE
    result := hres
    slots := hsl
    name := fun V hb => mdIsName_yes _ V (hE.below hb) hnm.1 hnm.2
    ne := fun e => by rw [e] at hln; simp at hln; omega
    few := by omega
    ok := fun p hp => by
      rw [hpl] at hp
      obtain ⟨j, _, rfl⟩ := List.mem_map.1 hp
      exact ⟨show (0 : Int) ≤ 0 by decide, show (0 : Int) ≤ 1000 by decide, show (1 : Int) ≤ 8 by decide, show (8 : Int) ≤ 1000 by decide⟩
    places := fun V hb => by
      have hr := ownsRow_below hr hb
      obtain ⟨m, rfl⟩ : ∃ m, n = m + 1 := ⟨n - 1, by omega⟩
      obtain ⟨g, cap, hv⟩ := ownsRow_succ hr
      have hgl : g < V.heap.size := by
        rw [hv] at hr
        obtain ⟨_, cur, hcur⟩ := ownsRow_block hr rfl
        exact hcur.lt
      rw [hv] at hr
      have hL : HoldsAt V.heap.size V g 0 (smL (m + 1) 0) := by
        have := smL_holds (W := V) (g := g) (n₀ := V.heap.size) (n := m + 1) hgl (fun j x hj => ownsRow_cell hr hj) (m + 1) 0 (by omega)
        simpa using this
      have P := places_ok g 0 cap (smL (m + 1) 0) V (hE.below hb) hL (smL_small _ _) (by have := smL_height (m + 1) 0; omega) (by rw [smL_length]; omega)
        (fine_out hL (smL_sound (m + 1) hn (m + 1) 0 (by omega)) (by rw [smL_names]; exact sNames_nodup _ hn) (by rw [smL_len]; omega))
      rw [smL_length] at P
      rw [hv]; exact P
    classes := hcl
    cnm := fun k hk V hV => mdIsName_yes _ V hV (hcn k hk).1 (hcn k hk).2
    cnew := hcnew
    cnr := fun k hk => by rw [hnms]; exact hcnr k hk
    ops := hops
    onice := fun o ho => by rw [hnms, hpl]; exact hnice o ho
    oub := hub
    onew := honew
    args := hargs
    saved := hsaved }

theorem check_mk {n : Nat} {mv : MV} {d : MachD} {W : World} {x : Int} (hR : Readable W mv d (spotsOut 0 (smL n 0))) (hx : checkS (fun _ => true) d 0 (sNames n) (plN n) = x) :
    Calls Tryz.prog 11 #[mv.val] W fun e w' => e = .returned (.int .i64 x) ∧ Below W.heap.size W w' := by
  have := check_any hR
  rw [smL_names, smL_places, hx] at this
  exact this

/-- Check of a machine whose name is none. -/
theorem ptEnters (f : Nat) (hf : f ∈ ptFns) : ∀ args w, (callFunc f args).run Tryz.prog w = .ok (.enter f args) w := by
  simp only [ptFns, List.mem_cons, List.not_mem_nil, or_false] at hf
  rcases hf with rfl | rfl | rfl | rfl | rfl | rfl | rfl
  · exact enters_of Tryz.func23 (by kernel_rfl) rfl
  · exact enters_of Tryz.func24 (by kernel_rfl) rfl
  · exact enters_of Tryz.func25 (by kernel_rfl) rfl
  · exact enters_of Tryz.func26 (by kernel_rfl) rfl
  · exact enters_of Tryz.func27 (by kernel_rfl) rfl
  · exact enters_of Tryz.func28 (by kernel_rfl) rfl
  · exact enters_of Tryz.func29 (by kernel_rfl) rfl

set_option maxRecDepth 100000 in
set_option maxHeartbeats 4000000 in
/-- Check of a machine whose name is none, or whose registers Places refuses. -/
theorem check_early {w : World} {m : MV} (ok : Bool) (x : Int) (hx : x ≠ 0)
    (hnm : ∀ W, Below w.heap.size w W → Calls Tryz.prog 45 #[.string m.name] W fun e w' => e = .returned (.bool ok) ∧ Below W.heap.size W w')
    (hbad : ok = false → x = 5) (hpl : ok = true → ∀ W, Below w.heap.size w W → Calls Tryz.prog 46 #[.slice m.regs.a m.regs.n m.regs.c] W (PlacesFell W x)) :
    Calls Tryz.prog 11 #[m.val] w fun e w' => e = .returned (.int .i64 x) ∧ Below w.heap.size w w' := by
  have hBF : Below w.heap.size w (worldF w m 7) := (((Below.refl _ _).alloc (Nat.le_refl _) _).alloc (by simp) _).alloc (by simp; omega) _
  have K : Calls Tryz.prog 22 #[.slice (some ⟨w.heap.size + 1 + 1, 0, none⟩) 7 7] (worldF w m 7) fun e w' => e = .returned (.int .i64 x) ∧ Below w.heap.size w w' := by
    have hCh : ChkAt (worldF w m 7) (w.heap.size + 1) m.fresh := by
      have := (Cells.new (w.alloc (.cells #[.string m.name, .slice m.regs.a m.regs.n m.regs.c, .slice m.classes.a m.classes.n m.classes.c, .slice m.ops.a m.ops.n m.ops.c, .slice m.args.a m.args.n m.args.c, .string m.result, .slice m.saved.a m.saved.n m.saved.c, .int .i64 m.slots] 27)) 63 m.fresh.cells).alloc (.cells (ptCells (w.heap.size + 1) (ptFns.take 7)) 65)
      rw [World.size_alloc] at this; exact this
    have hF : Cells (worldF w m 7) (w.heap.size + 1 + 1) 65 (ptCells (w.heap.size + 1) (ptFns.take 7)) := by
      have := Cells.new ((w.alloc (.cells #[.string m.name, .slice m.regs.a m.regs.n m.regs.c, .slice m.classes.a m.classes.n m.classes.c, .slice m.ops.a m.ops.n m.ops.c, .slice m.args.a m.args.n m.args.c, .string m.result, .slice m.saved.a m.saved.n m.saved.c, .int .i64 m.slots] 27)).alloc (.cells m.fresh.cells 63)) 65 (ptCells (w.heap.size + 1) (ptFns.take 7))
      rw [World.size_alloc, World.size_alloc] at this; exact this
    have F := first_any (w.heap.size + 1) (w.heap.size + 1 + 1) ptFns
      (fun k W => (k = 0 ∨ k = 1 ∧ ok = true) ∧ Below w.heap.size w W ∧ ChkAt W (w.heap.size + 1) m.fresh ∧ Cells W (w.heap.size + 1 + 1) 65 (ptCells (w.heap.size + 1) ptFns))
      (fun y W => y = x ∧ Below w.heap.size w W) (worldF w m 7) (by decide) (fun k W h => h.2.2.2) (fun f hf => ptEnters f hf)
      (fun k f hf W ⟨hk, hb, hC, hFn⟩ => by
        rcases hk with rfl | ⟨rfl, hok⟩
        · cases hf
          refine (checkName_any (w.heap.size + 1) _ ok W hC (hnm W hb)).mono fun e W' ⟨he, hb'⟩ => ⟨_, he, fun h0 => ⟨.inr ⟨rfl, ?_⟩, hb.trans (hb'.mono hb.size), hC.below hb' hC.lt, hFn.below hb' hFn.lt⟩, fun h0 => ⟨?_, hb.trans (hb'.mono hb.size)⟩⟩
          · cases ok with
            | true => rfl
            | false => exact absurd h0 (by decide)
          · cases ok with
            | true => exact absurd rfl h0
            | false => exact (hbad rfl).symm
        · cases hf
          refine (readRegs_fell (w.heap.size + 1) _ x w W hb (by omega) hC hx (hpl hok W hb)).mono fun e W' ⟨he, hb'⟩ => ⟨_, he, fun h0 => absurd h0 hx, fun _ => ⟨rfl, hb'⟩⟩)
      ⟨.inl rfl, hBF, hCh, hF⟩
    refine F.mono fun e W' ⟨y, he, h1, h2⟩ => ?_
    by_cases hy : y = 0
    · rcases (h1 hy).1 with h | ⟨h, _⟩ <;> exact absurd h (by decide)
    · obtain ⟨rfl, hb⟩ := h2 hy
      exact ⟨he, hb⟩
  unfold worldF MV.fresh CV.cells ptCells ptFns at K
  unfold MV.val
  simp only [List.take_succ_cons, List.take_zero, List.map_cons, List.map_nil] at K
  clear hBF hnm hpl
  go_enter Tryz.func11, Tryz.ntmps11
  go_wp2_with (go_at_call 22; go_loud (refine K.mono ?_; clear K; rintro e W1 ⟨rfl, hb⟩))
  go_ret
  exact ⟨rfl, hb⟩
end Go.Proofs.YtanbjaohmhoohaaGreatDoor
