/-
  A description among the arguments, opened: what is read of it lies in memory as the texts on Check ask.
-/
import Derived.Test.YtfhllbnpkcgfdaaGreatDoorBiA
import Derived.ChangeArms
import Derived.ChangeShapes
import Derived.DataReads
import Derived.SizedLaws
import Derived.KernelRfl
namespace Go.Proofs.YtfhllbnpkcgfdaaGreatDoor
open Go.ChangeShapes Go.WideShapes Go.RowKit
/-- A list out of one for each place. -/
theorem pick {α : Type} {Q : Nat → α → Prop} (n : Nat) (h : ∀ k, k < n → ∃ x, Q k x) : ∃ l : List α, l.length = n ∧ ∀ k x, l[k]? = some x → Q k x := by
  refine ⟨List.ofFn fun i : Fin n => Classical.choose (h i.1 i.2), by simp, fun k x hk => ?_⟩
  obtain ⟨hlt, rfl⟩ := List.getElem?_eq_some_iff.1 hk
  rw [List.getElem_ofFn]
  exact Classical.choose_spec (h k (by simpa using hlt))
section
variable {H : Type} {enc : TypeId × Value → H} {P : Program} {w : World} {base : Nat} {sp : Nat → Bool} {held : Bool}
/-- No part of a datum is larger than memory. -/
def Fits47 (P : Program) (t : TypeId) (d : DataW H) : Prop := ∀ m, m ∈ d.weights P t → m ≤ 140737488355328
theorem weightsAll_mem {e : TypeId} : ∀ {l : List (DataW H)} {k : Nat} {d : DataW H}, l[k]? = some d → ∀ m, m ∈ d.weights P e → m ∈ DataW.weightsAll P e l
  | x :: r, 0, d, hk, m, hm => by
    simp only [List.getElem?_cons_zero, Option.some.injEq] at hk
    subst hk
    simp only [DataW.weightsAll, List.mem_append]; exact .inl hm
  | x :: r, k + 1, d, hk, m, hm => by
    simp only [List.getElem?_cons_succ] at hk
    simp only [DataW.weightsAll, List.mem_append]; exact .inr (weightsAll_mem hk m hm)
  | [], _, _, hk, _, _ => by simp at hk
/-- A slice among what is read: its elements' cells, each read. -/
theorem open_rows {t e : TypeId} {fuel : Nat} {cs : List Value} {x : DataW H × List MemPlace} (hsp : ∀ b, sp b = true) (ht : P.underlying t = some (.slice e)) (hpos : 0 < P.cellsOf e)
    (h : DataW.trod enc P w base sp held fuel t cs = some x) :
    ∃ (a : Option Addr) (len cap n : Nat), fuel = n + 1 ∧ cs = [.slice a len cap] ∧ len ≤ cap ∧ ((len = 0 ∧ cap = 0) ∨ ∃ b o, a = some ⟨b, o, none⟩) ∧ (0 < len → ∃ m, m ∈ x.1.weights P t ∧ len * P.bytesOf e ≤ m) ∧
      ∀ k, k < len → ∃ b o c y, a = some ⟨b, o, none⟩ ∧ b < w.heap.size ∧ c.length = P.cellsOf e ∧ (∀ j, j < P.cellsOf e → w.cell? ⟨b, o + k * P.cellsOf e + j, none⟩ = c[j]?) ∧
        DataW.trod enc P w base sp held n e c = some y ∧ ∀ m, m ∈ y.1.weights P e → m ∈ x.1.weights P t := by
  rcases DataW.trod_slice ht h with ⟨rfl, rfl⟩ | ⟨a, len, cap, elems, rest, n, hf, rfl, rfl, hb, hl, hm, hlen, hel, hs, _⟩
  · cases fuel with
    | zero => simp [DataW.trod] at h
    | succ n => exact ⟨none, 0, 0, n, rfl, rfl, Nat.le_refl _, .inl ⟨rfl, rfl⟩, fun h => absurd h (Nat.lt_irrefl _), fun k hk => absurd hk (Nat.not_lt_zero _)⟩
  · obtain ⟨hrl, hr⟩ := hs (hsp _)
    have cellOf : ∀ (k : Nat) (c : List Value), w.cells? base (a.add (k * P.cellsOf e)) (P.cellsOf e) = some c → ∃ v, w.cell? ((a.add (k * P.cellsOf e)).add 0) = some v := fun k c hc => by
      obtain ⟨_, hcl, hcc⟩ := World.cells?_some hc
      have := hcc 0 hpos
      rw [List.getElem?_eq_getElem (by omega)] at this
      exact ⟨_, this⟩
    have hW : DataW.weights P t (.slice (elems.map (·.1)) (rest.map (·.1))) = ((elems.map (·.1)).length + (rest.map (·.1)).length) * P.bytesOf e :: (DataW.weightsAll P e (elems.map (·.1)) ++ DataW.weightsAll P e (rest.map (·.1))) := by
      simp only [DataW.weights, ht]
    have hspot : 0 < cap → a.spot = none := fun hc => by
      by_cases h0 : 0 < len
      · have h1 := hel 0 h0
        obtain ⟨y, hy⟩ : ∃ y, elems[0]? = some y := ⟨elems[0]'(by omega), List.getElem?_eq_getElem _⟩
        rw [hy, Option.bind_eq_some_iff] at h1
        obtain ⟨c, hc1, _⟩ := h1
        obtain ⟨v, hv⟩ := cellOf 0 c hc1
        simpa [Addr.add] using World.cell?_spot hv
      · have hlen0 : len = 0 := by omega
        have h1 := hr 0 (by omega)
        obtain ⟨y, hy⟩ : ∃ y, rest[0]? = some y := ⟨rest[0]'(by omega), List.getElem?_eq_getElem _⟩
        rw [hy, Option.bind_eq_some_iff] at h1
        obtain ⟨c, hc1, _⟩ := h1
        obtain ⟨v, hv⟩ := cellOf (len + 0) c hc1
        rw [hlen0] at hv
        simpa [Addr.add] using World.cell?_spot hv
    obtain ⟨b, o, spot⟩ := a
    refine ⟨some ⟨b, o, spot⟩, len, cap, n, hf, rfl, hl, ?_, fun h0 => ⟨_, by rw [hW]; exact List.mem_cons_self, Nat.mul_le_mul_right _ (by simp; omega)⟩, fun k hk => ?_⟩
    · by_cases hc : 0 < cap
      · obtain rfl : spot = none := hspot hc
        exact .inr ⟨b, o, rfl⟩
      · exact .inl ⟨by omega, by omega⟩
    · obtain rfl : spot = none := hspot (by omega)
      have h1 := hel k hk
      obtain ⟨y, hy⟩ : ∃ y, elems[k]? = some y := ⟨elems[k]'(by omega), List.getElem?_eq_getElem _⟩
      rw [hy, Option.bind_eq_some_iff] at h1
      obtain ⟨c, hc1, hy1⟩ := h1
      have hblk := World.cells?_block hc1 hpos
      obtain ⟨_, hcl, hcc⟩ := World.cells?_some hc1
      rw [add_plain] at hblk hcc
      refine ⟨b, o, c, y, rfl, hblk, hcl, fun j hj => ?_, hy1, fun m hm => ?_⟩
      · have := hcc j hj
        rwa [add_plain] at this
      · rw [hW]
        exact List.mem_cons_of_mem _ (List.mem_append_left _ (weightsAll_mem (k := k) (by rw [List.getElem?_map, hy]; rfl) m hm))
/-- A struct among what is read: each of its fields. -/
theorem open_fields {t : TypeId} {fs : Array Field} {fuel : Nat} {cs : List Value} {x : DataW H × List MemPlace} (ht : P.underlying t = some (.struct fs)) (h : DataW.trod enc P w base sp held fuel t cs = some x) :
    ∃ n, fuel = n + 1 ∧ cs.length = P.cellsOf t ∧ ∀ (i : Nat) (u : TypeId) (o : Nat), (fs[i]?).map (fun f => (f.type, f.offset)) = some (u, o) → ∃ y, DataW.trod enc P w base sp held n u ((cs.drop o).take (P.cellsOf u)) = some y ∧ ∀ m, m ∈ y.1.weights P u → m ∈ x.1.weights P t := by
  obtain ⟨xs, n, hf, rfl, hl, hlen, hall⟩ := DataW.trod_struct ht h
  refine ⟨n, hf, hl, fun i u o hfu => ?_⟩
  obtain ⟨f, hfi, hfe⟩ := Option.map_eq_some_iff.1 hfu
  obtain ⟨rfl, rfl⟩ := Prod.mk.inj hfe
  have hi := (Array.getElem?_eq_some_iff.1 hfi).1
  obtain ⟨y, hy⟩ : ∃ y, xs[i]? = some y := ⟨xs[i]'(by omega), List.getElem?_eq_getElem _⟩
  refine ⟨y, (hall i f hfi).trans hy, fun m hm => ?_⟩
  have hW : DataW.weights P t (.agg (xs.map (·.1))) = DataW.weightsEach P (fs.toList.map (·.type)) (xs.map (·.1)) := by simp only [DataW.weights, ht]
  rw [hW]
  exact DataW.weights_mem_each (j := i) (t := f.type) (d := y.1) (by rw [List.getElem?_map]; simp [hfi]) (by rw [List.getElem?_map, hy]; rfl) m hm
theorem open_str {t : TypeId} {fuel : Nat} {cs : List Value} {x : DataW H × List MemPlace} (ht : P.underlying t = some .string) (h : DataW.trod enc P w base sp held fuel t cs = some x) (hf : Fits47 P t x.1) :
    ∃ s : ByteArray, cs = [.string s] ∧ s.size ≤ 140737488355328 := by
  obtain ⟨s, rfl, rfl, _⟩ := DataW.trod_string ht h
  refine ⟨s, rfl, ?_⟩
  have := hf s.data.toList.length (by simp [DataW.weights])
  simpa using this
theorem one_at {c : List Value} {i : Nat} {v : Value} (h : (c.drop i).take 1 = [v]) : c[i]? = some v := by
  have h1 : ((c.drop i).take 1)[0]? = some v := by rw [h]; rfl
  rw [List.getElem?_take_of_lt (by decide), List.getElem?_drop] at h1
  exact h1
end
theorem cellsOf_str : Tryz.prog.cellsOf 9 = 1 := by kernel_rfl
theorem cellsOf_int : Tryz.prog.cellsOf 3 = 1 := by kernel_rfl
theorem cellsOf_strs : Tryz.prog.cellsOf 25 = 1 := by kernel_rfl
theorem cellsOf_oper : Tryz.prog.cellsOf 48 = 2 := by kernel_rfl
theorem cellsOf_opers : Tryz.prog.cellsOf 49 = 1 := by kernel_rfl
theorem cellsOf_op : Tryz.prog.cellsOf 51 = 6 := by kernel_rfl
theorem cellsOf_ops : Tryz.prog.cellsOf 24 = 1 := by kernel_rfl
theorem cellsOf_class : Tryz.prog.cellsOf 46 = 2 := by kernel_rfl
theorem cellsOf_classes : Tryz.prog.cellsOf 23 = 1 := by kernel_rfl
theorem cellsOf_reg : Tryz.prog.cellsOf 76 = 4 := by kernel_rfl
theorem cellsOf_regs : Tryz.prog.cellsOf 22 = 1 := by kernel_rfl
theorem cellsOf_mach : Tryz.prog.cellsOf 27 = 8 := by kernel_rfl
theorem bytesOf_str : Tryz.prog.bytesOf 9 = 16 := by kernel_rfl
theorem bytesOf_oper : Tryz.prog.bytesOf 48 = 32 := by kernel_rfl
theorem bytesOf_op : Tryz.prog.bytesOf 51 = 104 := by kernel_rfl
theorem bytesOf_class : Tryz.prog.bytesOf 46 = 40 := by kernel_rfl
theorem bytesOf_reg : Tryz.prog.bytesOf 76 = 56 := by kernel_rfl
/-- Operands none of whose names is longer than memory. -/
def Fit47O (l : List OperD) : Prop := l.length ≤ 140737488355328 ∧ ∀ x, x ∈ l → x.cls.size ≤ 140737488355328 ∧ x.fix.size ≤ 140737488355328
/-- The same of classes, of operations. -/
def Fit47K (l : List ClassD) : Prop := l.length ≤ 140737488355328 ∧ ∀ x, x ∈ l → x.name.size ≤ 140737488355328 ∧ Fit47 x.regs
def Fit47P (l : List OpD) : Prop := l.length ≤ 140737488355328 ∧ ∀ x, x ∈ l → x.name.size ≤ 140737488355328 ∧ x.d.cls.size ≤ 140737488355328 ∧ x.d.fix.size ≤ 140737488355328 ∧ Fit47O x.uses ∧ Fit47 x.clob
section
variable {H : Type} {enc : TypeId × Value → H} {w : World} {base : Nat} {sp : Nat → Bool} {held : Bool}
theorem open_strsAt {fuel : Nat} {cs : List Value} {x : DataW H × List MemPlace} (hsp : ∀ b, sp b = true) (h : DataW.trod enc Tryz.prog w base sp held fuel 25 cs = some x) (hf : Fits47 Tryz.prog 25 x.1) :
    ∃ (s : SlV) (l : List ByteArray), cs = [.slice s.a s.n s.c] ∧ StrsAt w s l ∧ Fit47 l := by
  obtain ⟨a, len, cap, n, _, rfl, hl, _, hw, hall⟩ := open_rows hsp Tryz.underlying25 (by rw [cellsOf_str]; decide) h
  rw [cellsOf_str] at hall
  obtain ⟨l, hln, hp⟩ := pick (Q := fun k (s : ByteArray) => ∃ b o, a = some ⟨b, o, none⟩ ∧ w.cell? ⟨b, o + k, none⟩ = some (.string s) ∧ s.size ≤ 140737488355328) len (fun k hk => by
    obtain ⟨b, o, c, y, ha, _, hcl, hc, hy, hm⟩ := hall k hk
    obtain ⟨s, rfl, hs⟩ := open_str Tryz.underlying9 hy (fun m h => hf m (hm m h))
    exact ⟨s, b, o, ha, by have := hc 0 (by decide); simpa using this, hs⟩)
  refine ⟨⟨a, len, cap⟩, l, rfl, ⟨hln.symm, hl, fun j y hj => ?_⟩, ?_, fun y hy => ?_⟩
  · obtain ⟨b, o, h1, h2, _⟩ := hp j y hj
    exact ⟨b, o, h1, h2⟩
  · rw [hln]
    by_cases h0 : 0 < len
    · obtain ⟨m, h1, h2⟩ := hw h0
      rw [bytesOf_str] at h2
      have := hf m h1
      omega
    · omega
  · obtain ⟨j, hj⟩ := List.getElem?_of_mem hy
    exact (hp j y hj).choose_spec.choose_spec.2.2
theorem open_opersAt {fuel : Nat} {cs : List Value} {x : DataW H × List MemPlace} (hsp : ∀ b, sp b = true) (h : DataW.trod enc Tryz.prog w base sp held fuel 49 cs = some x) (hf : Fits47 Tryz.prog 49 x.1) :
    ∃ (s : SlV) (l : List OperD), cs = [.slice s.a s.n s.c] ∧ OpersAt w s l ∧ Fit47O l := by
  obtain ⟨a, len, cap, n, _, rfl, hl, _, hw, hall⟩ := open_rows hsp Tryz.underlying49 (by rw [cellsOf_oper]; decide) h
  rw [cellsOf_oper] at hall
  obtain ⟨l, hln, hp⟩ := pick (Q := fun k (s : OperD) => ∃ b o, a = some ⟨b, o, none⟩ ∧ (w.cell? ⟨b, o + k * 2, none⟩ = some (.string s.cls) ∧ w.cell? ⟨b, o + k * 2 + 1, none⟩ = some (.string s.fix)) ∧ s.cls.size ≤ 140737488355328 ∧ s.fix.size ≤ 140737488355328) len (fun k hk => by
    obtain ⟨b, o, c, y, ha, _, hcl, hc, hy, hm⟩ := hall k hk
    obtain ⟨n', _, _, hfl⟩ := open_fields Tryz.underlying48 hy
    obtain ⟨y0, h0, m0⟩ := hfl 0 9 0 rfl
    obtain ⟨y1, h1, m1⟩ := hfl 1 9 1 rfl
    rw [cellsOf_str] at h0 h1
    obtain ⟨s0, e0, z0⟩ := open_str Tryz.underlying9 h0 (fun m h => hf m (hm m (m0 m h)))
    obtain ⟨s1, e1, z1⟩ := open_str Tryz.underlying9 h1 (fun m h => hf m (hm m (m1 m h)))
    exact ⟨⟨s0, s1⟩, b, o, ha, ⟨(hc 0 (by decide)).trans (one_at e0), (hc 1 (by decide)).trans (one_at e1)⟩, z0, z1⟩)
  refine ⟨⟨a, len, cap⟩, l, rfl, ⟨hln.symm, hl, fun j y hj => ?_⟩, ?_, fun y hy => ?_⟩
  · obtain ⟨b, o, h1, h2, _⟩ := hp j y hj
    exact ⟨b, o, h1, h2.1, h2.2⟩
  · rw [hln]
    by_cases h0 : 0 < len
    · obtain ⟨m, h1, h2⟩ := hw h0
      rw [bytesOf_oper] at h2
      have := hf m h1
      omega
    · omega
  · obtain ⟨j, hj⟩ := List.getElem?_of_mem hy
    exact (hp j y hj).choose_spec.choose_spec.2.2
theorem open_classesAt {fuel : Nat} {cs : List Value} {x : DataW H × List MemPlace} (hsp : ∀ b, sp b = true) (h : DataW.trod enc Tryz.prog w base sp held fuel 23 cs = some x) (hf : Fits47 Tryz.prog 23 x.1) :
    ∃ (s : SlV) (l : List ClassD), cs = [.slice s.a s.n s.c] ∧ ClassesAt w s l ∧ Fit47K l := by
  obtain ⟨a, len, cap, n, _, rfl, hl, _, hw, hall⟩ := open_rows hsp Tryz.underlying23 (by rw [cellsOf_class]; decide) h
  rw [cellsOf_class] at hall
  obtain ⟨l, hln, hp⟩ := pick (Q := fun k (s : ClassD) => ∃ b o, a = some ⟨b, o, none⟩ ∧ (∃ r : SlV, w.cell? ⟨b, o + k * 2, none⟩ = some (.string s.name) ∧ w.cell? ⟨b, o + k * 2 + 1, none⟩ = some (.slice r.a r.n r.c) ∧ StrsAt w r s.regs) ∧ s.name.size ≤ 140737488355328 ∧ Fit47 s.regs) len (fun k hk => by
    obtain ⟨b, o, c, y, ha, _, hcl, hc, hy, hm⟩ := hall k hk
    obtain ⟨n', _, _, hfl⟩ := open_fields Tryz.underlying46 hy
    obtain ⟨y0, h0, m0⟩ := hfl 0 9 0 rfl
    obtain ⟨y1, h1, m1⟩ := hfl 1 25 1 rfl
    rw [cellsOf_str] at h0
    rw [cellsOf_strs] at h1
    obtain ⟨s0, e0, z0⟩ := open_str Tryz.underlying9 h0 (fun m h => hf m (hm m (m0 m h)))
    obtain ⟨s1, l1, e1, a1, z1⟩ := open_strsAt hsp h1 (fun m h => hf m (hm m (m1 m h)))
    exact ⟨⟨s0, l1⟩, b, o, ha, ⟨s1, (hc 0 (by decide)).trans (one_at e0), (hc 1 (by decide)).trans (one_at e1), a1⟩, z0, z1⟩)
  refine ⟨⟨a, len, cap⟩, l, rfl, ⟨hln.symm, hl, fun j y hj => ?_⟩, ?_, fun y hy => ?_⟩
  · obtain ⟨b, o, h1, h2, _⟩ := hp j y hj
    exact ⟨b, o, h1, h2⟩
  · rw [hln]
    by_cases h0 : 0 < len
    · obtain ⟨m, h1, h2⟩ := hw h0
      rw [bytesOf_class] at h2
      have := hf m h1
      omega
    · omega
  · obtain ⟨j, hj⟩ := List.getElem?_of_mem hy
    exact (hp j y hj).choose_spec.choose_spec.2.2
theorem open_opsAt {fuel : Nat} {cs : List Value} {x : DataW H × List MemPlace} (hsp : ∀ b, sp b = true) (h : DataW.trod enc Tryz.prog w base sp held fuel 24 cs = some x) (hf : Fits47 Tryz.prog 24 x.1) :
    ∃ (s : SlV) (l : List OpD), cs = [.slice s.a s.n s.c] ∧ OpsAt w s l ∧ Fit47P l := by
  obtain ⟨a, len, cap, n, _, rfl, hl, _, hw, hall⟩ := open_rows hsp Tryz.underlying24 (by rw [cellsOf_op]; decide) h
  rw [cellsOf_op] at hall
  obtain ⟨l, hln, hp⟩ := pick (Q := fun k (x : OpD) => ∃ b o, a = some ⟨b, o, none⟩ ∧ (∃ u k' : SlV, w.cell? ⟨b, o + k * 6, none⟩ = some (.string x.name) ∧ w.cell? ⟨b, o + k * 6 + 1, none⟩ = some (.string x.d.cls) ∧ w.cell? ⟨b, o + k * 6 + 2, none⟩ = some (.string x.d.fix) ∧
    w.cell? ⟨b, o + k * 6 + 3, none⟩ = some (.slice u.a u.n u.c) ∧ w.cell? ⟨b, o + k * 6 + 4, none⟩ = some (.int .i64 x.tie) ∧ w.cell? ⟨b, o + k * 6 + 5, none⟩ = some (.slice k'.a k'.n k'.c) ∧ OpersAt w u x.uses ∧ StrsAt w k' x.clob) ∧
      x.name.size ≤ 140737488355328 ∧ x.d.cls.size ≤ 140737488355328 ∧ x.d.fix.size ≤ 140737488355328 ∧ Fit47O x.uses ∧ Fit47 x.clob) len (fun k hk => by
    obtain ⟨b, o, c, y, ha, _, hcl, hc, hy, hm⟩ := hall k hk
    obtain ⟨n', _, _, hfl⟩ := open_fields Tryz.underlying51 hy
    obtain ⟨y0, h0, m0⟩ := hfl 0 9 0 rfl
    obtain ⟨y1, h1, m1⟩ := hfl 1 48 1 rfl
    obtain ⟨y2, h2, m2⟩ := hfl 2 49 3 rfl
    obtain ⟨y3, h3, m3⟩ := hfl 3 3 4 rfl
    obtain ⟨y4, h4, m4⟩ := hfl 4 25 5 rfl
    rw [cellsOf_str] at h0
    rw [cellsOf_oper] at h1
    rw [cellsOf_opers] at h2
    rw [cellsOf_int] at h3
    rw [cellsOf_strs] at h4
    obtain ⟨s0, e0, z0⟩ := open_str Tryz.underlying9 h0 (fun m h => hf m (hm m (m0 m h)))
    obtain ⟨n2, _, _, hfl2⟩ := open_fields Tryz.underlying48 h1
    obtain ⟨x0, g0, p0⟩ := hfl2 0 9 0 rfl
    obtain ⟨x1, g1, p1⟩ := hfl2 1 9 1 rfl
    rw [cellsOf_str] at g0 g1
    obtain ⟨d0, f0, w0⟩ := open_str Tryz.underlying9 g0 (fun m h => hf m (hm m (m1 m (p0 m h))))
    obtain ⟨d1, f1, w1⟩ := open_str Tryz.underlying9 g1 (fun m h => hf m (hm m (m1 m (p1 m h))))
    obtain ⟨s2, l2, e2, a2, z2⟩ := open_opersAt hsp h2 (fun m h => hf m (hm m (m2 m h)))
    obtain ⟨i3, e3, _, _⟩ := DataW.trod_int Tryz.underlying3 h3
    obtain ⟨s4, l4, e4, a4, z4⟩ := open_strsAt hsp h4 (fun m h => hf m (hm m (m4 m h)))
    have k0 := one_at f0
    have k1 := one_at f1
    rw [List.getElem?_take_of_lt (by decide), List.getElem?_drop] at k0 k1
    exact ⟨⟨s0, ⟨d0, d1⟩, l2, i3, l4⟩, b, o, ha, ⟨s2, s4, (hc 0 (by decide)).trans (one_at e0), (hc 1 (by decide)).trans k0, (hc 2 (by decide)).trans k1, (hc 3 (by decide)).trans (one_at e2), (hc 4 (by decide)).trans (one_at e3), (hc 5 (by decide)).trans (one_at e4), a2, a4⟩, z0, w0, w1, z2, z4⟩)
  refine ⟨⟨a, len, cap⟩, l, rfl, ⟨hln.symm, hl, fun j y hj => ?_⟩, ?_, fun y hy => ?_⟩
  · obtain ⟨b, o, h1, h2, _⟩ := hp j y hj
    exact ⟨b, o, h1, h2⟩
  · rw [hln]
    by_cases h0 : 0 < len
    · obtain ⟨m, h1, h2⟩ := hw h0
      rw [bytesOf_op] at h2
      have := hf m h1
      omega
    · omega
  · obtain ⟨j, hj⟩ := List.getElem?_of_mem hy
    exact (hp j y hj).choose_spec.choose_spec.2.2
/-- Registers within registers as they are read: as HoldsAt, the lists however long. -/
def HoldsW (n₀ : Nat) (W : World) (b : Nat) : Nat → RegL → Prop
  | _, .nil => True
  | o, .cons nm wd at_ sv subs rest => b < n₀ ∧ RegAt W b o ⟨nm, wd, at_, sv⟩ ∧ nm.size ≤ 140737488355328 ∧ HoldsW n₀ W b (o + 4) rest ∧
      (((∃ a, sv = .slice a 0 0) ∧ subs = .nil) ∨ ∃ b' o' c', sv = .slice (some ⟨b', o', none⟩) subs.length c' ∧ subs.length ≤ c' ∧ subs.length ≤ 140737488355328 ∧ HoldsW n₀ W b' o' subs)
/-- What is read of a slice of registers. -/
def RegsW (w : World) (a : Option Addr) (n c : Nat) (L : RegL) : Prop :=
  L.length = n ∧ n ≤ c ∧ n ≤ 140737488355328 ∧ ((n = 0 ∧ c = 0) ∨ ∃ b o, a = some ⟨b, o, none⟩) ∧ ∀ b o, a = some ⟨b, o, none⟩ → HoldsW w.heap.size w b o L
theorem open_regsAt (hsp : ∀ b, sp b = true) : ∀ (fuel : Nat) (cs : List Value) (x : DataW H × List MemPlace), DataW.trod enc Tryz.prog w base sp held fuel 22 cs = some x → Fits47 Tryz.prog 22 x.1 →
    ∃ (a : Option Addr) (n c : Nat) (L : RegL), cs = [.slice a n c] ∧ RegsW w a n c L := by
  intro fuel
  induction fuel using Nat.strongRecOn with
  | ind fuel ih =>
    intro cs x h hf
    obtain ⟨a, len, cap, n, hfu, rfl, hl, hsh, hw, hall⟩ := open_rows hsp Tryz.underlying22 (by rw [cellsOf_reg]; decide) h
    rw [cellsOf_reg] at hall
    have each : ∀ k, k < len → ∃ b o, a = some ⟨b, o, none⟩ ∧ b < w.heap.size ∧ ∃ nm wd at_ sv subs, RegAt w b (o + k * 4) ⟨nm, wd, at_, sv⟩ ∧ nm.size ≤ 140737488355328 ∧
        (((∃ a, sv = .slice a 0 0) ∧ subs = .nil) ∨ ∃ b' o' c', sv = .slice (some ⟨b', o', none⟩) subs.length c' ∧ subs.length ≤ c' ∧ subs.length ≤ 140737488355328 ∧ HoldsW w.heap.size w b' o' subs) := fun k hk => by
      obtain ⟨b, o, c, y, ha, hb, hcl, hc, hy, hm⟩ := hall k hk
      obtain ⟨n', hn', _, hfl⟩ := open_fields Tryz.underlying76 hy
      obtain ⟨y0, h0, m0⟩ := hfl 0 9 0 rfl
      obtain ⟨y1, h1, m1⟩ := hfl 1 3 1 rfl
      obtain ⟨y2, h2, m2⟩ := hfl 2 3 2 rfl
      obtain ⟨y3, h3, m3⟩ := hfl 3 22 3 rfl
      rw [cellsOf_str] at h0
      rw [cellsOf_int] at h1 h2
      rw [cellsOf_regs] at h3
      obtain ⟨s0, e0, z0⟩ := open_str Tryz.underlying9 h0 (fun m h => hf m (hm m (m0 m h)))
      obtain ⟨i1, e1, _, _⟩ := DataW.trod_int Tryz.underlying3 h1
      obtain ⟨i2, e2, _, _⟩ := DataW.trod_int Tryz.underlying3 h2
      obtain ⟨a3, n3, c3, L3, e3, hL3, hc3, hn3, hs3, hh3⟩ := ih n' (by omega) _ y3 h3 (fun m h => hf m (hm m (m3 m h)))
      refine ⟨b, o, ha, hb, s0, i1, i2, .slice a3 n3 c3, L3, ⟨(hc 0 (by decide)).trans (one_at e0), (hc 1 (by decide)).trans (one_at e1), (hc 2 (by decide)).trans (one_at e2), (hc 3 (by decide)).trans (one_at e3)⟩, z0, ?_⟩
      rcases hs3 with ⟨rfl, rfl⟩ | ⟨b3, o3, rfl⟩
      · cases L3 with
        | nil => exact .inl ⟨⟨a3, rfl⟩, rfl⟩
        | cons => simp [RegL.length] at hL3
      · exact .inr ⟨b3, o3, c3, by rw [hL3], by rw [hL3]; exact hc3, by rw [hL3]; exact hn3, hh3 b3 o3 rfl⟩
    have down : ∀ m, m ≤ len → ∃ L : RegL, L.length = m ∧ ∀ b o, a = some ⟨b, o, none⟩ → HoldsW w.heap.size w b (o + (len - m) * 4) L := fun m => by
      induction m with
      | zero => exact fun _ => ⟨.nil, rfl, fun _ _ _ => trivial⟩
      | succ m ihm =>
        intro hm
        obtain ⟨L, hL, hh⟩ := ihm (by omega)
        obtain ⟨b, o, ha, hb, nm, wd, at_, sv, subs, hr, hz, hs⟩ := each (len - (m + 1)) (by omega)
        refine ⟨.cons nm wd at_ sv subs L, by simp [RegL.length, hL], fun b2 o2 ha2 => ?_⟩
        rw [ha] at ha2
        cases ha2
        refine ⟨hb, hr, hz, ?_, hs⟩
        have := hh b o ha
        rwa [show o + (len - m) * 4 = o + (len - (m + 1)) * 4 + 4 by omega] at this
    obtain ⟨L, hL, hh⟩ := down len (Nat.le_refl _)
    refine ⟨a, len, cap, L, rfl, hL, hl, ?_, hsh, fun b o ha => by have := hh b o ha; simpa using this⟩
    by_cases h0 : 0 < len
    · obtain ⟨m, h1, h2⟩ := hw h0
      rw [bytesOf_reg] at h2
      have := hf m h1
      omega
    · omega
/-- What is read of a description: m is how it lies, d what it says, L its registers. -/
structure MachW (w : World) (m : MV) (d : MachD) (L : RegL) : Prop where
  same : m.name = d.name
  result : m.result = d.result
  slots : m.slots = d.slots
  nz : d.name.size ≤ 140737488355328
  rz : d.result.size ≤ 140737488355328
  regs : RegsW w m.regs.a m.regs.n m.regs.c L
  spot : m.regs.a = none ∨ ∃ b o, m.regs.a = some ⟨b, o, none⟩
  classes : ClassesAt w m.classes d.classes
  ops : OpsAt w m.ops d.ops
  args : StrsAt w m.args d.args
  saved : StrsAt w m.saved d.saved
  fk : Fit47K d.classes
  fp : Fit47P d.ops
  fa : Fit47 d.args
  fs : Fit47 d.saved
set_option maxRecDepth 100000 in
theorem open_mach {r : Reach} {b0 : Nat} {v : Value} {dt : DataW H} {ps : List MemPlace} (hsp : ∀ b, sp b = true) (hval : Value.okWide Tryz.prog w r b0 27 v) (h : DataW.Trod enc Tryz.prog w base sp held 27 v dt ps) (hf : Fits47 Tryz.prog 27 dt) :
    ∃ (m : MV) (d : MachD) (L : RegL), v = m.val ∧ MachW w m d L := by
  unfold Value.okWide at hval
  rw [Tryz.underlying27] at hval
  obtain ⟨cv, rfl, hcs, ts, hts, _, hrow⟩ := hval
  obtain rfl := Option.some.inj ((show Tryz.prog.cellTypes Tryz.prog.depth 27 = some [9, 22, 23, 24, 25, 9, 25, 3] by kernel_rfl).symm.trans hts)
  obtain ⟨fuel, h⟩ := h
  obtain ⟨n', _, hcl, hfl⟩ := open_fields Tryz.underlying27 h
  rw [cellsOf_mach] at hcl hcs
  obtain ⟨y0, h0, m0⟩ := hfl 0 9 0 rfl
  obtain ⟨y1, h1, m1⟩ := hfl 1 22 1 rfl
  obtain ⟨y2, h2, m2⟩ := hfl 2 23 2 rfl
  obtain ⟨y3, h3, m3⟩ := hfl 3 24 3 rfl
  obtain ⟨y4, h4, m4⟩ := hfl 4 25 4 rfl
  obtain ⟨y5, h5, m5⟩ := hfl 5 9 5 rfl
  obtain ⟨y6, h6, m6⟩ := hfl 6 25 6 rfl
  obtain ⟨y7, h7, m7⟩ := hfl 7 3 7 rfl
  rw [cellsOf_str] at h0 h5
  rw [cellsOf_regs] at h1
  rw [cellsOf_classes] at h2
  rw [cellsOf_ops] at h3
  rw [cellsOf_strs] at h4 h6
  rw [cellsOf_int] at h7
  obtain ⟨s0, e0, z0⟩ := open_str Tryz.underlying9 h0 (fun m h => hf m (m0 m h))
  obtain ⟨ra, rn, rc, L, e1, hL⟩ := open_regsAt hsp _ _ y1 h1 (fun m h => hf m (m1 m h))
  obtain ⟨s2, l2, e2, a2, z2⟩ := open_classesAt hsp h2 (fun m h => hf m (m2 m h))
  obtain ⟨s3, l3, e3, a3, z3⟩ := open_opsAt hsp h3 (fun m h => hf m (m3 m h))
  obtain ⟨s4, l4, e4, a4, z4⟩ := open_strsAt hsp h4 (fun m h => hf m (m4 m h))
  obtain ⟨s5, e5, z5⟩ := open_str Tryz.underlying9 h5 (fun m h => hf m (m5 m h))
  obtain ⟨s6, l6, e6, a6, z6⟩ := open_strsAt hsp h6 (fun m h => hf m (m6 m h))
  obtain ⟨i7, e7, _, _⟩ := DataW.trod_int Tryz.underlying3 h7
  have g0 := one_at e0
  have g1 := one_at e1
  have g2 := one_at e2
  have g3 := one_at e3
  have g4 := one_at e4
  have g5 := one_at e5
  have g6 := one_at e6
  have g7 := one_at e7
  have hcv : cv = #[.string s0, .slice ra rn rc, .slice s2.a s2.n s2.c, .slice s3.a s3.n s3.c, .slice s4.a s4.n s4.c, .string s5, .slice s6.a s6.n s6.c, .int .i64 i7] := by
    change cv.toList[_]? = _ at g0 g1 g2 g3 g4 g5 g6 g7
    apply Array.ext'
    have hlen : cv.toList.length = 8 := by simpa using hcs
    refine List.ext_getElem? fun i => ?_
    match i with
    | 0 => exact g0
    | 1 => exact g1
    | 2 => exact g2
    | 3 => exact g3
    | 4 => exact g4
    | 5 => exact g5
    | 6 => exact g6
    | 7 => exact g7
    | i + 8 => rw [List.getElem?_eq_none (by omega), List.getElem?_eq_none (by simp)]
  have hspot : ra = none ∨ ∃ b o, ra = some ⟨b, o, none⟩ := by
    cases ra with
    | none => exact .inl rfl
    | some ad =>
      obtain ⟨u, hu, hc⟩ := hrow 1 (.slice (some ad) rn rc) (by rw [hcv]; rfl)
      obtain rfl : u = 22 := (Option.some.inj hu).symm
      unfold Cell.okWide at hc
      rw [Tryz.underlying22] at hc
      have hc2 : Cell.ok Tryz.prog w r b0 22 (.slice (some ad) rn rc) := hc
      unfold Cell.ok at hc2
      rw [Tryz.underlying22] at hc2
      obtain ⟨_, _, _, hs, _⟩ := hc2
      obtain ⟨b, o, sp⟩ := ad
      obtain rfl : sp = none := hs
      exact .inr ⟨b, o, rfl⟩
  exact ⟨⟨s0, ⟨ra, rn, rc⟩, s2, s3, s4, s5, s6, i7⟩, ⟨s0, l2, l3, l4, s5, l6, i7⟩, L, by rw [hcv]; rfl, ⟨rfl, rfl, rfl, z0, z5, hL, hspot, a2, a3, a4, a6, z2, z3, z4, z6⟩⟩
end
end Go.Proofs.YtfhllbnpkcgfdaaGreatDoor
