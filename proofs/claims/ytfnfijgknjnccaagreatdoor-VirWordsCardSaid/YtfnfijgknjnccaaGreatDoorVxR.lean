/-
  What the rows' list gives a walk of vir.
-/
import Derived.Test.YtfnfijgknjnccaaGreatDoorVxQ
/-! What the rows' list gives a walk. -/
namespace Go.Proofs.YtfnfijgknjnccaaGreatDoor
open Go.ChangeShapes Go.WideShapes Go.ChangeAt Go.RowKit

theorem laid_mem {P : Program} {w : World} : ∀ {l : List (String × DataW Unit)} {ps : List MemPlace}, DataW.LaidVars P w l ps → ∀ {n : String} {d : DataW Unit}, (n, d) ∈ l →
    ∃ g t cs fuel p, P.globalNamed n = some g ∧ (P.globals[g]?).map (·.type) = some t ∧ w.var? P n = some cs ∧ DataW.trod (fun _ => ()) P w 0 (fun _ => true) false fuel t cs.toList = some (d, p)
  | [], _, _, _, _, hm => by cases hm
  | (m, e) :: r, ps, h, n, d, hm => by
    obtain ⟨g, t, cs, fuel, p, q, h1, h2, h3, h4, h5, _⟩ := h
    rcases List.mem_cons.1 hm with hm | hm
    · cases hm
      exact ⟨g, t, cs, fuel, p, h1, h2, h3, h4⟩
    · exact laid_mem h5 hm

theorem pow_parts : Tryz.prog.globalNamed "internal/strconv.uint64pow10" = some 8 ∧ ((Tryz.prog.globals[8]?).map (·.type)).bind Tryz.prog.underlying = some (.array 20 164) ∧ ((Tryz.prog.globals[8]?).map (·.type)).map Tryz.prog.cellsOf = some 20 := ⟨by kernel_rfl, by kernel_rfl, by kernel_rfl⟩
theorem spc_parts : Tryz.prog.globalNamed "strings.asciiSpace" = some 1 ∧ ((Tryz.prog.globals[1]?).map (·.type)).bind Tryz.prog.underlying = some (.array 256 5) ∧ ((Tryz.prog.globals[1]?).map (·.type)).map Tryz.prog.cellsOf = some 256 := ⟨by kernel_rfl, by kernel_rfl, by kernel_rfl⟩
theorem forms_laid : Tryz.prog.globalNamed "pigeonhole/vir.forms" = some 0 ∧ ((Tryz.prog.globals[0]?).map (·.type)).bind Tryz.prog.underlying = some (.array 10 89) ∧ ((Tryz.prog.globals[0]?).map (·.type)).map Tryz.prog.cellsOf = some 40 := ⟨by kernel_rfl, by kernel_rfl, by kernel_rfl⟩
theorem syn_parts : Tryz.prog.globalNamed "strconv.ErrSyntax" = some 6 ∧ ((Tryz.prog.globals[6]?).map (·.type)) = some 84 := ⟨by kernel_rfl, by kernel_rfl⟩
theorem rng_parts : Tryz.prog.globalNamed "strconv.ErrRange" = some 7 ∧ ((Tryz.prog.globals[7]?).map (·.type)) = some 84 := ⟨by kernel_rfl, by kernel_rfl⟩
theorem cells_u64 : Tryz.prog.cellsOf 164 = 1 := by kernel_rfl
theorem cells_u8 : Tryz.prog.cellsOf 5 = 1 := by kernel_rfl
theorem cells_int : Tryz.prog.cellsOf 3 = 1 := by kernel_rfl
theorem cells_str : Tryz.prog.cellsOf 9 = 1 := by kernel_rfl
theorem cells_form : Tryz.prog.cellsOf 89 = 4 := by kernel_rfl
theorem under_form : ∃ n0 n1 n2 n3, (Tryz.prog.underlying 89).map (fun d => match d with | .struct fs => fs.toList.map (fun f => (f.type, f.offset)) | _ => []) = some [(3, 0), (9, 1), (3, 2), (3, 3)] ∧ n0 = 0 ∧ n1 = 1 ∧ n2 = 2 ∧ n3 = 3 := ⟨0, 1, 2, 3, by kernel_rfl, rfl, rfl, rfl, rfl⟩
set_option maxRecDepth 100000 in
theorem pow_data : (Rows.laid_internal_strconv_uint64pow10 : DataW Unit) = Lib.tabData .u64 Lib.pow10Tab := rfl
set_option maxRecDepth 100000 in
theorem spc_data : (Rows.laid_strings_asciiSpace : DataW Unit) = Lib.tabData .u8 Lib.asciiSpaceTab := by kernel_rfl
set_option maxRecDepth 100000 in
theorem forms_data : (Rows.laid_pigeonhole_vir_forms : DataW Unit) = .agg (formsV.map fun f => .agg [.lit (.int .i64 f.k), .lit (.string f.line.data.toList), .lit (.int .i64 f.least), .lit (.int .i64 f.most)]) := rfl
theorem laid_of {W : World} (h : laidMetH Tryz.prog listed W) {n : String} {d : DataW Unit} {g : Nat} {t : TypeId} (hm : (n, d) ∈ listed) (hf : d.handleName?.isNone = true) (hg : Tryz.prog.globalNamed n = some g) (ht : (Tryz.prog.globals[g]?).map (·.type) = some t) :
    ∃ cs fuel p, W.var? Tryz.prog n = some cs ∧ DataW.trod (fun _ => ()) Tryz.prog W 0 (fun _ => true) false fuel t cs.toList = some (d, p) := by
  obtain ⟨ps, hL, _, _⟩ := ((laidMetH_iff).1 h).1
  obtain ⟨g', t', cs, fuel, p, hg', ht', hv, htr⟩ := laid_mem hL (n := n) (d := d) (List.mem_filter.2 ⟨hm, hf⟩)
  obtain rfl := Option.some.inj (hg.symm.trans hg')
  obtain rfl := Option.some.inj (ht.symm.trans ht')
  exact ⟨cs, fuel, p, hv, htr⟩
theorem tab_of {W : World} (h : laidMetH Tryz.prog listed W) {n : String} {d : DataW Unit} {g : Nat} {k : IntKind} {zs : List Int} {e : TypeId} {m : Nat} (hm : (n, d) ∈ listed) (hf : d.handleName?.isNone = true) (hd : d = Lib.tabData k zs)
    (hp : Tryz.prog.globalNamed n = some g ∧ ((Tryz.prog.globals[g]?).map (·.type)).bind Tryz.prog.underlying = some (.array m e) ∧ ((Tryz.prog.globals[g]?).map (·.type)).map Tryz.prog.cellsOf = some m) (he : Tryz.prog.underlying e = some (.int k)) (hc : Tryz.prog.cellsOf e = 1) : Lib.TabIs Tryz.prog W n k zs := by
  obtain ⟨h1, h2, h3⟩ := hp
  cases ht : (Tryz.prog.globals[g]?).map (·.type) with
  | none => rw [ht] at h2; cases h2
  | some t =>
    rw [ht] at h2 h3
    rw [Option.bind_some] at h2
    rw [Option.map_some] at h3
    obtain ⟨cs, fuel, p, hv, htr⟩ := laid_of h hm hf h1 ht
    unfold Lib.TabIs
    rw [hd] at htr
    rw [hv, ← Lib.cells_of_tab h2 he hc (Option.some.inj h3) htr]
theorem mem_listed {n : String} {d : DataW Unit} (h : (n, d) ∈ Rows.virConstsRow.laid) : (n, d) ∈ listed := h
theorem iface_of {W : World} (h : laidMetH Tryz.prog listed W) {n : String} {name : String} {d : DataW Unit} {g : Nat} (hm : (n, .iface name d) ∈ listed) (hf : (DataW.iface name d : DataW Unit).handleName?.isNone = true) (hp : Tryz.prog.globalNamed n = some g ∧ (Tryz.prog.globals[g]?).map (·.type) = some 84) :
    ∃ ev, W.cell? ⟨g, 0, none⟩ = some ev ∧ (ev = .nilIface ∨ ∃ te pe, ev = .iface te pe) := by
  obtain ⟨cs, fuel, p, hv, htr⟩ := laid_of h hm hf hp.1 hp.2
  obtain ⟨_, u, v, hcs, _⟩ := iface_of_trod Tryz.underlying84 htr
  refine ⟨.iface u v, ?_, .inr ⟨u, v, rfl⟩⟩
  rw [World.var?_cell hp.1 hv 0, ← Array.getElem?_toList, hcs]
  rfl
theorem chunks : ∀ (n : Nat) (cs l : List Value), cs.length = n * 4 → l.length = n * 4 → (∀ i, i < n → (cs.drop (i * 4)).take 4 = (l.drop (i * 4)).take 4) → cs = l
  | 0, cs, l, h1, h2, _ => by rw [List.eq_nil_of_length_eq_zero (l := cs) (by omega), List.eq_nil_of_length_eq_zero (l := l) (by omega)]
  | n + 1, cs, l, h1, h2, h => by
    have h0 := h 0 (by omega)
    simp only [Nat.zero_mul, List.drop_zero] at h0
    have ih := chunks n (cs.drop 4) (l.drop 4) (by rw [List.length_drop]; omega) (by rw [List.length_drop]; omega) (fun i hi => by
      have := h (i + 1) (by omega)
      rw [List.drop_drop, List.drop_drop, show 4 + i * 4 = (i + 1) * 4 by omega]
      exact this)
    rw [← List.take_append_drop 4 cs, ← List.take_append_drop 4 l, h0, ih]
theorem four {α : Type} {l : List α} (h : l.length = 4) : ∃ a b c d, l = [a, b, c, d] := by
  match l, h with
  | [a, b, c, d], _ => exact ⟨a, b, c, d, rfl⟩
theorem form_struct : Tryz.prog.underlying 89 = some (.struct ((Tryz.prog.underlying 89).elim #[] fun d => match d with | .struct fs => fs | _ => #[])) := by kernel_rfl
theorem form_cells {W : World} {fuel : Nat} {cs : List Value} {k a b : Int} {line : ByteArray} {p : List MemPlace} (h : DataW.trod (fun _ => ()) Tryz.prog W 0 (fun _ => true) false fuel 89 cs = some (.agg [.lit (.int .i64 k), .lit (.string line.data.toList), .lit (.int .i64 a), .lit (.int .i64 b)], p)) :
    cs = [.int .i64 k, .string line, .int .i64 a, .int .i64 b] := by
  obtain ⟨xs, n, _, hx, hl, hlen, hf⟩ := DataW.trod_struct form_struct h
  have hm : (((Tryz.prog.underlying 89).elim #[] fun d => match d with | .struct fs => fs | _ => #[]) : Array Field).toList.map (fun f => (f.type, f.offset)) = [(3, 0), (9, 1), (3, 2), (3, 3)] := by kernel_rfl
  generalize (((Tryz.prog.underlying 89).elim #[] fun d => match d with | .struct fs => fs | _ => #[]) : Array Field) = F at hf hlen hm
  obtain ⟨fl⟩ := F
  obtain ⟨f0, f1, f2, f3, rfl⟩ := four (l := fl) (by have hfl := congrArg List.length hm; simpa using hfl)
  simp only [List.map_cons, List.map_nil, List.cons.injEq, Prod.mk.injEq, and_true] at hm
  obtain ⟨⟨t0, o0⟩, ⟨t1, o1⟩, ⟨t2, o2⟩, t3, o3⟩ := hm
  have g0 := hf 0 f0 rfl
  have g1 := hf 1 f1 rfl
  have g2 := hf 2 f2 rfl
  have g3 := hf 3 f3 rfl
  rw [t0, o0, cells_int] at g0
  rw [t1, o1, cells_str] at g1
  rw [t2, o2, cells_int] at g2
  rw [t3, o3, cells_int] at g3
  rw [cells_form] at hl
  have hl2 : xs.length = 4 := hlen
  clear h hf hlen t0 o0 t1 o1 t2 o2 t3 o3
  obtain ⟨c0, c1, c2, c3, rfl⟩ := four hl
  obtain ⟨x0, x1, x2, x3, rfl⟩ := four hl2
  simp only [List.drop_zero, List.drop_succ_cons, List.take_succ_cons, List.take_zero, List.getElem?_cons_zero, List.getElem?_cons_succ] at g0 g1 g2 g3
  obtain ⟨n0, e0, y0, _⟩ := DataW.trod_int Tryz.underlying3 g0
  obtain ⟨s1, e1, y1, _⟩ := DataW.trod_string Tryz.underlying9 g1
  obtain ⟨n2, e2, y2, _⟩ := DataW.trod_int Tryz.underlying3 g2
  obtain ⟨n3, e3, y3, _⟩ := DataW.trod_int Tryz.underlying3 g3
  subst y0 y1 y2 y3
  simp only [List.cons.injEq, and_true] at e0 e1 e2 e3
  subst e0 e1 e2 e3
  simp only [List.map_cons, List.map_nil, Prod.mk.injEq, DataW.agg.injEq, List.cons.injEq, DataW.lit.injEq, Lit.int.injEq, Lit.string.injEq, true_and, and_true] at hx
  obtain ⟨⟨rfl, hs, rfl, rfl⟩, _⟩ := hx
  obtain rfl : line = s1 := by
    cases line with
    | mk d1 =>
      cases s1 with
      | mk d2 => simpa using hs
  rfl
theorem forms_chunk : ∀ (i : Nat) (f : FormV), formsV[i]? = some f → (formCells.drop (i * 4)).take 4 = [.int .i64 f.k, .string f.line, .int .i64 f.least, .int .i64 f.most] := fun i f h => by
  have hj : i < 10 := (List.getElem?_eq_some_iff.1 h).1
  have h10 : i = 0 ∨ i = 1 ∨ i = 2 ∨ i = 3 ∨ i = 4 ∨ i = 5 ∨ i = 6 ∨ i = 7 ∨ i = 8 ∨ i = 9 := by omega
  rcases h10 with rfl | rfl | rfl | rfl | rfl | rfl | rfl | rfl | rfl | rfl <;> (cases h; rfl)
set_option maxRecDepth 100000 in
theorem forms_of {W : World} (h : laidMetH Tryz.prog listed W) : ∀ (i : Nat) v, formCells[i]? = some v → W.cell? ⟨0, i, none⟩ = some v := by
  obtain ⟨h1, h2, h3⟩ := forms_laid
  cases ht : (Tryz.prog.globals[0]?).map (·.type) with
  | none => rw [ht] at h2; cases h2
  | some t =>
    rw [ht] at h2 h3
    rw [Option.bind_some] at h2
    rw [Option.map_some] at h3
    obtain ⟨cs, fuel, p, hv, htr⟩ := laid_of h (n := "pigeonhole/vir.forms") (d := Rows.laid_pigeonhole_vir_forms) (by unfold listed Rows.virConstsRow; simp) rfl h1 ht
    obtain ⟨xs, n, rfl, hd, hl, hlen, hall⟩ := DataW.trod_array h2 htr
    have e40 : Tryz.prog.cellsOf t = 40 := Option.some.inj h3
    rw [e40] at hl
    have hd1 := congrArg Prod.fst hd
    rw [forms_data] at hd1
    have hd2 := DataW.agg.inj hd1
    have hcs : cs.toList = formCells := chunks 10 _ _ hl rfl (fun i hi => by
      have hx := hall i hi
      rw [cells_form] at hx
      obtain ⟨x, hxi⟩ : ∃ x, xs[i]? = some x := ⟨xs[i]'(by omega), List.getElem?_eq_getElem _⟩
      obtain ⟨f, hf⟩ : ∃ f, formsV[i]? = some f := ⟨formsV[i]'(by show i < 10; omega), List.getElem?_eq_getElem _⟩
      have hd3 := congrArg (fun l => l[i]?) hd2
      rw [List.getElem?_map, List.getElem?_map, hxi, hf] at hd3
      have hd4 := Option.some.inj hd3
      rw [hxi] at hx
      obtain ⟨x1, x2⟩ := x
      dsimp only at hd4
      rw [← hd4] at hx
      rw [form_cells hx, forms_chunk i f hf])
    intro i v hi
    rw [World.var?_cell h1 hv i, ← Array.getElem?_toList, hcs]
    exact hi
set_option maxRecDepth 100000 in
/-- What vir reads of the program's variables. -/
theorem envF_of {W : World} (hsh : W.ShapedOpen Tryz.prog) (h : laidMetH Tryz.prog listed W) : EnvF W :=
  ⟨⟨env_of_shaped W hsh, tab_of h (by unfold listed Rows.virConstsRow; simp) rfl pow_data pow_parts Tryz.underlying164 cells_u64, tab_of h (by unfold listed Rows.virConstsRow; simp) rfl spc_data spc_parts Tryz.underlying5 cells_u8,
    iface_of h (name := "*errors.errorString") (d := .ptr (.agg [.lit (.string [105, 110, 118, 97, 108, 105, 100, 32, 115, 121, 110, 116, 97, 120])])) (by unfold listed Rows.virConstsRow Rows.laid_strconv_ErrSyntax; simp) rfl syn_parts, iface_of h (name := "*errors.errorString") (d := .ptr (.agg [.lit (.string [118, 97, 108, 117, 101, 32, 111, 117, 116, 32, 111, 102, 32, 114, 97, 110, 103, 101])])) (by unfold listed Rows.virConstsRow Rows.laid_strconv_ErrRange; simp) rfl rng_parts⟩, forms_of h⟩
end Go.Proofs.YtfnfijgknjnccaaGreatDoor
