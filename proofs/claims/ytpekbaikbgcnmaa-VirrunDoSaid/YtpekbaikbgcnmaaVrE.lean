/-
  virrun's operations: what the wrapped closures answer, and the map of all of them.
-/
import Derived.Test.YtpekbaikbgcnmaaVrD
import Derived.Maps.OwnSet
import Derived.Maps.OwnOps
import Derived.Maps.Views
import Derived.Maps.AppendAt
import Derived.Laws.EntriesVeiled
namespace Go.Proofs.Ytpekbaikbgcnmaa
open Go.RowKit Go.Maps

/-- What a call by a function's number is. -/
abbrev Enters (g : FuncId) : Prop := ∀ (args : Array Value) (w : World), (callFunc g args).run Try.prog w = .ok (.enter g args) w
/-- The blocks of cells of W stay. -/
def Keep (W W' : World) : Prop := ∀ (b : Nat) (cs : Array Value) (t : TypeId) (f : Nat × Nat), W.heap[b]? = some (.cells cs t f) → W'.heap[b]? = some (.cells cs t f)
theorem Keep.refl (W : World) : Keep W W := fun _ _ _ _ h => h
theorem Keep.trans {A B C : World} (h : Keep A B) (k : Keep B C) : Keep A C := fun b cs t f e => k b cs t f (h b cs t f e)
theorem heap_lt {W : World} {b : Nat} {o : Obj} (h : W.heap[b]? = some o) : b < W.heap.size := by
  rw [Array.getElem?_eq_some_iff] at h
  exact h.1
theorem Keep.of_below {W W' : World} (h : Below W.heap.size W W') : Keep W W' := fun b _ _ _ e => (h.block b (heap_lt e)).trans e
theorem Keep.of_map {W W' : World} {B : Nat} {es : Array MapEntry} {ck : Nat} (hb : W.heap[B]? = some (.map es ck)) (hg : W.grownBy W' (some B)) : Keep W W' := fun b _ _ _ e =>
  (hg.block b (heap_lt e) (fun h => by
    have h' := Option.some.inj h
    rw [h', hb] at e
    cases e)).trans e
theorem Keep.cell {W W' : World} (h : Keep W W') {b : Nat} {v : Value} {t : TypeId} (hc : W.heap[b]? = some (.cells #[v] t (0, 0))) : W'.cell? ⟨b, 0, none⟩ = some v :=
  cell_of_one (h b _ _ _ hc)

/-- Of two values below 2^64 the function value answers as operation k does, in every world that keeps W's cells. -/
def FnAt (W : World) (k : Nat) (g : FuncId) (cap : Array Value) : Prop :=
  ∀ (W' : World) (a b : Int), Keep W W' → 0 ≤ a → a < 18446744073709551616 → 0 ≤ b → b < 18446744073709551616 →
    Calls Try.prog g (#[.int .u64 a, .int .u64 b] ++ cap) W' fun e w' => e = .returned (.tuple #[.int .u64 (fnU k a b).1, .bool (fnU k a b).2]) ∧ W' = w'
theorem FnAt.keep {W V : World} {k : Nat} {g : FuncId} {cap : Array Value} (h : FnAt W k g cap) (hk : Keep W V) : FnAt V k g cap := fun W' a b hK => h W' a b (hk.trans hK)
/-- v is operation k. -/
def OpAt (W : World) (v : Value) (k : Nat) : Prop :=
  ∃ (g : FuncId) (cap : Array Value), v = .agg #[.int .i64 (arityK k), .func (.func g) #[] cap] ∧ Enters g ∧ FnAt W k g cap
theorem OpAt.keep {W V : World} {v : Value} {k : Nat} (h : OpAt W v k) (hk : Keep W V) : OpAt V v k := by
  obtain ⟨g, cap, h1, h2, h3⟩ := h
  exact ⟨g, cap, h1, h2, h3.keep hk⟩

/-- Names of operations as keys. -/
def heldR (v : Value) : Option (DataW Value × List MemPlace) := some (.held v, [])
theorem Try.keyed : Keyed Try.prog 9 := string_keyed Try.underlying9
def keyS (s : ByteArray) : Lit := .string s.data.toList
theorem keyS_inj {s t : ByteArray} (h : keyS s = keyS t) : s = t := by
  unfold keyS at h
  injection h with h
  obtain ⟨⟨a⟩⟩ := s
  obtain ⟨⟨b⟩⟩ := t
  simp at h
  rw [h]
theorem keyS_ok (s : ByteArray) : WideAt.IsKeyLit (keyS s) := trivial
structure OpsR (W : World) (D : DataW Value) (k : Nat) : Prop where
  isMap : IsMap D
  no : ∀ s, s ∉ opNames.take k → has D (keyS s) = false
  yes : ∀ (i : Nat) s, i < k → opNames[i]? = some s → has D (keyS s) = true ∧ ∃ v, (∀ z, D.atKey (keyS s) z = .held v) ∧ OpAt W v i
/-- The first k operations lie in the map at B. -/
def OpsAt (W : World) (B k : Nat) : Prop := ∃ D, W.ownsMap Try.prog 9 heldR B k D ∧ OpsR W D k
theorem ownsMap_keep {W W' : World} {B n : Nat} {D : DataW Value} {R : Value → Option (DataW Value × List MemPlace)} (h : W.ownsMap Try.prog 9 R B n D) (hb : W'.heap[B]? = W.heap[B]?) : W'.ownsMap Try.prog 9 R B n D := by
  obtain ⟨es, ck, h1, h2⟩ := h
  exact ⟨es, ck, hb.trans h1, h2⟩
theorem OpsR.keep {W V : World} {D : DataW Value} {k : Nat} (h : OpsR W D k) (hk : Keep W V) : OpsR V D k :=
  ⟨h.isMap, h.no, fun i s hi hs => by
    obtain ⟨h1, v, h2, h3⟩ := h.yes i s hi hs
    exact ⟨h1, v, h2, h3.keep hk⟩⟩
theorem OpsAt.below {W V : World} {B k : Nat} (h : OpsAt W B k) (hb : Below W.heap.size W V) : OpsAt V B k := by
  obtain ⟨D, h1, h2⟩ := h
  exact ⟨D, ownsMap_keep h1 (hb.block B h1.lt), h2.keep (.of_below hb)⟩
theorem OpsAt.lt {W : World} {B k : Nat} (h : OpsAt W B k) : B < W.heap.size := by
  obtain ⟨D, h1, _⟩ := h
  exact h1.lt
theorem OpsR.nil (W : World) : OpsR W (.map []) 0 := ⟨isMap_empty, fun _ _ => rfl, fun i s hi => by omega⟩
theorem opNames_new : ∀ i j : Nat, i < 13 → j < 13 → i ≠ j → opNames.getD i ⟨#[]⟩ ≠ opNames.getD j ⟨#[]⟩ := by
  intro i j hi hj hn he
  have hh : ∀ i < 13, ∀ j < 13, (opNames.getD i ⟨#[]⟩).data.toList = (opNames.getD j ⟨#[]⟩).data.toList → i = j := by decide
  exact hn (hh i hi j hj (by rw [he]))
theorem nmOf_get {k : Nat} (hk : k < 13) : opNames[k]? = some (nmOf k) := by
  unfold nmOf
  rw [List.getD_eq_getElem?_getD, List.getElem?_eq_getElem (show k < opNames.length from hk)]
  rfl
theorem nmOf_notin {k : Nat} (hk : k < 13) : nmOf k ∉ opNames.take k := by
  intro h
  obtain ⟨i, hi, he⟩ := List.getElem_of_mem h
  rw [List.length_take] at hi
  rw [List.getElem_take] at he
  have h2 : opNames[i]? = some (nmOf k) := by rw [← he]; exact List.getElem?_eq_getElem _
  rw [nmOf_get (show i < 13 by omega)] at h2
  exact opNames_new i k (by omega) hk (by omega) (Option.some.inj h2)
theorem OpsR.put {W : World} {D : DataW Value} {k : Nat} (h : OpsR W D k) (hk : k < 13) {v : Value} (hv : OpAt W v k) : OpsR W (D.put (keyS (nmOf k)) (.held v)) (k + 1) := by
  refine ⟨h.isMap.put _ _, fun t ht => ?_, fun i t hi ht => ?_⟩
  · have e : opNames.take (k + 1) = opNames.take k ++ [nmOf k] := by rw [List.take_add_one, nmOf_get hk]; rfl
    rw [e] at ht
    have h1 : t ∉ opNames.take k := fun hm => ht (List.mem_append_left _ hm)
    have h2 : keyS t ≠ keyS (nmOf k) := fun e => ht (by rw [keyS_inj e]; simp)
    rw [has_put_other h2]; exact h.no t h1
  · by_cases hik : i = k
    · subst hik
      rw [nmOf_get hk] at ht
      obtain rfl := Option.some.inj ht
      exact ⟨has_put_same h.isMap (keyS_ok _) _, v, fun z => atKey_put_same h.isMap (keyS_ok _) _ z, hv⟩
    · have h2 : keyS t ≠ keyS (nmOf k) := fun e => by
        have e' := keyS_inj e
        rw [nmOf_get (show i < 13 by omega)] at ht
        rw [← Option.some.inj ht] at e'
        exact opNames_new i k (by omega) hk hik e'
      obtain ⟨y1, u, y2, y3⟩ := h.yes i t (by omega) ht
      exact ⟨by rw [has_put_other h2]; exact y1, u, fun z => by rw [atKey_put_other h2]; exact y2 z, y3⟩
/-- An operation is put into the map. -/
theorem wpList_insert_op (w : World) {ops : Array Oper} {rest : List Oper} {o : Oper} {a : Act} {Q : Exit → Act → World → Prop} {B k : Nat} {val : Value} {w0 : World}
    (hA : OpsAt w B k) (hO : OpAt w val k) (hk : k < 13) (hb : Below w0.heap.size w0 w) (hB : w0.heap.size ≤ B)
    (hg : o.guard = none) (m x v : Operand) (hop : o.op = Op.insert 32 m x v) (hm : a.eval m = .map (some B)) (hx : a.eval x = .string (nmOf k)) (hv : a.eval v = val)
    (hK : ∀ w', OpsAt w' B (k + 1) → Below w0.heap.size w0 w' → wpList Try.prog ops Q rest (a.put o.dst undef) w') :
    wpList Try.prog ops Q (o :: rest) a w := by
  obtain ⟨D, hown, hR⟩ := hA
  have hsz : (nmOf k).size ≤ maxLen := by
    have : ∀ k < 13, (nmOf k).size ≤ 3 := by decide
    have := this k hk
    unfold maxLen; omega
  refine wpList_plain hg fun K' hK' => ?_
  obtain ⟨w', hrun, r1, r2⟩ := hown.update Try.keyed Try.underlying32 (by unfold maxLen; omega) (WideMaps.keyOf_string_mk Try.underlying9 hsz) (show heldR val = some (.held val, []) from rfl)
  have hkeep : Keep w w' := by
    obtain ⟨es, ck, h1, _⟩ := hown
    exact .of_map h1 r2
  unfold Oper.wp
  simp [execOp, hop, hm, hx, hv, hrun, Result.andThen]
  exact hK' _ _ (hK w' ⟨_, r1, (hR.put hk hO).keep hkeep⟩ (hb.grown r2 hb.size (fun i hi => by cases hi; exact hB)))
set_option maxHeartbeats 1600000

/-- always's closure over a function value. -/
theorem alwaysFn0 {W : World} {B : Nat} {g : FuncId} {a b r : Int} (hc : W.cell? ⟨B, 0, none⟩ = some (.func (.func g) #[] #[])) (eg : Enters g)
    (K : Calls Try.prog g (#[.int .u64 a, .int .u64 b] ++ #[]) W fun e w' => e = .returned (.int .u64 r) ∧ W = w') :
    Calls Try.prog 32 #[.int .u64 a, .int .u64 b, .pointer (some ⟨B, 0, none⟩)] W fun e w' => e = .returned (.tuple #[.int .u64 r, .bool true]) ∧ W = w' := by
  go_enter Try.func32, Try.ntmps32
  go_wp2_with (go_at_fn g; refine K.mono ?_; clear K; rintro e W1 ⟨rfl, rfl⟩)
  go_ret2
  exact ⟨rfl, rfl⟩

/-- always's closure over a function value. -/
theorem alwaysFn1 {W : World} {B : Nat} {g : FuncId} {p : Value} {a b r : Int} (hc : W.cell? ⟨B, 0, none⟩ = some (.func (.func g) #[] #[p])) (eg : Enters g)
    (K : Calls Try.prog g (#[.int .u64 a, .int .u64 b] ++ #[p]) W fun e w' => e = .returned (.int .u64 r) ∧ W = w') :
    Calls Try.prog 32 #[.int .u64 a, .int .u64 b, .pointer (some ⟨B, 0, none⟩)] W fun e w' => e = .returned (.tuple #[.int .u64 r, .bool true]) ∧ W = w' := by
  go_enter Try.func32, Try.ntmps32
  go_wp2_with (go_at_fn g; refine K.mono ?_; clear K; rintro e W1 ⟨rfl, rfl⟩)
  go_ret2
  exact ⟨rfl, rfl⟩

theorem unlessFn {W : World} {B : Nat} {g : FuncId} {a b r : Int} (hc : W.cell? ⟨B, 0, none⟩ = some (.func (.func g) #[] #[])) (eg : Enters g) (hb : ¬ b = 0)
    (K : Calls Try.prog g #[.int .u64 a, .int .u64 b] W fun e w' => e = .returned (.int .u64 r) ∧ W = w') :
    Calls Try.prog 33 #[.int .u64 a, .int .u64 b, .pointer (some ⟨B, 0, none⟩)] W fun e w' => e = .returned (.tuple #[.int .u64 r, .bool true]) ∧ W = w' := by
  go_enter Try.func33, Try.ntmps33
  go_wp2_with (go_at_fn g; refine K.mono ?_; clear K; rintro e W1 ⟨rfl, rfl⟩)
  go_ret2
  exact ⟨rfl, rfl⟩
theorem unlessNo {W : World} {p : Value} {a : Int} :
    Calls Try.prog 33 #[.int .u64 a, .int .u64 0, p] W fun e w' => e = .returned (.tuple #[.int .u64 0, .bool false]) ∧ W = w' := by
  go_enter Try.func33, Try.ntmps33
  go_wp2
  go_ret2
  exact ⟨rfl, rfl⟩
theorem whetherFn {W : World} {B : Nat} {g : FuncId} {a b : Int} {r : Bool} (hc : W.cell? ⟨B, 0, none⟩ = some (.func (.func g) #[] #[])) (eg : Enters g)
    (K : Calls Try.prog g #[.int .u64 a, .int .u64 b] W fun e w' => e = .returned (.bool r) ∧ W = w') :
    Calls Try.prog 34 #[.int .u64 a, .int .u64 b, .pointer (some ⟨B, 0, none⟩)] W fun e w' => e = .returned (.int .u64 (if r then 1 else 0)) ∧ W = w' := by
  cases r
  all_goals
    go_enter Try.func34, Try.ntmps34
    go_wp2_with (go_at_fn g; refine K.mono ?_; clear K; rintro e W1 ⟨rfl, rfl⟩)
    go_ret
    exact ⟨rfl, rfl⟩

/-- What always, unlessZero, whether make: a struct of two and a closure over a new cell. -/
def MadeAt (w : World) (g : FuncId) (f : Value) (e : Ending) (w' : World) : Prop :=
  ∃ c, e = .returned (.agg #[.int .i64 2, .func (.func g) #[] #[.pointer (some ⟨c, 0, none⟩)]]) ∧ Below w.heap.size w w' ∧ w.heap.size ≤ c ∧ ∃ t, w'.heap[c]? = some (.cells #[f] t (0, 0))
theorem results_cell {fn : Func} {p : Tmp} {ty : TypeId} (h : fn.results = #[.cell p ty]) (tmps : Array Value) (P : Program) (w : World) :
    (results fn tmps).run P w = ((asAddr (tmps.getD p undef)).run P w).andThen fun a w₁ => (loadVar ty a).run P w₁ := by
  simp only [results, h]
  simp [Sem.run_bind, Result.andThen]
theorem heap_new (w : World) (o : Obj) : (w.alloc o).heap[w.heap.size]? = some o := by
  show (w.heap.push o)[w.heap.size]? = _
  simp
theorem heap_past (w : World) (o : Obj) {k : Nat} {x : Obj} (h : w.heap[k]? = some x) : (w.alloc o).heap[k]? = some x := by
  rw [Below.heap_alloc w o k (heap_lt h)]
  exact h

theorem alwaysMk (g : FuncId) (cap : Array Value) (w : World) : Calls Try.prog 15 #[.func (.func g) #[] cap] w (MadeAt w 32 (.func (.func g) #[] cap)) := by
  have h1 : Hid (Below w.heap.size w (w.alloc (.cells #[.func (.func g) #[] cap] 40))) := Lib.hid ((Below.refl _ _).alloc (Nat.le_refl _) _)
  have h2 := Lib.hid (heap_new w (.cells #[.func (.func g) #[] cap] 40))
  go_enter Try.func15, Try.ntmps15
  go_wp2
  (try simp only [Exit.inBlock, Exit.then])
  refine bodyPost_ret (v := .agg #[.int .i64 2, .func (.func 32) #[] #[.pointer (some ⟨w.heap.size, 0, none⟩)]]) ?_ rfl ⟨w.heap.size, rfl, h1.out.alloc h1.out.size _, Nat.le_refl _, _, heap_past _ _ h2.out⟩
  rw [results_cell rfl]
  go_simp

theorem unlessMk (g : FuncId) (cap : Array Value) (w : World) : Calls Try.prog 24 #[.func (.func g) #[] cap] w (MadeAt w 33 (.func (.func g) #[] cap)) := by
  have h1 : Hid (Below w.heap.size w (w.alloc (.cells #[.func (.func g) #[] cap] 40))) := Lib.hid ((Below.refl _ _).alloc (Nat.le_refl _) _)
  have h2 := Lib.hid (heap_new w (.cells #[.func (.func g) #[] cap] 40))
  go_enter Try.func24, Try.ntmps24
  go_wp2
  (try simp only [Exit.inBlock, Exit.then])
  refine bodyPost_ret (v := .agg #[.int .i64 2, .func (.func 33) #[] #[.pointer (some ⟨w.heap.size, 0, none⟩)]]) ?_ rfl ⟨w.heap.size, rfl, h1.out.alloc h1.out.size _, Nat.le_refl _, _, heap_past _ _ h2.out⟩
  rw [results_cell rfl]
  go_simp

theorem cells_two {W : World} {b : Nat} {x y : Value} {t : TypeId} (h : W.heap[b]? = some (.cells #[x, y] t (0, 0))) : W.cell? ⟨b, 0, none⟩ = some x ∧ W.cell? ⟨b, 1, none⟩ = some y ∧ W.frozen? ⟨b, 0, none⟩ = false ∧ W.frozen? ⟨b, 1, none⟩ = false := by
  refine ⟨?_, ?_, ?_, ?_⟩ <;> simp [World.cell?, World.frozen?, h]
theorem heap_set {W : World} {p : Addr} {v : Value} {k : Nat} (h : k ≠ p.block) {o : Obj} (e : W.heap[k]? = some o) : (W.setCell p v).heap[k]? = some o := by
  rw [Below.heap_setCell W p v k h]
  exact e
theorem whether_end {w W W1 : World} {n c : Nat} {g f : Value} {t u : TypeId} {x y : Value} (h1 : Below w.heap.size w W) (hb : Below (w.heap.size + 2) W W1) (h2 : W.heap[w.heap.size]? = some (.cells #[g] t (0, 0))) (hc : w.heap.size + 2 ≤ c) (ht : W1.heap[c]? = some (.cells #[f] u (0, 0))) (hn : n = w.heap.size + 1) :
    Below w.heap.size w ((W1.setCell ⟨n, 0, none⟩ x).setCell ⟨n, 1, none⟩ y) ∧ w.heap.size ≤ c ∧ w.heap.size ≤ w.heap.size ∧
      (∃ t, ((W1.setCell ⟨n, 0, none⟩ x).setCell ⟨n, 1, none⟩ y).heap[c]? = some (.cells #[f] t (0, 0))) ∧ ∃ t, ((W1.setCell ⟨n, 0, none⟩ x).setCell ⟨n, 1, none⟩ y).heap[w.heap.size]? = some (.cells #[g] t (0, 0)) := by
  subst hn
  refine ⟨((h1.trans (hb.mono (by omega))).setCell (p := ⟨w.heap.size + 1, 0, none⟩) (Nat.le_succ _) _).setCell (p := ⟨w.heap.size + 1, 1, none⟩) (Nat.le_succ _) _, by omega, Nat.le_refl _, ⟨u, ?_⟩, ⟨t, ?_⟩⟩
  · exact heap_set (by show c ≠ w.heap.size + 1; omega) (heap_set (by show c ≠ w.heap.size + 1; omega) ht)
  · exact heap_set (by show w.heap.size ≠ w.heap.size + 1; omega) (heap_set (by show w.heap.size ≠ w.heap.size + 1; omega) ((hb.block _ (by omega)).trans h2))
theorem whetherMk (g : FuncId) (w : World) : Calls Try.prog 27 #[.func (.func g) #[] #[]] w fun e w' =>
    ∃ c d, e = .returned (.agg #[.int .i64 2, .func (.func 32) #[] #[.pointer (some ⟨c, 0, none⟩)]]) ∧ Below w.heap.size w w' ∧ w.heap.size ≤ c ∧ w.heap.size ≤ d ∧
      (∃ t, w'.heap[c]? = some (.cells #[.func (.func 34) #[] #[.pointer (some ⟨d, 0, none⟩)]] t (0, 0))) ∧ ∃ t, w'.heap[d]? = some (.cells #[.func (.func g) #[] #[]] t (0, 0)) := by
  have h1 : Hid (Below w.heap.size w ((w.alloc (.cells #[.func (.func g) #[] #[]] 42)).alloc (.cells #[.int .i64 0, .nilFunc] 38))) := Lib.hid (((Below.refl _ _).alloc (Nat.le_refl _) _).alloc (by simp) _)
  have h2 := Lib.hid (heap_past _ (.cells #[.int .i64 0, .nilFunc] 38) (heap_new w (.cells #[.func (.func g) #[] #[]] 42)))
  have h3 := Lib.hid (heap_new (w.alloc (.cells #[.func (.func g) #[] #[]] 42)) (.cells #[.int .i64 0, .nilFunc] 38))
  have es : (w.alloc (.cells #[.func (.func g) #[] #[]] 42)).heap.size = w.heap.size + 1 := by simp
  have es2 : ((w.alloc (.cells #[.func (.func g) #[] #[]] 42)).alloc (.cells #[.int .i64 0, .nilFunc] 38)).heap.size = w.heap.size + 2 := by simp
  rw [es] at h3
  go_enter Try.func27, Try.ntmps27
  go_wp2_with (go_at_call 15; refine (alwaysMk _ _ _).mono ?_; rintro e W1 ⟨c, rfl, hb, hc, t, ht⟩; have ho := hb.size; rw [es2] at hb hc ho; have hq := cells_two ((hb.block (w.heap.size + 1) (by omega)).trans h3.out); obtain ⟨q1, q2, q3, q4⟩ := hq; have hfin := Lib.hid (whether_end h1.out hb (h2.out) hc ht rfl (x := .int .i64 2) (y := .func (.func 32) #[] #[.pointer (some ⟨c, 0, none⟩)]) (n := w.heap.size + 1)); clear hb ht)
  (try simp only [Exit.inBlock, Exit.then])
  refine bodyPost_ret (v := .agg #[.int .i64 2, .func (.func 32) #[] #[.pointer (some ⟨c, 0, none⟩)]]) ?_ rfl ⟨c, w.heap.size, rfl, hfin.out⟩
  rw [results_cell rfl]
  go_simp
end Go.Proofs.Ytpekbaikbgcnmaa
