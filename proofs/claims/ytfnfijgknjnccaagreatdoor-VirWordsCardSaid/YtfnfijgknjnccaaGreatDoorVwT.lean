/-
  vir's every: of strings, numbers, blocks and instructions.
-/
import Derived.Test.YtfnfijgknjnccaaGreatDoorVwE
namespace Go.Proofs.YtfnfijgknjnccaaGreatDoor
open Go.RowKit Go.Sort
/-- An instruction and its arguments; a block of them; blocks in a row. -/
abbrev InsX := InsV × List Int
structure BlkV where
  a : Option Addr
  c : Nat
  l : List InsX
def BlksL (W : World) (a : Option Addr) (l : List BlkV) : Prop := ∀ (j : Nat) (x : BlkV), l[j]? = some x → ∃ b o, a = some ⟨b, o, none⟩ ∧ W.cell? ⟨b, o + j, none⟩ = some (.slice x.a x.l.length x.c)
theorem BlksL.below {W V : World} {a : Option Addr} {l : List BlkV} (h : BlksL W a l) (hb : Below W.heap.size W V) : BlksL V a l := fun j x hx => by
  obtain ⟨b, o, h1, h2⟩ := h j x hx
  exact ⟨b, o, h1, cell_below hb h2⟩
/-- Instructions in a row. -/
def InsL (W : World) (a : Option Addr) (l : List InsX) : Prop := ∀ (j : Nat) (x : InsX), l[j]? = some x → ∃ b o, a = some ⟨b, o, none⟩ ∧ ∀ (i : Nat) v, x.1.cells[i]? = some v → W.cell? ⟨b, o + j * 9 + i, none⟩ = some v
theorem InsL.below {W V : World} {a : Option Addr} {l : List InsX} (h : InsL W a l) (hb : Below W.heap.size W V) : InsL V a l := fun j x hx => by
  obtain ⟨b, o, h1, h2⟩ := h j x hx
  exact ⟨b, o, h1, fun i v hv => cell_below hb (h2 i v hv)⟩
theorem insl_cells {W : World} {b o : Nat} {x : InsV} (h : ∀ (i : Nat) v, x.cells[i]? = some v → W.cell? ⟨b, o + i, none⟩ = some v) :
    W.cell? ⟨b, o, none⟩ = some (.int .i64 x.k) ∧ W.cell? ⟨b, o + 1, none⟩ = some (.int .i64 x.d) ∧ W.cell? ⟨b, o + 2, none⟩ = some (.int .i64 x.a) ∧ W.cell? ⟨b, o + 3, none⟩ = some (.int .i64 x.b) ∧ W.cell? ⟨b, o + 4, none⟩ = some (.int .i64 x.n) ∧ W.cell? ⟨b, o + 5, none⟩ = some (.string x.nm) ∧ W.cell? ⟨b, o + 6, none⟩ = some (.slice x.sa x.sn x.sc) ∧ W.cell? ⟨b, o + 7, none⟩ = some (.int .i64 x.t) ∧ W.cell? ⟨b, o + 8, none⟩ = some (.int .i64 x.f) :=
  ⟨h 0 _ rfl, h 1 _ rfl, h 2 _ rfl, h 3 _ rfl, h 4 _ rfl, h 5 _ rfl, h 6 _ rfl, h 7 _ rfl, h 8 _ rfl⟩
theorem all_take {α : Type} {q : α → Bool} {l : List α} {k : Nat} {x : α} (h : ∀ y, y ∈ l.take k → q y = false) (hx : l[k]? = some x) (hq : q x = false) : ∀ y, y ∈ l.take (k + 1) → q y = false := fun y hy => by
  rw [List.take_add_one, hx] at hy
  rcases List.mem_append.1 hy with hy | hy
  · exact h y hy
  · rw [Option.toList_some, List.mem_singleton] at hy
    rw [hy]
    exact hq
theorem any_no {α : Type} {q : α → Bool} {l : List α} (h : ∀ y, y ∈ l.take l.length → q y = false) : l.any q = false := by
  rw [List.any_eq_false]
  intro y hy
  rw [h y (by rw [List.take_length]; exact hy)]
  decide
theorem any_yes {α : Type} {q : α → Bool} {l : List α} {x : α} {k : Nat} (hx : l[k]? = some x) (hq : q x = true) : l.any q = true := by
  rw [List.any_eq_true]
  exact ⟨x, List.mem_of_getElem? hx, hq⟩
theorem any_not {α : Type} (l : List α) (p : α → Bool) : (!l.any fun x => !p x) = l.all p := by
  induction l with
  | nil => rfl
  | cons a t ih => simp [← ih]
set_option maxHeartbeats 4000000
set_option maxRecDepth 100000

theorem indexFuncS {a : Option Addr} {c : Nat} {l : List ByteArray} {w : World} {g : FuncId} {lb : Array Value} {q : ByteArray → Bool} (eg : ∀ (args : Array Value) (w : World), (callFunc g args).run Tryz.prog w = .ok (.enter g args) w)
    (hl : StrsL w a l) (hlen : l.length ≤ 100000) (hK : ∀ W x, Below w.heap.size w W → x ∈ l → Calls Tryz.prog g (#[.string x] ++ lb) W fun e w' => e = .returned (.bool (q x)) ∧ Below W.heap.size W w') :
    Calls Tryz.prog 72 #[.slice a l.length c, .func (.func g) #[] lb] w fun e w' => (∃ n : Int, e = .returned (.int .i64 n) ∧ decide (0 ≤ n) = l.any q) ∧ Below w.heap.size w w' := by
  replace hK := Lib.hid hK
  replace hl := Lib.hid hl
  go_enter Tryz.func72, Tryz.ntmps72
  go_wp2
  go_loopw [8] (fun i wr => ∃ k : Nat, k ≤ l.length ∧ i = .int .i64 k ∧ (∀ y, y ∈ l.take k → q y = false) ∧ Below w.heap.size w wr) (fun i _ => l.length - (intOf i).toNat)
  case atStart => exact ⟨0, Nat.zero_le _, rfl, fun y hy => by simp at hy, Below.refl _ _⟩
  case round =>
    obtain ⟨k, hk, rfl, hno, hB⟩ := hrel
    replace hno := Lib.hid hno
    have k0 : (0 : Int) ≤ k := Int.natCast_nonneg _
    by_cases hlt : k < l.length
    · obtain ⟨x, hx⟩ : ∃ x, l[k]? = some x := ⟨l[k], by rw [List.getElem?_eq_getElem hlt]⟩
      obtain ⟨b, o, rfl, hc⟩ := hl.out k x hx
      have hc' := cell_below hB hc
      have K := hK.out wr x hB (List.mem_of_getElem? hx)
      replace hx := Lib.hid hx
      have hi : IntKind.i64.wrap ((k : Int) + 1) = k + 1 := IntWalk.i64_in _ (by omega)
      have k1 : (k : Int) < l.length := by omega
      clear hc
      cases hq : q x
      all_goals
        rw [hq] at K
      · go_wp2_with (go_at_fn g; refine K.mono ?_; clear K; rintro e W1 ⟨rfl, hb1⟩)
        exact ⟨⟨k + 1, by omega, by go_num, all_take hno.out hx.out hq, hB.trans (hb1.mono hB.size)⟩, by simp [intOf]; omega⟩
      · go_wp2_with (go_at_fn g; refine K.mono ?_; clear K; rintro e W1 ⟨rfl, hb1⟩)
        go_ret
        exact ⟨⟨k, rfl, by rw [any_yes hx.out hq]; simp⟩, hB.trans (hb1.mono hB.size)⟩
    · obtain rfl : k = l.length := by omega
      have hn := hno.out
      clear hno
      replace hn := Lib.hid hn
      go_wp2
      go_ret
      exact ⟨⟨-1, rfl, by rw [any_no hn.out]; rfl⟩, hB⟩
theorem containsFuncS {a : Option Addr} {c : Nat} {l : List ByteArray} {w : World} {g : FuncId} {lb : Array Value} {q : ByteArray → Bool} (eg : ∀ (args : Array Value) (w : World), (callFunc g args).run Tryz.prog w = .ok (.enter g args) w)
    (hl : StrsL w a l) (hlen : l.length ≤ 100000) (hK : ∀ W x, Below w.heap.size w W → x ∈ l → Calls Tryz.prog g (#[.string x] ++ lb) W fun e w' => e = .returned (.bool (q x)) ∧ Below W.heap.size W w') :
    Calls Tryz.prog 45 #[.slice a l.length c, .func (.func g) #[] lb] w fun e w' => e = .returned (.bool (l.any q)) ∧ Below w.heap.size w w' := by
  have K := indexFuncS (c := c) eg hl hlen hK
  clear hl hlen hK
  generalize l.any q = r at *
  go_enter Tryz.func45, Tryz.ntmps45
  go_wp2_with (go_at_call 72; refine K.mono ?_; clear K; rintro e W1 ⟨⟨n, rfl, hn⟩, hb1⟩)
  go_ret
  exact ⟨ret_bool (by rw [← hn]), hb1⟩
theorem everyS_1 {w : World} {g : FuncId} {bx : Nat} {x : ByteArray} {r : Bool} (eg : ∀ (args : Array Value) (w : World), (callFunc g args).run Tryz.prog w = .ok (.enter g args) w)
    (hbx : w.cell? ⟨bx, 0, none⟩ = some (.func (.func g) #[] #[])) (K : ∀ W, Below w.heap.size w W → Calls Tryz.prog g #[.string x] W fun e w' => e = .returned (.bool r) ∧ Below W.heap.size W w') :
    Calls Tryz.prog 46 #[.string x, .pointer (some ⟨bx, 0, none⟩)] w fun e w' => e = .returned (.bool (!r)) ∧ Below w.heap.size w w' := by
  replace K := K w (Below.refl _ _)
  go_enter Tryz.func46, Tryz.ntmps46
  go_wp2_with (go_at_fn g; refine K.mono ?_; clear K; rintro e W1 ⟨rfl, hb1⟩)
  go_ret
  exact ⟨rfl, hb1⟩
theorem everyS_any {a : Option Addr} {c : Nat} {l : List ByteArray} {w : World} {g : FuncId} {most : Int} {p : ByteArray → Bool} (eg : ∀ (args : Array Value) (w : World), (callFunc g args).run Tryz.prog w = .ok (.enter g args) w)
    (hl : StrsL w a l) (hlen : l.length ≤ 100000) (hK : ∀ W x, Below w.heap.size w W → x ∈ l → Calls Tryz.prog g #[.string x] W fun e w' => e = .returned (.bool (p x)) ∧ Below W.heap.size W w') :
    Calls Tryz.prog 22 #[.slice a l.length c, .int .i64 most, .func (.func g) #[] #[]] w fun e w' => e = .returned (.bool (decide ((l.length : Int) ≤ most) && l.all p)) ∧ Below w.heap.size w w' := by
  have hB0 : Below w.heap.size w (w.alloc (.cells #[.func (.func g) #[] #[]] 59)) := (Below.refl _ _).alloc (Nat.le_refl _) _
  have hbx := new_cell w #[.func (.func g) #[] #[]] 59 (j := 0) rfl
  have K := containsFuncS (w := w.alloc (.cells #[.func (.func g) #[] #[]] 59)) (g := 46) (lb := #[.pointer (some ⟨w.heap.size, 0, none⟩)]) (a := a) (c := c) (q := fun x => !p x) (enters_of Tryz.func46 (by kernel_rfl) rfl) (hl.below hB0) hlen
    (fun W x hb hx => everyS_1 eg (cell_below hb hbx) fun V hv => hK V x ((hB0.trans (hb.mono hB0.size)).trans (hv.mono (by have := hB0.size; have := hb.size; omega))) hx)
  have hnot := any_not l p
  clear hK hl eg
  replace hB0 := Lib.hid hB0
  generalize (l.any fun x => !p x) = r at *
  generalize l.all p = s at *
  subst hnot
  have hcase : (l.length : Int) ≤ most ∨ ¬ (l.length : Int) ≤ most := by omega
  rcases hcase with hm | hm
  · have e : decide ((l.length : Int) ≤ most) = true := decide_eq_true hm
    rw [e]
    go_enter Tryz.func22, Tryz.ntmps22
    go_wp2_with (go_at_call 45; refine K.mono ?_; clear K; rintro e W1 ⟨rfl, hb1⟩)
    go_ret
    exact ⟨rfl, hB0.out.trans (hb1.mono hB0.out.size)⟩
  · have e : decide ((l.length : Int) ≤ most) = false := decide_eq_false hm
    rw [e]
    clear K
    go_enter Tryz.func22, Tryz.ntmps22
    go_wp2
    go_ret
    exact ⟨rfl, hB0.out⟩

theorem indexFuncI {a : Option Addr} {c : Nat} {l : List Int} {w : World} {g : FuncId} {lb : Array Value} {q : Int → Bool} (eg : ∀ (args : Array Value) (w : World), (callFunc g args).run Tryz.prog w = .ok (.enter g args) w)
    (hl : IntsL w a l) (hlen : l.length ≤ 100000) (hK : ∀ W x, Below w.heap.size w W → x ∈ l → Calls Tryz.prog g (#[.int .i64 x] ++ lb) W fun e w' => e = .returned (.bool (q x)) ∧ Below W.heap.size W w') :
    Calls Tryz.prog 73 #[.slice a l.length c, .func (.func g) #[] lb] w fun e w' => (∃ n : Int, e = .returned (.int .i64 n) ∧ decide (0 ≤ n) = l.any q) ∧ Below w.heap.size w w' := by
  replace hK := Lib.hid hK
  replace hl := Lib.hid hl
  go_enter Tryz.func73, Tryz.ntmps73
  go_wp2
  go_loopw [8] (fun i wr => ∃ k : Nat, k ≤ l.length ∧ i = .int .i64 k ∧ (∀ y, y ∈ l.take k → q y = false) ∧ Below w.heap.size w wr) (fun i _ => l.length - (intOf i).toNat)
  case atStart => exact ⟨0, Nat.zero_le _, rfl, fun y hy => by simp at hy, Below.refl _ _⟩
  case round =>
    obtain ⟨k, hk, rfl, hno, hB⟩ := hrel
    replace hno := Lib.hid hno
    have k0 : (0 : Int) ≤ k := Int.natCast_nonneg _
    by_cases hlt : k < l.length
    · obtain ⟨x, hx⟩ : ∃ x, l[k]? = some x := ⟨l[k], by rw [List.getElem?_eq_getElem hlt]⟩
      obtain ⟨b, o, rfl, hc⟩ := hl.out k x hx
      have hc' := cell_below hB hc
      have K := hK.out wr x hB (List.mem_of_getElem? hx)
      replace hx := Lib.hid hx
      have hi : IntKind.i64.wrap ((k : Int) + 1) = k + 1 := IntWalk.i64_in _ (by omega)
      have k1 : (k : Int) < l.length := by omega
      clear hc
      cases hq : q x
      all_goals
        rw [hq] at K
      · go_wp2_with (go_at_fn g; refine K.mono ?_; clear K; rintro e W1 ⟨rfl, hb1⟩)
        exact ⟨⟨k + 1, by omega, by go_num, all_take hno.out hx.out hq, hB.trans (hb1.mono hB.size)⟩, by simp [intOf]; omega⟩
      · go_wp2_with (go_at_fn g; refine K.mono ?_; clear K; rintro e W1 ⟨rfl, hb1⟩)
        go_ret
        exact ⟨⟨k, rfl, by rw [any_yes hx.out hq]; simp⟩, hB.trans (hb1.mono hB.size)⟩
    · obtain rfl : k = l.length := by omega
      have hn := hno.out
      clear hno
      replace hn := Lib.hid hn
      go_wp2
      go_ret
      exact ⟨⟨-1, rfl, by rw [any_no hn.out]; rfl⟩, hB⟩
theorem containsFuncI {a : Option Addr} {c : Nat} {l : List Int} {w : World} {g : FuncId} {lb : Array Value} {q : Int → Bool} (eg : ∀ (args : Array Value) (w : World), (callFunc g args).run Tryz.prog w = .ok (.enter g args) w)
    (hl : IntsL w a l) (hlen : l.length ≤ 100000) (hK : ∀ W x, Below w.heap.size w W → x ∈ l → Calls Tryz.prog g (#[.int .i64 x] ++ lb) W fun e w' => e = .returned (.bool (q x)) ∧ Below W.heap.size W w') :
    Calls Tryz.prog 47 #[.slice a l.length c, .func (.func g) #[] lb] w fun e w' => e = .returned (.bool (l.any q)) ∧ Below w.heap.size w w' := by
  have K := indexFuncI (c := c) eg hl hlen hK
  clear hl hlen hK
  generalize l.any q = r at *
  go_enter Tryz.func47, Tryz.ntmps47
  go_wp2_with (go_at_call 73; refine K.mono ?_; clear K; rintro e W1 ⟨⟨n, rfl, hn⟩, hb1⟩)
  go_ret
  exact ⟨ret_bool (by rw [← hn]), hb1⟩
theorem everyI_1 {w : World} {g : FuncId} {bx : Nat} {x : Int} {r : Bool} (eg : ∀ (args : Array Value) (w : World), (callFunc g args).run Tryz.prog w = .ok (.enter g args) w)
    (hbx : w.cell? ⟨bx, 0, none⟩ = some (.func (.func g) #[] #[])) (K : ∀ W, Below w.heap.size w W → Calls Tryz.prog g #[.int .i64 x] W fun e w' => e = .returned (.bool r) ∧ Below W.heap.size W w') :
    Calls Tryz.prog 48 #[.int .i64 x, .pointer (some ⟨bx, 0, none⟩)] w fun e w' => e = .returned (.bool (!r)) ∧ Below w.heap.size w w' := by
  replace K := K w (Below.refl _ _)
  go_enter Tryz.func48, Tryz.ntmps48
  go_wp2_with (go_at_fn g; refine K.mono ?_; clear K; rintro e W1 ⟨rfl, hb1⟩)
  go_ret
  exact ⟨rfl, hb1⟩
theorem everyI_any {a : Option Addr} {c : Nat} {l : List Int} {w : World} {g : FuncId} {most : Int} {p : Int → Bool} (eg : ∀ (args : Array Value) (w : World), (callFunc g args).run Tryz.prog w = .ok (.enter g args) w)
    (hl : IntsL w a l) (hlen : l.length ≤ 100000) (hK : ∀ W x, Below w.heap.size w W → x ∈ l → Calls Tryz.prog g #[.int .i64 x] W fun e w' => e = .returned (.bool (p x)) ∧ Below W.heap.size W w') :
    Calls Tryz.prog 23 #[.slice a l.length c, .int .i64 most, .func (.func g) #[] #[]] w fun e w' => e = .returned (.bool (decide ((l.length : Int) ≤ most) && l.all p)) ∧ Below w.heap.size w w' := by
  have hB0 : Below w.heap.size w (w.alloc (.cells #[.func (.func g) #[] #[]] 62)) := (Below.refl _ _).alloc (Nat.le_refl _) _
  have hbx := new_cell w #[.func (.func g) #[] #[]] 62 (j := 0) rfl
  have K := containsFuncI (w := w.alloc (.cells #[.func (.func g) #[] #[]] 62)) (g := 48) (lb := #[.pointer (some ⟨w.heap.size, 0, none⟩)]) (a := a) (c := c) (q := fun x => !p x) (enters_of Tryz.func48 (by kernel_rfl) rfl) (hl.below hB0) hlen
    (fun W x hb hx => everyI_1 eg (cell_below hb hbx) fun V hv => hK V x ((hB0.trans (hb.mono hB0.size)).trans (hv.mono (by have := hB0.size; have := hb.size; omega))) hx)
  have hnot := any_not l p
  clear hK hl eg
  replace hB0 := Lib.hid hB0
  generalize (l.any fun x => !p x) = r at *
  generalize l.all p = s at *
  subst hnot
  have hcase : (l.length : Int) ≤ most ∨ ¬ (l.length : Int) ≤ most := by omega
  rcases hcase with hm | hm
  · have e : decide ((l.length : Int) ≤ most) = true := decide_eq_true hm
    rw [e]
    go_enter Tryz.func23, Tryz.ntmps23
    go_wp2_with (go_at_call 47; refine K.mono ?_; clear K; rintro e W1 ⟨rfl, hb1⟩)
    go_ret
    exact ⟨rfl, hB0.out.trans (hb1.mono hB0.out.size)⟩
  · have e : decide ((l.length : Int) ≤ most) = false := decide_eq_false hm
    rw [e]
    clear K
    go_enter Tryz.func23, Tryz.ntmps23
    go_wp2
    go_ret
    exact ⟨rfl, hB0.out⟩

theorem indexFuncB {a : Option Addr} {c : Nat} {l : List BlkV} {w : World} {g : FuncId} {lb : Array Value} {q : BlkV → Bool} (eg : ∀ (args : Array Value) (w : World), (callFunc g args).run Tryz.prog w = .ok (.enter g args) w)
    (hl : BlksL w a l) (hlen : l.length ≤ 100000) (hK : ∀ W x, Below w.heap.size w W → x ∈ l → Calls Tryz.prog g (#[.slice x.a x.l.length x.c] ++ lb) W fun e w' => e = .returned (.bool (q x)) ∧ Below W.heap.size W w') :
    Calls Tryz.prog 74 #[.slice a l.length c, .func (.func g) #[] lb] w fun e w' => (∃ n : Int, e = .returned (.int .i64 n) ∧ decide (0 ≤ n) = l.any q) ∧ Below w.heap.size w w' := by
  replace hK := Lib.hid hK
  replace hl := Lib.hid hl
  go_enter Tryz.func74, Tryz.ntmps74
  go_wp2
  go_loopw [8] (fun i wr => ∃ k : Nat, k ≤ l.length ∧ i = .int .i64 k ∧ (∀ y, y ∈ l.take k → q y = false) ∧ Below w.heap.size w wr) (fun i _ => l.length - (intOf i).toNat)
  case atStart => exact ⟨0, Nat.zero_le _, rfl, fun y hy => by simp at hy, Below.refl _ _⟩
  case round =>
    obtain ⟨k, hk, rfl, hno, hB⟩ := hrel
    replace hno := Lib.hid hno
    have k0 : (0 : Int) ≤ k := Int.natCast_nonneg _
    by_cases hlt : k < l.length
    · obtain ⟨x, hx⟩ : ∃ x, l[k]? = some x := ⟨l[k], by rw [List.getElem?_eq_getElem hlt]⟩
      obtain ⟨b, o, rfl, hc⟩ := hl.out k x hx
      have hc' := cell_below hB hc
      have K := hK.out wr x hB (List.mem_of_getElem? hx)
      replace hx := Lib.hid hx
      have hi : IntKind.i64.wrap ((k : Int) + 1) = k + 1 := IntWalk.i64_in _ (by omega)
      have k1 : (k : Int) < l.length := by omega
      clear hc
      cases hq : q x
      all_goals
        rw [hq] at K
      · go_wp2_with (go_at_fn g; refine K.mono ?_; clear K; rintro e W1 ⟨rfl, hb1⟩)
        exact ⟨⟨k + 1, by omega, by go_num, all_take hno.out hx.out hq, hB.trans (hb1.mono hB.size)⟩, by simp [intOf]; omega⟩
      · go_wp2_with (go_at_fn g; refine K.mono ?_; clear K; rintro e W1 ⟨rfl, hb1⟩)
        go_ret
        exact ⟨⟨k, rfl, by rw [any_yes hx.out hq]; simp⟩, hB.trans (hb1.mono hB.size)⟩
    · obtain rfl : k = l.length := by omega
      have hn := hno.out
      clear hno
      replace hn := Lib.hid hn
      go_wp2
      go_ret
      exact ⟨⟨-1, rfl, by rw [any_no hn.out]; rfl⟩, hB⟩
theorem containsFuncB {a : Option Addr} {c : Nat} {l : List BlkV} {w : World} {g : FuncId} {lb : Array Value} {q : BlkV → Bool} (eg : ∀ (args : Array Value) (w : World), (callFunc g args).run Tryz.prog w = .ok (.enter g args) w)
    (hl : BlksL w a l) (hlen : l.length ≤ 100000) (hK : ∀ W x, Below w.heap.size w W → x ∈ l → Calls Tryz.prog g (#[.slice x.a x.l.length x.c] ++ lb) W fun e w' => e = .returned (.bool (q x)) ∧ Below W.heap.size W w') :
    Calls Tryz.prog 49 #[.slice a l.length c, .func (.func g) #[] lb] w fun e w' => e = .returned (.bool (l.any q)) ∧ Below w.heap.size w w' := by
  have K := indexFuncB (c := c) eg hl hlen hK
  clear hl hlen hK
  generalize l.any q = r at *
  go_enter Tryz.func49, Tryz.ntmps49
  go_wp2_with (go_at_call 74; refine K.mono ?_; clear K; rintro e W1 ⟨⟨n, rfl, hn⟩, hb1⟩)
  go_ret
  exact ⟨ret_bool (by rw [← hn]), hb1⟩
theorem everyB_1 {w : World} {g : FuncId} {bx : Nat} {x : BlkV} {r : Bool} (eg : ∀ (args : Array Value) (w : World), (callFunc g args).run Tryz.prog w = .ok (.enter g args) w)
    (hbx : w.cell? ⟨bx, 0, none⟩ = some (.func (.func g) #[] #[])) (K : ∀ W, Below w.heap.size w W → Calls Tryz.prog g #[.slice x.a x.l.length x.c] W fun e w' => e = .returned (.bool r) ∧ Below W.heap.size W w') :
    Calls Tryz.prog 50 #[.slice x.a x.l.length x.c, .pointer (some ⟨bx, 0, none⟩)] w fun e w' => e = .returned (.bool (!r)) ∧ Below w.heap.size w w' := by
  replace K := K w (Below.refl _ _)
  go_enter Tryz.func50, Tryz.ntmps50
  go_wp2_with (go_at_fn g; refine K.mono ?_; clear K; rintro e W1 ⟨rfl, hb1⟩)
  go_ret
  exact ⟨rfl, hb1⟩
theorem everyB_any {a : Option Addr} {c : Nat} {l : List BlkV} {w : World} {g : FuncId} {most : Int} {p : BlkV → Bool} (eg : ∀ (args : Array Value) (w : World), (callFunc g args).run Tryz.prog w = .ok (.enter g args) w)
    (hl : BlksL w a l) (hlen : l.length ≤ 100000) (hK : ∀ W x, Below w.heap.size w W → x ∈ l → Calls Tryz.prog g #[.slice x.a x.l.length x.c] W fun e w' => e = .returned (.bool (p x)) ∧ Below W.heap.size W w') :
    Calls Tryz.prog 25 #[.slice a l.length c, .int .i64 most, .func (.func g) #[] #[]] w fun e w' => e = .returned (.bool (decide ((l.length : Int) ≤ most) && l.all p)) ∧ Below w.heap.size w w' := by
  have hB0 : Below w.heap.size w (w.alloc (.cells #[.func (.func g) #[] #[]] 64)) := (Below.refl _ _).alloc (Nat.le_refl _) _
  have hbx := new_cell w #[.func (.func g) #[] #[]] 64 (j := 0) rfl
  have K := containsFuncB (w := w.alloc (.cells #[.func (.func g) #[] #[]] 64)) (g := 50) (lb := #[.pointer (some ⟨w.heap.size, 0, none⟩)]) (a := a) (c := c) (q := fun x => !p x) (enters_of Tryz.func50 (by kernel_rfl) rfl) (hl.below hB0) hlen
    (fun W x hb hx => everyB_1 eg (cell_below hb hbx) fun V hv => hK V x ((hB0.trans (hb.mono hB0.size)).trans (hv.mono (by have := hB0.size; have := hb.size; omega))) hx)
  have hnot := any_not l p
  clear hK hl eg
  replace hB0 := Lib.hid hB0
  generalize (l.any fun x => !p x) = r at *
  generalize l.all p = s at *
  subst hnot
  have hcase : (l.length : Int) ≤ most ∨ ¬ (l.length : Int) ≤ most := by omega
  rcases hcase with hm | hm
  · have e : decide ((l.length : Int) ≤ most) = true := decide_eq_true hm
    rw [e]
    go_enter Tryz.func25, Tryz.ntmps25
    go_wp2_with (go_at_call 49; refine K.mono ?_; clear K; rintro e W1 ⟨rfl, hb1⟩)
    go_ret
    exact ⟨rfl, hB0.out.trans (hb1.mono hB0.out.size)⟩
  · have e : decide ((l.length : Int) ≤ most) = false := decide_eq_false hm
    rw [e]
    clear K
    go_enter Tryz.func25, Tryz.ntmps25
    go_wp2
    go_ret
    exact ⟨rfl, hB0.out⟩

theorem indexFuncX {a : Option Addr} {c : Nat} {l : List InsX} {w : World} {g : FuncId} {lb : Array Value} {q : InsX → Bool} (eg : ∀ (args : Array Value) (w : World), (callFunc g args).run Tryz.prog w = .ok (.enter g args) w)
    (hl : InsL w a l) (hlen : l.length ≤ 100000) (hK : ∀ W x, Below w.heap.size w W → x ∈ l → Calls Tryz.prog g (#[.agg x.1.cells] ++ lb) W fun e w' => e = .returned (.bool (q x)) ∧ Below W.heap.size W w') :
    Calls Tryz.prog 98 #[.slice a l.length c, .func (.func g) #[] lb] w fun e w' => (∃ n : Int, e = .returned (.int .i64 n) ∧ decide (0 ≤ n) = l.any q) ∧ Below w.heap.size w w' := by
  replace hK := Lib.hid hK
  replace hl := Lib.hid hl
  go_enter Tryz.func98, Tryz.ntmps98
  go_wp2
  go_loopw [8] (fun i wr => ∃ k : Nat, k ≤ l.length ∧ i = .int .i64 k ∧ (∀ y, y ∈ l.take k → q y = false) ∧ Below w.heap.size w wr) (fun i _ => l.length - (intOf i).toNat)
  case atStart => exact ⟨0, Nat.zero_le _, rfl, fun y hy => by simp at hy, Below.refl _ _⟩
  case round =>
    obtain ⟨k, hk, rfl, hno, hB⟩ := hrel
    replace hno := Lib.hid hno
    have k0 : (0 : Int) ≤ k := Int.natCast_nonneg _
    by_cases hlt : k < l.length
    · obtain ⟨x, hx⟩ : ∃ x, l[k]? = some x := ⟨l[k], by rw [List.getElem?_eq_getElem hlt]⟩
      obtain ⟨b, o, rfl, hc⟩ := hl.out k x hx
      obtain ⟨x0, x1, x2, x3, x4, x5, x6, x7, x8⟩ := insl_cells (fun i v hv => cell_below hB (hc i v hv))
      have K := hK.out wr x hB (List.mem_of_getElem? hx)
      replace hx := Lib.hid hx
      have hi : IntKind.i64.wrap ((k : Int) + 1) = k + 1 := IntWalk.i64_in _ (by omega)
      have k1 : (k : Int) < l.length := by omega
      clear hc
      unfold InsV.cells at K
      cases hq : q x
      all_goals
        rw [hq] at K
      · go_wp2_with (go_at_fn g; refine K.mono ?_; clear K; rintro e W1 ⟨rfl, hb1⟩)
        exact ⟨⟨k + 1, by omega, by go_num, all_take hno.out hx.out hq, hB.trans (hb1.mono hB.size)⟩, by simp [intOf]; omega⟩
      · go_wp2_with (go_at_fn g; refine K.mono ?_; clear K; rintro e W1 ⟨rfl, hb1⟩)
        go_ret
        exact ⟨⟨k, rfl, by rw [any_yes hx.out hq]; simp⟩, hB.trans (hb1.mono hB.size)⟩
    · obtain rfl : k = l.length := by omega
      have hn := hno.out
      clear hno
      replace hn := Lib.hid hn
      go_wp2
      go_ret
      exact ⟨⟨-1, rfl, by rw [any_no hn.out]; rfl⟩, hB⟩
theorem containsFuncX {a : Option Addr} {c : Nat} {l : List InsX} {w : World} {g : FuncId} {lb : Array Value} {q : InsX → Bool} (eg : ∀ (args : Array Value) (w : World), (callFunc g args).run Tryz.prog w = .ok (.enter g args) w)
    (hl : InsL w a l) (hlen : l.length ≤ 100000) (hK : ∀ W x, Below w.heap.size w W → x ∈ l → Calls Tryz.prog g (#[.agg x.1.cells] ++ lb) W fun e w' => e = .returned (.bool (q x)) ∧ Below W.heap.size W w') :
    Calls Tryz.prog 75 #[.slice a l.length c, .func (.func g) #[] lb] w fun e w' => e = .returned (.bool (l.any q)) ∧ Below w.heap.size w w' := by
  have K := indexFuncX (c := c) eg hl hlen hK
  clear hl hlen hK
  generalize l.any q = r at *
  go_enter Tryz.func75, Tryz.ntmps75
  go_wp2_with (go_at_call 98; refine K.mono ?_; clear K; rintro e W1 ⟨⟨n, rfl, hn⟩, hb1⟩)
  go_ret
  exact ⟨ret_bool (by rw [← hn]), hb1⟩
theorem everyX_1 {w : World} {g : FuncId} {bx : Nat} {x : InsX} {r : Bool} (eg : ∀ (args : Array Value) (w : World), (callFunc g args).run Tryz.prog w = .ok (.enter g args) w)
    (hbx : w.cell? ⟨bx, 0, none⟩ = some (.func (.func g) #[] #[])) (K : ∀ W, Below w.heap.size w W → Calls Tryz.prog g #[.agg x.1.cells] W fun e w' => e = .returned (.bool r) ∧ Below W.heap.size W w') :
    Calls Tryz.prog 76 #[.agg x.1.cells, .pointer (some ⟨bx, 0, none⟩)] w fun e w' => e = .returned (.bool (!r)) ∧ Below w.heap.size w w' := by
  have hB0 : Below w.heap.size w (w.alloc (.cells x.1.cells 25)) := (Below.refl _ _).alloc (Nat.le_refl _) _
  have hbx' := cell_below hB0 hbx
  replace K := K _ hB0
  replace hB0 := Lib.hid hB0
  unfold InsV.cells at K hbx' ⊢
  go_enter Tryz.func76, Tryz.ntmps76
  go_wp2_with (go_at_fn g; refine K.mono ?_; clear K; rintro e W1 ⟨rfl, hb1⟩)
  go_ret
  exact ⟨rfl, hB0.out.trans (hb1.mono hB0.out.size)⟩
theorem everyX_any {a : Option Addr} {c : Nat} {l : List InsX} {w : World} {g : FuncId} {most : Int} {p : InsX → Bool} (eg : ∀ (args : Array Value) (w : World), (callFunc g args).run Tryz.prog w = .ok (.enter g args) w)
    (hl : InsL w a l) (hlen : l.length ≤ 100000) (hK : ∀ W x, Below w.heap.size w W → x ∈ l → Calls Tryz.prog g #[.agg x.1.cells] W fun e w' => e = .returned (.bool (p x)) ∧ Below W.heap.size W w') :
    Calls Tryz.prog 51 #[.slice a l.length c, .int .i64 most, .func (.func g) #[] #[]] w fun e w' => e = .returned (.bool (decide ((l.length : Int) ≤ most) && l.all p)) ∧ Below w.heap.size w w' := by
  have hB0 : Below w.heap.size w (w.alloc (.cells #[.func (.func g) #[] #[]] 104)) := (Below.refl _ _).alloc (Nat.le_refl _) _
  have hbx := new_cell w #[.func (.func g) #[] #[]] 104 (j := 0) rfl
  have K := containsFuncX (w := w.alloc (.cells #[.func (.func g) #[] #[]] 104)) (g := 76) (lb := #[.pointer (some ⟨w.heap.size, 0, none⟩)]) (a := a) (c := c) (q := fun x => !p x) (enters_of Tryz.func76 (by kernel_rfl) rfl) (hl.below hB0) hlen
    (fun W x hb hx => everyX_1 eg (cell_below hb hbx) fun V hv => hK V x ((hB0.trans (hb.mono hB0.size)).trans (hv.mono (by have := hB0.size; have := hb.size; omega))) hx)
  have hnot := any_not l p
  clear hK hl eg
  replace hB0 := Lib.hid hB0
  generalize (l.any fun x => !p x) = r at *
  generalize l.all p = s at *
  subst hnot
  have hcase : (l.length : Int) ≤ most ∨ ¬ (l.length : Int) ≤ most := by omega
  rcases hcase with hm | hm
  · have e : decide ((l.length : Int) ≤ most) = true := decide_eq_true hm
    rw [e]
    go_enter Tryz.func51, Tryz.ntmps51
    go_wp2_with (go_at_call 75; refine K.mono ?_; clear K; rintro e W1 ⟨rfl, hb1⟩)
    go_ret
    exact ⟨rfl, hB0.out.trans (hb1.mono hB0.out.size)⟩
  · have e : decide ((l.length : Int) ≤ most) = false := decide_eq_false hm
    rw [e]
    clear K
    go_enter Tryz.func51, Tryz.ntmps51
    go_wp2
    go_ret
    exact ⟨rfl, hB0.out⟩
end Go.Proofs.YtfnfijgknjnccaaGreatDoor
