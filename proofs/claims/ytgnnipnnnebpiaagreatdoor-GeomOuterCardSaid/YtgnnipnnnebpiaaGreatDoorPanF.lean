/-
  geom's Places where a register can't be: add's panic is recovered by the deferred closure, which answers the fault's number.
-/
import Derived.Test.YtgnnipnnnebpiaaGreatDoorGeoG
import Derived.Test.YtgnnipnnnebpiaaGreatDoorPanC
import Derived.Test.YtgnnipnnnebpiaaGreatDoorPanD
import Derived.Test.YtgnnipnnnebpiaaGreatDoorPanE
namespace Go.Proofs.YtgnnipnnnebpiaaGreatDoor
open Go.RowKit Go.Shelf

attribute [local go_sem] Oper.semAt_some

/-- The cell of errors' own variable of the type 'error'. -/
def EnvA (w : World) : Prop := w.cell? ⟨0, 0, none⟩ = some (.iface 75 (.agg #[.pointer (some ⟨9, 41, none⟩)]))
theorem EnvA.below {A B : World} (h : EnvA A) (hb : Below A.heap.size A B) : EnvA B := cell_below hb h

/-- errors.As in the closure, told by what it leaves. -/
theorem as_told (n : Int) (p : Addr) (old : Value) (w : World) (hA : EnvA w) (hp : w.cell? p = some old) (hf : w.frozen? p = false) :
    Calls Tryz.prog 13 #[.iface 39 (.int .i64 n), .iface 44 (.pointer (some ⟨w.heap.size, 0, none⟩))] (w.alloc (.cells #[.int .i64 0] 39)) fun e W =>
      e = .returned (.bool true) ∧ W.cell? ⟨w.heap.size, 0, none⟩ = some (.int .i64 n) ∧ W.cell? p = some old ∧ W.frozen? p = false ∧ Below w.heap.size w W := by
  have hlt : p.block < w.heap.size := World.block_lt_of_cell? _ _ hp
  refine (as_fault n ⟨w.heap.size, 0, none⟩ (.int .i64 0) (w.alloc (.cells #[.int .i64 0] 39)) (hA.below ((Below.refl _ _).alloc (Nat.le_refl _) _)) (by simp) (by simp)).mono ?_
  rintro e W ⟨rfl, rfl⟩
  have hc : Cells ((((((w.alloc (.cells #[.int .i64 0] 39)).alloc (.cells #[.pointer (some ⟨w.heap.size, 0, none⟩)] 44)).alloc (.cells #[.pointer (some ⟨9, 44, none⟩), .pointer (some ⟨(w.alloc (.cells #[.int .i64 0] 39)).heap.size, 0, none⟩), .int .u64 150] 58)).alloc (.cells #[.pointer (some ⟨9, 44, none⟩), .pointer (some ⟨(w.alloc (.cells #[.int .i64 0] 39)).heap.size, 0, none⟩), .int .u64 150] 58)).alloc (.cells #[.int .i64 n] 39)).setCell ⟨w.heap.size, 0, none⟩ (.int .i64 n)) w.heap.size 39 #[.int .i64 n] :=
    (((((Cells.new w _ _).alloc _).alloc _).alloc _).alloc _).set (j := 0) (.int .i64 n)
  have hB : Below w.heap.size w ((((((w.alloc (.cells #[.int .i64 0] 39)).alloc (.cells #[.pointer (some ⟨w.heap.size, 0, none⟩)] 44)).alloc (.cells #[.pointer (some ⟨9, 44, none⟩), .pointer (some ⟨(w.alloc (.cells #[.int .i64 0] 39)).heap.size, 0, none⟩), .int .u64 150] 58)).alloc (.cells #[.pointer (some ⟨9, 44, none⟩), .pointer (some ⟨(w.alloc (.cells #[.int .i64 0] 39)).heap.size, 0, none⟩), .int .u64 150] 58)).alloc (.cells #[.int .i64 n] 39)).setCell ⟨w.heap.size, 0, none⟩ (.int .i64 n)) :=
    ((((((Below.refl _ w).alloc (Nat.le_refl _) _).alloc (by simp) _).alloc (by simp; omega) _).alloc (by simp; omega) _).alloc (by simp; omega) _).setCell (p := ⟨w.heap.size, 0, none⟩) (Nat.le_refl _) _
  exact ⟨rfl, hc.cell rfl, (hB.cell hlt).trans hp, (hB.frozen hlt).trans hf, hB⟩

set_option maxRecDepth 100000 in
set_option maxHeartbeats 2000000 in
theorem catch_hit (m : Nat) (n : Int) (p : Addr) (old : Value) (w : World) (hA : EnvA w) (hp : w.cell? p = some old) (hf : w.frozen? p = false) :
    CallsDIn Fence.wide m Tryz.prog 12 #[.pointer (some p)] (.panicking (faultOf n)) w fun e u' w' => e = .returned (.tuple #[]) ∧ settle u' = .returning ∧ ∃ w1, Below w.heap.size w w1 ∧ w' = w1.setCell p (.int .i64 n) := by
  have hta : ∀ w, (Instr.typeAssert (.iface 39 (.int .i64 n)) 20 41 true).run Tryz.prog w = .ok (.tuple #[.iface 39 (.int .i64 n), .bool true]) w := fun _ => by kernel_rfl
  have hAs := as_told n p old w hA hp hf
  refine callsDIn_of_wpSIn Tryz.func12 rfl trivial fun c₀ cs hu => ?_
  apply wpSIn_seq
  apply wpSIn_region
  simp [wpOpsSIn, go_sem, Tryz.ntmps12, Exit.thenS, Array.replicate_succ]
  apply wpSIn_seq
  apply wpSIn_region
  simp [wpOpsSIn, go_sem, recoverD, hu, hta, Exit.thenS, faultOf]
  refine wpSIn_of_wpIn (F := Fence.wide) rfl ?_
  clear hta hA hp hf
  gi_wp2_with (refine ⟨trivial, (fun h => absurd h (by decide)), (callsIn_wide.2 hAs).mono ?_⟩; clear hAs; rintro e W1 ⟨rfl, hc1, hp1, hf1, hB⟩)
  exact ⟨rfl, _, rfl, .tuple #[], by simp [results, Tryz.results12, go_sem], rfl, by simp [settle], W1, hB, rfl⟩

/-- A block whose code panics. -/
theorem WpAt.block_panics {f : FuncId} {P : Program} {Q : Exit → Act → World → Prop} {a : Act} {w : World} {id : Nat} {c : Code} {ch : List PanicEntry} (h : WpAt f P c (fun e a' w' => e = .panic ch ∧ Q (.panic ch) a' w') a w) : WpAt f P (.block id c) Q a w := by
  intro b k cs hro hb
  obtain ⟨e, a₁, w₁, ⟨rfl, hq⟩, harr⟩ := h b (.inBlock id :: k) cs hro hb
  exact ⟨.panic ch, a₁, w₁, hq, .of_steps (.one (fenced_wide _ _) stepR_block) harr⟩

def PlacesFell (w : World) (n : Int) (e : Ending) (w' : World) : Prop := e = .returned (.tuple #[.slice none 0 0, .slice none 0 0, .int .i64 n]) ∧ Below w.heap.size w w'

/-- What stands where a round of Places' loop has panicked. -/
def FellI (w W : World) : Prop := Below w.heap.size w W ∧ Cells W w.heap.size 29 #[.int .i64 0] ∧ w.heap.size + 3 ≤ W.heap.size

/-- The frame in a round of Places' loop. -/
def placesActN (w : World) (b' o' c' len : Nat) (x : Spot) (Bt : Nat) : Act := { tmps := #[Value.slice (some ⟨b', o', none⟩) len c', undef, Value.slice none 0 0, Value.slice none 0 0, Value.pointer (some ⟨w.heap.size, 0, none⟩), Value.pointer (some ⟨w.heap.size + 1, 0, none⟩), Value.pointer (some ⟨Bt, 0, none⟩), Value.func (.func 12) #[] #[.pointer (some ⟨w.heap.size, 0, none⟩)], Value.slice (some ⟨b', o', none⟩) len c', Value.func (.func 21) #[] #[.pointer (some ⟨w.heap.size + 1 + 1, 0, none⟩)], Value.agg #[.string x.name, .int .i64 x.wd, .int .i64 x.at_, x.sv, .int .i64 x.deep, .int .i64 x.root, .int .i64 x.aAt, .int .i64 x.aW, x.av], undef, undef, undef, undef, undef, undef], defers := [] }

set_option maxRecDepth 100000 in
set_option maxHeartbeats 4000000 in
theorem places_panics (n : Int) (b' o' c' len : Nat) (G : RegL) (nm : ByteArray) (wd at_ : Int) (sv : Value) (subs more : RegL) (w : World) (hE : Env w) (hA : EnvA w) (hlen : len = G.length + (more.length + 1)) (hL : HoldsAt w.heap.size w b' o' (G.app (.cons nm wd at_ sv subs more))) (hsm : G.small) (hht : G.height ≤ 7) (hl3 : len ≤ 300) (hsv : ∃ a k c, sv = .slice a k c)
    (hfine : ∀ pre x, pre ++ [x] <+: spotsOut 0 G → Fine w pre x)
    (hbad : ∀ W, Below w.heap.size w W → Taken w.heap.size (w.heap.size + 1) ((spotsOut 0 G).map (·.name)) ((spotsOut 0 G).map Spot.place) W →
      Calls Tryz.prog 15 #[.pointer (some ⟨w.heap.size + 1, 0, none⟩), .agg #[.string nm, .int .i64 wd, .int .i64 at_, sv, .int .i64 1, .int .i64 G.length, .int .i64 0, .int .i64 wd, .slice none 0 0]] W fun e w' => e = .panicked (faultOf n) ∧ Below W.heap.size W w') :
    Calls Tryz.prog 7 #[.slice (some ⟨b', o', none⟩) len c'] w (PlacesFell w n) := by
  have hmf : ∀ (fn : Fn) (first cap : Array Value) (w : World), (Instr.makeFunc fn first cap).run Tryz.prog w = .ok (.func fn first cap) w := fun _ _ _ _ => rfl
  replace hlen := Lib.hid hlen
  refine (callsIn_wide (n := 4)).1 ?_
  refine calls_of_wpAt Tryz.func7 rfl ?_
  simp only [Tryz.ntmps7, List.size_toArray, List.length_cons, List.length_nil, Nat.reduceAdd, Nat.reduceSub, Array.replicate_succ, Array.replicate_zero, List.push_toArray, List.append_toArray, List.nil_append, List.cons_append]
  refine WpAt.seq (WpAt.of (n := 4) ?_)
  gi_wp2
  refine WpAt.seq (WpAt.of (n := 4) ?_)
  gi_wp2
  refine WpAt.seq (WpAt.of (n := 4) ?_)
  gi_wp2
  refine WpAt.seq (WpAt.seq (WpAt.of (n := 4) ?_))
  gi_wp2_with (refine ⟨trivial, ?_⟩; gi_at_call 14; refine (callsIn_wide.2 (all_any _ _ _ _)).mono ?_; rintro e w' ⟨rfl, rfl⟩)
  generalize hW : ((w.alloc (.cells #[.int .i64 0] 29)).alloc (.cells #[.slice none 0 0, .slice none 0 0] 46)).alloc (.cells #[.slice (some ⟨b', o', none⟩) len c'] 24) = We
  have hBe : Below w.heap.size w We := by rw [← hW]; exact (((Below.refl _ _).alloc (Nat.le_refl _) _).alloc (by simp) _).alloc (by simp; omega) _
  have hze : We.heap.size = w.heap.size + 3 := by rw [← hW]; simp
  have h4e : Cells We w.heap.size 29 #[.int .i64 0] := by rw [← hW]; exact ((Cells.new _ _ _).alloc _).alloc _
  have hTe : Cells We (w.heap.size + 1) 46 #[.slice none 0 0, .slice none 0 0] := by
    rw [← hW]
    have := Cells.new (w.alloc (.cells #[.int .i64 0] 29)) 46 #[.slice none 0 0, .slice none 0 0]
    rw [World.size_alloc] at this; exact this.alloc _
  have hle : We.cell? ⟨w.heap.size + 1 + 1, 0, none⟩ = some (.slice (some ⟨b', o', none⟩) len c') := by
    rw [← hW]
    have := new_cell ((w.alloc (.cells #[.int .i64 0] 29)).alloc (.cells #[.slice none 0 0, .slice none 0 0] 46)) #[.slice (some ⟨b', o', none⟩) len c'] 24 (j := 0) rfl
    simp only [World.size_alloc] at this; exact this
  clear hW
  have hTk : Taken w.heap.size (w.heap.size + 1) [] [] We := ⟨_, _, hTe, World.ownsRow_nil _ _ _ _, World.ownsRow_nil _ _ _ _⟩
  have hLe : HoldsAt w.heap.size We b' o' (G.app (.cons nm wd at_ sv subs more)) := HoldsAt.of (below_cells hBe) hL
  have hfree : Free [w.heap.size + 1] w.heap.size We := ⟨taken_ok hTk, by omega, fun b hb ho => by
    rcases ho with h1 | ⟨t', ht, o, a, n, c, hc, ha⟩
    · have : b = w.heap.size + 1 := by simpa using h1
      omega
    · obtain rfl : t' = w.heap.size + 1 := by simpa using ht
      unfold World.cell? at hc; rw [show We.heap[w.heap.size + 1]? = _ from hTe] at hc
      have hj : (#[.slice none 0 0, .slice none 0 0] : Array Value)[o]? = some (.slice (some a) n c) := hc
      match o, hj with
      | 0, hj => simp at hj
      | 1, hj => simp at hj
      | o + 2, hj => simp at hj⟩
  obtain ⟨x0, hx0⟩ : ∃ x0 : Spot, x0 = ⟨nm, wd, at_, sv, 1, G.length, 0, wd, .slice none 0 0⟩ := ⟨_, rfl⟩
  have hvals0 : (∃ a n c, x0.sv = .slice a n c) ∧ ∃ a n c, x0.av = .slice a n c := by subst hx0; exact ⟨hsv, _, _, _, rfl⟩
  refine WpAt.block_panics (ch := faultOf n) (range_panics (n := 4) (fv := Tryz.f7) Tryz.func7 (gf := 21) (lb := #[.pointer (some ⟨w.heap.size + 1 + 1, 0, none⟩)]) rfl (enters_of Tryz.func21 (by kernel_rfl) rfl)
    (x0 := x0) (by rw [hx0]; exact all1_panics 3 w.heap.size (w.heap.size + 1 + 1) b' o' c' len [w.heap.size + 1] G nm wd at_ sv subs more (faultOf n) We hlen.out hle hLe hsm hht hl3 hfree) (Below.refl _ _) (by simp; omega) (fun _ => rfl)
    (PlacesI w) (placesI_own w _ (by omega)) ⟨hTk, hBe, h4e, by omega⟩
    (fun x a' W => ∃ Bt, w.heap.size + 3 ≤ Bt ∧ Cells W Bt 51 #[.string x.name, .int .i64 x.wd, .int .i64 x.at_, x.sv, .int .i64 x.deep, .int .i64 x.root, .int .i64 x.aAt, .int .i64 x.aW, x.av] ∧ a' = placesActN w b' o' c' len x Bt)
    (fun _ a' => fun _ A B row hs hg hr => by
      obtain ⟨Bt, g1, g2, g3⟩ := hs
      exact ⟨Bt, g1, cells_own (β := Unit) Bt _ (fun _ => _) () A B row g2 hg (fun r e => (hr r e).2), g3⟩)
    (FellI w) ?assign ?body ?last ?done)
  case assign =>
    rintro l pre x W K hi hok hK
    obtain ⟨⟨va, sn, sc, hsv⟩, aa, an, ac, hav⟩ : (∃ a n c, x.sv = .slice a n c) ∧ ∃ a n c, x.av = .slice a n c := by
      rcases hok with hok | ⟨_, rfl⟩
      · exact (hfine pre x hok).vals
      · exact hvals0
    have hz := hi.2.2.2
    clear hok hvals0 hbad
    obtain ⟨xn, xw, xa, xs, xd, xr, xaa, xaw, xav⟩ := x
    dsimp only at hsv hav
    subst hsv hav
    unfold Spot.val
    dsimp only
    clear hfine
    gi_wp2
    refine hK _ _ ((KeepsOthers.alloc _ _).from _) (Keeps.of_below ((Below.refl _ W).alloc (Nat.le_refl _) _)) ((placesI_own w (w.heap.size + 3) (by omega)).alloc _ hi) ⟨W.heap.size, by omega, Cells.new W _ _, rfl⟩
  case body =>
    rintro l pre x a' W ⟨hTw, hB, h4, hz⟩ ⟨Bt, hBt, hbt, rfl⟩ hok
    have fine := hfine pre x hok
    obtain ⟨al, hal1, hal2, hal3⟩ := fine.ahead
    have C := add_ok w.heap.size (w.heap.size + 1) (pre.map (·.name)) (pre.map Spot.place) x.name x.wd x.at_ x.deep x.root x.aAt x.aW x.sv x.av al W (hE.below hB) fine.name fine.word fine.fresh (by simp) (by simpa using fine.few) hTw (by omega) fine.deep hal1 (hal2.below hB) fine.a0 fine.a1 fine.b0 fine.b1 fine.w0 fine.w1 fine.c1 fine.fits hal3
    have C' := C.mono (R' := fun e W' => e = .returned (.tuple #[]) ∧ goesOn We.heap.size [w.heap.size + 1] (PlacesI w) (pre ++ [x]) W .normal { tmps := #[], defers := [] } W') (fun e W' ⟨he, hA⟩ => ⟨he, hA.2.2.1.from _, hA.2.1, by
      have h1 := hA.1
      refine ⟨?_, hB.trans hA.2.2.2, hA.2.1.cells (taken_ok hTw) h4 (taken_not hTw h4 (by omega) (by decide) (by decide)), Nat.le_trans hz hA.2.2.2.size⟩
      rw [List.map_append, List.map_append]; exact h1⟩)
    clear C hal2 hal3 hfine hTw h4 hB hbad hx0 hvals0
    obtain ⟨xn, xw, xa, xs, xd, xr, xaa, xaw, xav⟩ := x
    dsimp only at hbt C'
    have c0 := hbt.cell (j := 0) (v := .string xn) rfl
    have c1 := hbt.cell (j := 1) (v := .int .i64 xw) rfl
    have c2 := hbt.cell (j := 2) (v := .int .i64 xa) rfl
    have c3 := hbt.cell (j := 3) (v := xs) rfl
    have c4 := hbt.cell (j := 4) (v := .int .i64 xd) rfl
    have c5 := hbt.cell (j := 5) (v := .int .i64 xr) rfl
    have c6 := hbt.cell (j := 6) (v := .int .i64 xaa) rfl
    have c7 := hbt.cell (j := 7) (v := .int .i64 xaw) rfl
    have c8 := hbt.cell (j := 8) (v := xav) rfl
    clear fine hbt
    unfold placesActN
    dsimp only
    gi_wp2_with (refine ⟨trivial, ?_⟩; gi_at_call 15; refine (CallsIn.inRound l (callsIn_wide.2 C')).mono ?_; clear C'; rintro e W1 ⟨rfl, hA⟩)
    exact hA
  case last =>
    rintro l a' W ⟨hTw, hB, h4, hz⟩ ⟨Bt, hBt, hbt, rfl⟩
    have C := hbad W hB hTw
    have C' := C.mono (R' := fun e W' => e = .panicked (faultOf n) ∧ KeepsFrom We.heap.size W W' ∧ FellI w W') (fun e W' ⟨he, hb⟩ => ⟨he, (keepsOthers_of_below hb).from _, hB.trans (hb.mono hB.size), h4.below hb h4.lt, Nat.le_trans hz hb.size⟩)
    clear C hfine hTw h4 hB hbad hvals0
    subst hx0
    dsimp only at hbt
    have c0 := hbt.cell (j := 0) (v := .string nm) rfl
    have c1 := hbt.cell (j := 1) (v := .int .i64 wd) rfl
    have c2 := hbt.cell (j := 2) (v := .int .i64 at_) rfl
    have c3 := hbt.cell (j := 3) (v := sv) rfl
    have c4 := hbt.cell (j := 4) (v := .int .i64 1) rfl
    have c5 := hbt.cell (j := 5) (v := .int .i64 G.length) rfl
    have c6 := hbt.cell (j := 6) (v := .int .i64 0) rfl
    have c7 := hbt.cell (j := 7) (v := .int .i64 wd) rfl
    have c8 := hbt.cell (j := 8) (v := .slice none 0 0) rfl
    clear hbt
    unfold placesActN
    dsimp only
    gi_wp2_with (refine ⟨trivial, ?_⟩; gi_at_call 15; refine (CallsIn.inRound l (callsIn_wide.2 C')).mono ?_; clear C'; rintro e W1 ⟨rfl, hA⟩)
    rw [← hze]; exact hA.1
  case done =>
    rintro D W hD ⟨hB, h4, hz⟩ hK
    refine ⟨rfl, ?_⟩
    have hDV := lt_of_heap hK
    have h4U : Cells (W.putObj D (.deferred none)) w.heap.size 29 #[.int .i64 0] := (World.putObj_heap_other (by omega)).trans h4
    have hBU := hB.trans (belowK_b (w := w) (Nat.le_refl _) W D _ (.deferred none) (by omega) hK rfl rfl)
    show LeavesInM _ _ _ _ _ _ _ _ _
    refine ⟨by simp, .inl ⟨_, _, rfl, run_takeDeferred hK, ?_⟩⟩
    generalize W.putObj D (.deferred none) = U at h4U hBU ⊢
    refine ⟨by simp, .inr ⟨fun _ => by omega, .func 12, #[.pointer (some ⟨w.heap.size, 0, none⟩)], 12, #[.pointer (some ⟨w.heap.size, 0, none⟩)], rfl, ?_, fun _ _ => trivial, ?_⟩⟩
    · simp [invoke, go_sem]
    refine (catch_hit _ n ⟨w.heap.size, 0, none⟩ (.int .i64 0) U (hA.below hBU) (h4U.cell rfl) (h4U.frozen 0)).mono ?_
    rintro e u' w'' ⟨rfl, hu, w1, hb1, rfl⟩
    have h4F : ((w1.setCell ⟨w.heap.size, 0, none⟩ (.int .i64 n))).cell? ⟨w.heap.size, 0, none⟩ = some (.int .i64 n) := ((h4U.below hb1 h4U.lt).set (j := 0) (.int .i64 n)).cell rfl
    have hP : PlacesFell w n (.returned (.tuple #[.slice none 0 0, .slice none 0 0, .int .i64 n])) (w1.setCell ⟨w.heap.size, 0, none⟩ (.int .i64 n)) :=
      ⟨rfl, (hBU.trans (hb1.mono hBU.size)).setCell (p := ⟨w.heap.size, 0, none⟩) (Nat.le_refl _) _⟩
    have hH := Lib.hid hP
    clear hP h4U
    simp [LeavesInM, LeavesIn, hu, results, Tryz.results7, go_sem, h4F]
    exact hH.out
end Go.Proofs.YtgnnipnnnebpiaaGreatDoor
