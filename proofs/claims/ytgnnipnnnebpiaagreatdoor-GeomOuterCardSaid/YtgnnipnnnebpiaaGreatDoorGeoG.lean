/-
  geom's Places where nothing is wrong: the deferred closure finds nothing to recover.
-/
import Derived.Test.YtgnnipnnnebpiaaGreatDoorGeoD
import Derived.Test.YtgnnipnnnebpiaaGreatDoorGeoF
import Derived.Recover
import Derived.RecoverIn
import Derived.DefersIn
import Derived.RegionIn
import Derived.RegionTactic
namespace Go.Proofs.YtgnnipnnnebpiaaGreatDoor
open Go.RowKit Go.Shelf

attribute [local go_sem] Oper.semAt_some

set_option maxRecDepth 100000 in
set_option maxHeartbeats 1000000 in
theorem catch_idle (m : Nat) (p : Addr) (w : World) :
    CallsDIn Fence.wide m Tryz.prog 12 #[.pointer (some p)] .returning w fun e u' w' => e = .returned (.tuple #[]) ∧ u' = .returning ∧ w' = w.alloc (.cells #[.int .i64 0] 39) := by
  have hta : ∀ w, (Instr.typeAssert Value.nilIface 20 41 true).run Tryz.prog w = .ok (.tuple #[.nilIface, .bool false]) w := fun _ => by kernel_rfl
  refine callsDIn_of_wpSIn Tryz.func12 rfl trivial fun c₀ cs hu => ?_
  apply wpSIn_seq
  apply wpSIn_region
  simp [wpOpsSIn, go_sem, Tryz.ntmps12, Exit.thenS, Array.replicate_succ]
  apply wpSIn_seq
  apply wpSIn_region
  simp [wpOpsSIn, go_sem, recoverD, hu, hta, Exit.thenS]
  refine wpSIn_of_wpIn (F := Fence.wide) rfl ?_
  gi_wp2
  refine ⟨trivial, ?_⟩
  gi_wp2
  cases c₀
  simp_all [bodyPostS, results, Tryz.results12]

/-- A slice's value that lies in a spot. -/
def Spot.place (x : Spot) : Int × Int × Int := (x.root, x.aAt + x.at_, x.wd)

/-- Each register can be there: what 'add' asks of it and of those ahead of it. -/
structure Fine (w : World) (pre : List Spot) (x : Spot) : Prop where
  name : IsName x.name
  word : NotWord x.name
  fresh : x.name ∉ pre.map (·.name)
  few : pre.length < 200
  deep : x.deep ≤ 6
  a0 : 0 ≤ x.aAt
  a1 : x.aAt ≤ 500
  b0 : 0 ≤ x.at_
  b1 : x.at_ ≤ 500
  w0 : 1 ≤ x.wd
  w1 : x.wd ≤ 64
  c1 : x.aW ≤ 1000
  fits : x.at_ + x.wd ≤ x.aW
  vals : (∃ a n c, x.sv = .slice a n c) ∧ ∃ a n c, x.av = .slice a n c
  ahead : ∃ l, l.length ≤ 200 ∧ AheadIs w x.av l ∧ ∀ r, r ∈ l → r.small ∧ lapB (x.aAt + r.at_) r.wd (x.aAt + x.at_) x.wd = false

theorem taken_owned {base T : Nat} {ns : List ByteArray} {ps : List (Int × Int × Int)} {W : World} (h : Taken base T ns ps W) {b : Nat} (hb : Owned [T] W b) : b = T ∨ (∃ cur, Cells W b 9 cur) ∨ ∃ cur, Cells W b 34 cur := by
  obtain ⟨nV, pV, hT, hn, hp⟩ := h
  rcases hb with h1 | ⟨t', ht, o, a, n, c, hc, ha⟩
  · exact .inl (by simpa using h1)
  · obtain rfl : t' = T := by simpa using ht
    unfold World.cell? at hc; rw [show W.heap[t']? = _ from hT] at hc
    have hj : (#[nV, pV] : Array Value)[o]? = some (.slice (some a) n c) := hc
    match o, hj with
    | 0, hj =>
      have hv : nV = .slice (some a) n c := by simpa using hj
      obtain ⟨_, cur, hcur⟩ := ownsRow_block hn (g := b) (by rw [hv, ← ha]; rfl)
      exact .inr (.inl ⟨cur, hcur⟩)
    | 1, hj =>
      have hv : pV = .slice (some a) n c := by simpa using hj
      obtain ⟨_, cur, hcur⟩ := ownsRow_block hp (g := b) (by rw [hv, ← ha]; rfl)
      exact .inr (.inr ⟨cur, hcur⟩)
    | o + 2, hj => simp at hj
theorem taken_ok {base T : Nat} {ns : List ByteArray} {ps : List (Int × Int × Int)} {W : World} (h : Taken base T ns ps W) : OwnedOk [T] W := fun b hb => by
  rcases taken_owned h hb with rfl | ⟨cur, hc⟩ | ⟨cur, hc⟩
  · obtain ⟨_, _, hT, _, _⟩ := h; exact hT.lt
  · exact hc.lt
  · exact hc.lt
theorem taken_not {base T : Nat} {ns : List ByteArray} {ps : List (Int × Int × Int)} {W : World} (h : Taken base T ns ps W) {b : Nat} {t : TypeId} {cs : Array Value} (hc : Cells W b t cs) (hne : b ≠ T) (h1 : t ≠ 9) (h2 : t ≠ 34) : ¬ Owned [T] W b := fun hb => by
  rcases taken_owned h hb with e | ⟨cur, hc2⟩ | ⟨cur, hc2⟩
  · exact hne e
  · have h3 := (show W.heap[b]? = _ from hc).symm.trans (show W.heap[b]? = _ from hc2)
    cases h3; exact h1 rfl
  · have h3 := (show W.heap[b]? = _ from hc).symm.trans (show W.heap[b]? = _ from hc2)
    cases h3; exact h2 rfl
theorem ownsRow_own {A B : World} {base : Nat} {e : TypeId} {size : Nat} {v : Value} {k : Nat} {xs : List Value} {row : Option Nat} (h : A.ownsRow base e size v k xs) (hg : A.grownBy B row) (hr : ∀ r, row = some r → ∃ o : Obj, A.heap[r]? = some o ∧ o.isCells = false) : B.ownsRow base e size v k xs := by
  refine h.kept hg ?_
  cases hv : v.ownBlock with
  | none => exact .inl rfl
  | some g =>
    refine .inr (fun e1 => ?_)
    obtain ⟨_, cur, hc⟩ := ownsRow_block h hv
    obtain ⟨o, ho, hoc⟩ := hr g e1.symm
    rw [show A.heap[g]? = _ from hc] at ho; cases ho; cases hoc
theorem taken_own {β : Type} (base T : Nat) (f : β → List ByteArray) (g : β → List (Int × Int × Int)) : Own (fun s W => Taken base T (f s) (g s) W) := fun _ A B row ⟨nV, pV, hT, hn, hp⟩ hg hr =>
  ⟨nV, pV, cells_own (β := Unit) T _ (fun _ => #[nV, pV]) () A B row hT hg hr, ownsRow_own hn hg hr, ownsRow_own hp hg hr⟩

/-- Between two rounds of Places' loop. -/
def PlacesI (w : World) (pre : List Spot) (W : World) : Prop :=
  Taken w.heap.size (w.heap.size + 1) (pre.map (·.name)) (pre.map Spot.place) W ∧ Below w.heap.size w W ∧ Cells W w.heap.size 29 #[.int .i64 0] ∧ w.heap.size + 3 ≤ W.heap.size
theorem placesI_own (w : World) (B : Nat) (hB : w.heap.size ≤ B) : OwnFrom B (PlacesI w) :=
  OwnFrom.and (Own.from (taken_own _ _ (fun pre : List Spot => pre.map (·.name)) (fun pre => pre.map Spot.place)) _)
    (OwnFrom.and (ownFrom_below (Nat.le_refl _) hB) (OwnFrom.and (Own.from (cells_own _ _ fun _ => _) _) (fun _ _ _ _ hs hg _ => Nat.le_trans hs hg.size)))

/-- The frame in a round of Places' loop. -/
def placesAct (w : World) (sa : Option Addr) (c' : Nat) (L : RegL) (x : Spot) (Bt : Nat) : Act := { tmps := #[Value.slice sa L.length c', undef, Value.slice none 0 0, Value.slice none 0 0, Value.pointer (some ⟨w.heap.size, 0, none⟩), Value.pointer (some ⟨w.heap.size + 1, 0, none⟩), Value.pointer (some ⟨Bt, 0, none⟩), Value.func (.func 12) #[] #[.pointer (some ⟨w.heap.size, 0, none⟩)], Value.slice sa L.length c', Value.func (.func 21) #[] #[.pointer (some ⟨w.heap.size + 1 + 1, 0, none⟩)], Value.agg #[.string x.name, .int .i64 x.wd, .int .i64 x.at_, x.sv, .int .i64 x.deep, .int .i64 x.root, .int .i64 x.aAt, .int .i64 x.aW, x.av], undef, undef, undef, undef, undef, undef], defers := [] }

def PlacesPost (w : World) (E : List Spot) (e : Ending) (w' : World) : Prop :=
  ∃ nV pV, e = .returned (.tuple #[nV, pV, .int .i64 0]) ∧ w'.ownsRow w.heap.size 9 1 nV E.length (E.map fun x => .string x.name) ∧ w'.ownsRow w.heap.size 34 3 pV E.length (placeCells (E.map Spot.place)) ∧ Below w.heap.size w w'

set_option maxRecDepth 100000 in
set_option maxHeartbeats 4000000 in
theorem places_core (sa : Option Addr) (c' : Nat) (L : RegL) (w : World) (hE : Env w)
    (hTells : ∀ We, Below w.heap.size w We → We.cell? ⟨w.heap.size + 1 + 1, 0, none⟩ = some (.slice sa L.length c') → Free [w.heap.size + 1] w.heap.size We →
      Tells 3 Tryz.prog 21 #[.pointer (some ⟨w.heap.size + 1 + 1, 0, none⟩)] (fun x : Spot => #[x.val]) [w.heap.size + 1] (fun pre x => pre ++ [x] <+: spotsOut 0 L) (spotsOut 0 L) We)
    (hfine : ∀ pre x, pre ++ [x] <+: spotsOut 0 L → Fine w pre x) :
    Calls Tryz.prog 7 #[.slice sa L.length c'] w (PlacesPost w (spotsOut 0 L)) := by
  have hmf : ∀ (fn : Fn) (first cap : Array Value) (w : World), (Instr.makeFunc fn first cap).run Tryz.prog w = .ok (.func fn first cap) w := fun _ _ _ _ => rfl
  refine (callsIn_wide (n := 4)).1 ?_
  refine callsIn_of_wp_marks Tryz.func7 rfl trivial ?_ rfl
  simp only [Tryz.ntmps7, List.size_toArray, List.length_cons, List.length_nil, Nat.reduceAdd, Nat.reduceSub, Array.replicate_succ, Array.replicate_zero, List.push_toArray, List.append_toArray, List.nil_append, List.cons_append]
  gi_wp2_with (refine ⟨trivial, ?_⟩; gi_at_call 14; refine (callsIn_wide.2 (all_any _ _ _ _)).mono ?_; rintro e w' ⟨rfl, rfl⟩)
  generalize hW : ((w.alloc (.cells #[.int .i64 0] 29)).alloc (.cells #[.slice none 0 0, .slice none 0 0] 46)).alloc (.cells #[.slice sa L.length c'] 24) = We
  have hBe : Below w.heap.size w We := by rw [← hW]; exact (((Below.refl _ _).alloc (Nat.le_refl _) _).alloc (by simp) _).alloc (by simp; omega) _
  have hze : We.heap.size = w.heap.size + 3 := by rw [← hW]; simp
  have h4e : Cells We w.heap.size 29 #[.int .i64 0] := by rw [← hW]; exact ((Cells.new _ _ _).alloc _).alloc _
  have hTe : Cells We (w.heap.size + 1) 46 #[.slice none 0 0, .slice none 0 0] := by
    rw [← hW]
    have := Cells.new (w.alloc (.cells #[.int .i64 0] 29)) 46 #[.slice none 0 0, .slice none 0 0]
    rw [World.size_alloc] at this; exact this.alloc _
  have hle : We.cell? ⟨w.heap.size + 1 + 1, 0, none⟩ = some (.slice sa L.length c') := by
    rw [← hW]
    have := new_cell ((w.alloc (.cells #[.int .i64 0] 29)).alloc (.cells #[.slice none 0 0, .slice none 0 0] 46)) #[.slice sa L.length c'] 24 (j := 0) rfl
    simp only [World.size_alloc] at this; exact this
  clear hW
  have hTk : Taken w.heap.size (w.heap.size + 1) [] [] We := ⟨_, _, hTe, World.ownsRow_nil _ _ _ _, World.ownsRow_nil _ _ _ _⟩
  have hfree : Free [w.heap.size + 1] w.heap.size We := ⟨taken_ok hTk, by omega, fun b hb ho => by
    rcases ho with h1 | ⟨t', ht, o, a, n, c, hc, ha⟩
    · have : b = w.heap.size + 1 := by simpa using h1
      omega
    · obtain rfl : t' = w.heap.size + 1 := by simpa using ht
      unfold World.cell? at hc; rw [show We.heap[w.heap.size + 1]? = _ from hTe] at hc
      have hj : (#[.slice none 0 0, .slice none 0 0] : Array Value)[o]? = some (.slice (some a) n c) := hc
      match o, hj with
      | 0, hj => simp at hj
      | 1, hj => simp at hj
      | o + 2, hj => simp at hj⟩
  refine range_on (by omega) (gf := 21) (lb := #[.pointer (some ⟨w.heap.size + 1 + 1, 0, none⟩)]) rfl (enters_of Tryz.func21 (by kernel_rfl) rfl)
    (hTells We hBe hle hfree) (Below.refl _ _) (by simp; omega) (fun _ => rfl)
    (PlacesI w) (placesI_own w _ (by omega)) ⟨hTk, hBe, h4e, by omega⟩
    (fun x a' W => ∃ Bt, w.heap.size + 3 ≤ Bt ∧ Cells W Bt 51 #[.string x.name, .int .i64 x.wd, .int .i64 x.at_, x.sv, .int .i64 x.deep, .int .i64 x.root, .int .i64 x.aAt, .int .i64 x.aW, x.av] ∧ a' = placesAct w sa c' L x Bt)
    (fun _ a' => fun _ A B row hs hg hr => by
      obtain ⟨Bt, g1, g2, g3⟩ := hs
      exact ⟨Bt, g1, cells_own (β := Unit) Bt _ (fun _ => _) () A B row g2 hg (fun r e => (hr r e).2), g3⟩)
    ?assign ?body ?done
  case assign =>
    rintro l pre x W K hi hok hK
    obtain ⟨⟨va, sn, sc, hsv⟩, aa, an, ac, hav⟩ := (hfine pre x hok).vals
    have hz := hi.2.2.2
    obtain ⟨xn, xw, xa, xs, xd, xr, xaa, xaw, xav⟩ := x
    dsimp only at hsv hav
    subst hsv hav
    unfold Spot.val
    dsimp only
    clear hfine
    gi_wp2
    refine hK _ _ ((KeepsOthers.alloc _ _).from _) (Keeps.of_below ((Below.refl _ W).alloc (Nat.le_refl _) _)) ((placesI_own w (w.heap.size + 3) (by omega)).alloc _ hi) ⟨W.heap.size, by omega, Cells.new W _ _, rfl⟩
  case body =>
    rintro l pre x a' W ⟨hTw, hB, h4, hz⟩ ⟨Bt, hBt, hbt, rfl⟩ hok
    have fine := hfine pre x hok
    obtain ⟨al, hal1, hal2, hal3⟩ := fine.ahead
    have C := add_ok w.heap.size (w.heap.size + 1) (pre.map (·.name)) (pre.map Spot.place) x.name x.wd x.at_ x.deep x.root x.aAt x.aW x.sv x.av al W (hE.below hB) fine.name fine.word fine.fresh (by simp) (by simpa using fine.few) hTw (by omega) fine.deep hal1 (hal2.below hB) fine.a0 fine.a1 fine.b0 fine.b1 fine.w0 fine.w1 fine.c1 fine.fits hal3
    have C' := C.mono (R' := fun e W' => e = .returned (.tuple #[]) ∧ goesOn We.heap.size [w.heap.size + 1] (PlacesI w) (pre ++ [x]) W .normal { tmps := #[], defers := [] } W') (fun e W' ⟨he, hA⟩ => ⟨he, hA.2.2.1.from _, hA.2.1, by
      have h1 := hA.1
      refine ⟨?_, hB.trans hA.2.2.2, hA.2.1.cells (taken_ok hTw) h4 (taken_not hTw h4 (by omega) (by decide) (by decide)), Nat.le_trans hz hA.2.2.2.size⟩
      rw [List.map_append, List.map_append]; exact h1⟩)
    clear C hal2 hal3 hfine hTw h4 hB
    obtain ⟨xn, xw, xa, xs, xd, xr, xaa, xaw, xav⟩ := x
    dsimp only at hbt C'
    have c0 := hbt.cell (j := 0) (v := .string xn) rfl
    have c1 := hbt.cell (j := 1) (v := .int .i64 xw) rfl
    have c2 := hbt.cell (j := 2) (v := .int .i64 xa) rfl
    have c3 := hbt.cell (j := 3) (v := xs) rfl
    have c4 := hbt.cell (j := 4) (v := .int .i64 xd) rfl
    have c5 := hbt.cell (j := 5) (v := .int .i64 xr) rfl
    have c6 := hbt.cell (j := 6) (v := .int .i64 xaa) rfl
    have c7 := hbt.cell (j := 7) (v := .int .i64 xaw) rfl
    have c8 := hbt.cell (j := 8) (v := xav) rfl
    clear fine hbt
    unfold placesAct
    dsimp only
    gi_wp2_with (refine ⟨trivial, ?_⟩; gi_at_call 15; refine (CallsIn.inRound l (callsIn_wide.2 C')).mono ?_; clear C'; rintro e W1 ⟨rfl, hA⟩)
    exact hA
  case done =>
    rintro D W hD ⟨⟨nV, pV, hT, hn, hp⟩, hB, h4, hz⟩ hK
    obtain ⟨na, ncap, rfl⟩ := ownsRow_form hn
    obtain ⟨pa, pcap, rfl⟩ := ownsRow_form hp
    simp only [List.length_map] at hT hn hp
    have c0 := hT.cell (j := 0) (v := .slice na (spotsOut 0 L).length ncap) rfl
    have c1 := hT.cell (j := 1) (v := .slice pa (spotsOut 0 L).length pcap) rfl
    have e0 := h4.cell (j := 0) (v := .int .i64 0) rfl
    have ef := h4.frozen 0
    clear hfine
    gi_wp2
    refine wpIn_wide.2 ?_
    go_region
    all_goals gi_wp2
    have hVn : ∀ e size v k xs, W.ownsRow w.heap.size e size v k xs → e ≠ 29 → ((W.setCell ⟨w.heap.size, 0, none⟩ (.int .i64 0)).drew).ownsRow w.heap.size e size v k xs := fun e size v k xs h he =>
      (h.kept (grownBy_set W w.heap.size 0 (.int .i64 0)) (.inr (fun e1 => (h4.not_row (Ne.symm he) h) e1.symm))).drew
    have hn' := hVn _ _ _ _ _ hn (by decide)
    have hp' := hVn _ _ _ _ _ hp (by decide)
    have hBV : Below w.heap.size w ((W.setCell ⟨w.heap.size, 0, none⟩ (.int .i64 0)).drew) := (hB.setCell (p := ⟨w.heap.size, 0, none⟩) (Nat.le_refl _) _).drew
    have hKV : ((W.setCell ⟨w.heap.size, 0, none⟩ (.int .i64 0)).drew).heap[D]? = some (.deferred (some [])) := (Below.heap_setCell W ⟨w.heap.size, 0, none⟩ (.int .i64 0) D (by simp; omega)).trans hK
    have h4V : Cells ((W.setCell ⟨w.heap.size, 0, none⟩ (.int .i64 0)).drew) w.heap.size 29 #[.int .i64 0] := h4.set (.int .i64 0) (j := 0)
    clear hVn hn hp hB hK h4 hT c0 c1 e0 ef
    generalize (W.setCell ⟨w.heap.size, 0, none⟩ (.int .i64 0)).drew = V at hn' hp' hBV hKV h4V ⊢
    have hDV := lt_of_heap hKV
    have hnU := ownsRow_putObj hn' (.deferred none) hKV rfl
    have hpU := ownsRow_putObj hp' (.deferred none) hKV rfl
    have h4U : Cells (V.putObj D (.deferred none)) w.heap.size 29 #[.int .i64 0] := (World.putObj_heap_other (by omega)).trans h4V
    have hBU := hBV.trans (belowK_b (w := w) (Nat.le_refl _) V D _ (.deferred none) (by omega) hKV rfl rfl)
    refine ⟨by simp, .inl ⟨_, _, rfl, run_takeDeferred hKV, ?_⟩⟩
    generalize V.putObj D (.deferred none) = U at hnU hpU h4U hBU ⊢
    refine ⟨by simp, .inr ⟨fun _ => by omega, .func 12, #[.pointer (some ⟨w.heap.size, 0, none⟩)], 12, #[.pointer (some ⟨w.heap.size, 0, none⟩)], rfl, ?_, fun _ _ => trivial, ?_⟩⟩
    · simp [invoke, go_sem]
    refine (catch_idle _ _ _).mono ?_
    rintro e u' w'' ⟨rfl, rfl, rfl⟩
    have h4F := (h4U.alloc (.cells #[.int .i64 0] 39)).cell (j := 0) (v := .int .i64 0) rfl
    have hP : PlacesPost w (spotsOut 0 L) (.returned (.tuple #[.slice na (spotsOut 0 L).length ncap, .slice pa (spotsOut 0 L).length pcap, .int .i64 0])) (U.alloc (.cells #[.int .i64 0] 39)) :=
      ⟨_, _, rfl, by have := hnU.alloc (.cells #[.int .i64 0] 39); rw [List.map_map] at this; exact this, hpU.alloc _, hBU.alloc hBU.size _⟩
    have hH := Lib.hid hP
    clear hP hnU hpU h4U
    simp [LeavesInM, LeavesIn, settle, results, Tryz.results7, go_sem, h4F]
    exact hH.out

theorem places_ok (b' o' c' : Nat) (L : RegL) (w : World) (hE : Env w) (hL : HoldsAt w.heap.size w b' o' L) (hsm : L.small) (hht : L.height ≤ 7) (hlen : L.length ≤ 300) (hfine : ∀ pre x, pre ++ [x] <+: spotsOut 0 L → Fine w pre x) :
    Calls Tryz.prog 7 #[.slice (some ⟨b', o', none⟩) L.length c'] w (PlacesPost w (spotsOut 0 L)) :=
  places_core _ c' L w hE (fun We hBe hle hfree => all1_tells 3 w.heap.size (w.heap.size + 1 + 1) b' o' c' [w.heap.size + 1] L We hle (HoldsAt.of (below_cells hBe) hL) hsm hht hlen hfree) hfine

set_option maxRecDepth 100000 in
set_option maxHeartbeats 400000 in
/-- The iterator over no registers tells nothing. -/
theorem all1_none (m Bl : Nat) (Ts : List Nat) (w : World) (hBl : w.cell? ⟨Bl, 0, none⟩ = some (.slice none 0 0)) :
    Tells m Tryz.prog 21 #[.pointer (some ⟨Bl, 0, none⟩)] (fun x : Spot => #[x.val]) Ts (fun pre x => pre ++ [x] <+: spotsOut 0 .nil) (spotsOut 0 .nil) w := by
  intro l J W hW hst hY h0
  have hcl := (hW.cell (p := ⟨Bl, 0, none⟩) (World.block_lt_of_cell? _ _ hBl)).trans hBl
  clear hY hst hW hBl
  have h0' := Lib.hid h0
  clear h0
  refine callsIn_of_wp Tryz.func21 rfl trivial ?_ rfl
  simp only [Tryz.ntmps21, List.size_toArray, List.length_cons, List.length_nil, Nat.reduceAdd, Nat.reduceSub, Array.replicate_succ, Array.replicate_zero, List.push_toArray, List.append_toArray, List.nil_append, List.cons_append]
  gi_wp2
  refine wpIn_wide.2 ?_
  refine wp_loop_rounds 1 ?_
  rw [rounds_succ]
  go_wp2_with fail
  gi_wp2_with fail
  go_end0
  exact ⟨⟨_, rfl⟩, h0'.out⟩

theorem places_none (w : World) (hE : Env w) : Calls Tryz.prog 7 #[.slice none 0 0] w (PlacesPost w []) :=
  places_core none 0 .nil w hE (fun We _ hle _ => all1_none 3 _ _ We hle) (fun pre x h => by have := h.length_le; simp [spotsOut] at this)
end Go.Proofs.YtgnnipnnnebpiaaGreatDoor
