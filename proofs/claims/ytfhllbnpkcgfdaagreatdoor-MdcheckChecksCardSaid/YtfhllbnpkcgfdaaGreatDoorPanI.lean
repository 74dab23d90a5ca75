/-
  geom's Places of registers within registers, one of which can't be: what it answers.
-/
import Derived.Test.YtfhllbnpkcgfdaaGreatDoorPanH
namespace Go.Proofs.YtfhllbnpkcgfdaaGreatDoor
open Go.RowKit Go.Shelf
attribute [local go_sem] Oper.semAt_some
/-- What holds at the head of the loop over the outer registers: k of them have been gone over; of those behind one can't be. -/
structure OutInvF (Ts : List Nat) (n₀ : Nat) (J : List Spot → World → Prop) (E : List Spot) (x0 : Spot) (b' o' n : Nat) (k : Nat) (rest : RegL) (D A B : List Spot) (wr : World) : Prop where
  len : k + rest.length = n
  holds : HoldsAt n₀ wr b' (o' + k * 4) rest
  cut : spotsOut k rest = A ++ x0 :: B
  said : D ++ A = E
  j : J D wr
  free : Free Ts n₀ wr
def OutRelF (Ts : List Nat) (n₀ : Nat) (J : List Spot → World → Prop) (E : List Spot) (x0 : Spot) (b' o' n : Nat) (k : Nat) (wr : World) : Prop := ∃ rest D A B, OutInvF Ts n₀ J E x0 b' o' n k rest D A B wr
set_option maxRecDepth 100000 in
set_option maxHeartbeats 4000000 in
theorem all1_falls (m n₀ Bl b' o' c' : Nat) (Ts : List Nat) (L : RegL) (E B0 : List Spot) (x0 : Spot) (chain : List PanicEntry) (w : World) (hcalm : ∀ x, x ∈ E → Calm x) (hcut : spotsOut 0 L = E ++ x0 :: B0)
    (hBl : w.cell? ⟨Bl, 0, none⟩ = some (.slice (some ⟨b', o', none⟩) L.length c')) (hL : HoldsAt n₀ w b' o' L) (hl3 : L.length ≤ 4611686018427387904) (hfr : Free Ts n₀ w) :
    TellsP m Tryz.prog 114 #[.pointer (some ⟨Bl, 0, none⟩)] (fun x : Spot => #[x.val]) Ts (fun pre x => pre ++ [x] <+: E) E x0 chain w := by
  intro l J R W hW hst hY hX h0
  have hcl := (hW.cell (p := ⟨Bl, 0, none⟩) (World.block_lt_of_cell? _ _ hBl)).trans hBl
  have hfrW := hfr.below hW
  have hLW := HoldsAt.of (n₀ := n₀) (below_cells hW) hL
  have hgood := Lib.hid (down_good Ts n₀ l J E hcalm hst (fun pre x A hj hp => yieldAt_any (hY pre x A hj hp)))
  have hfall := Lib.hid (down_falls Ts n₀ l J E x0 chain R hcalm hst (fun pre x A hj hp => yieldAt_any (hY pre x A hj hp)) (fun A hA => yieldAt_any (hX A hA)))
  have hst2 := Lib.hid hst
  clear hY hX hst hW hBl hfr hL
  obtain ⟨len, hlen⟩ : ∃ len, L.length = len := ⟨_, rfl⟩
  rw [hlen] at hcl hl3
  refine callsIn_of_wp Tryz.func114 rfl trivial ?_ rfl
  simp only [Tryz.ntmps114, List.size_toArray, List.length_cons, List.length_nil, Nat.reduceAdd, Nat.reduceSub, Array.replicate_succ, Array.replicate_zero, List.push_toArray, List.append_toArray, List.nil_append, List.cons_append]
  gi_wp2
  refine wpIn_wide.2 ?_
  go_loopw [8] (fun i wr => ∃ k : Nat, i = .int .i64 k ∧ OutRelF Ts n₀ J E x0 b' o' len k wr) (fun i _ => len - (intOf i).toNat)
  case atStart => exact ⟨0, rfl, L, [], E, B0, ⟨by simpa using hlen, by simpa using hLW, hcut, by simp, h0, hfrW⟩⟩
  case round =>
    obtain ⟨k, rfl, rest, D, A, B1, inv⟩ := hrel
    clear hLW hfrW h0 hcl hcut
    cases rest with
    | nil =>
      have hc := inv.cut
      exact absurd hc (by simp [spotsOut])
    | cons nm2 wd2 at2 sv2 subs2 rest2 =>
      have hl2 := inv.len
      simp only [RegL.length] at hl2
      have hkl : k < len := by omega
      obtain ⟨hbn, ⟨e0, e1, e2, e3⟩, hrest2, hsl2⟩ := inv.holds
      obtain ⟨qa, qn, qc, rfl⟩ : ∃ a n c, sv2 = .slice a n c := by
        rcases hsl2 with ⟨⟨_, h⟩, _⟩ | ⟨b2, o2, c2, h, _⟩
        · exact ⟨_, _, _, h⟩
        · exact ⟨_, _, _, h⟩
      have hc := inv.cut
      have hsaid := inv.said
      simp only [spotsOut] at hc
      have k0 : (0 : Int) ≤ (k : Int) := Int.natCast_nonneg _
      have k2 : (k : Int) < (len : Int) := by omega
      rcases split_at hc with ⟨A3, hA3, hY3⟩ | ⟨B3, hB3⟩
      · have C : ∀ V, Below wr.heap.size wr V → Calls Tryz.prog 115 #[.agg #[.string nm2, .int .i64 wd2, .int .i64 at2, .slice qa qn qc, .int .i64 1, .int .i64 k, .int .i64 0, .int .i64 wd2, .slice none 0 0], .func (.yield l) #[] #[]] V fun e B =>
            e = .returned (.bool true) ∧ OutRelF Ts n₀ J E x0 b' o' len (k + 1) B := fun V hV => by
          have hfrV := inv.free.below hV
          refine (hgood.out (subs2.total + 1) nm2 wd2 at2 (.slice qa qn qc) 1 k 0 wd2 (.slice none 0 0) subs2 D V (Nat.lt_succ_self _) (SliceIs.of (below_cells hV) hsl2) hfrV (hst2.out _ _ _ inv.j hV) ⟨A3, ?_⟩).mono fun e B ⟨he, hjB, hkB⟩ => ?_
          · rw [← hsaid, hA3]; simp
          · have hkV := (Keeps.of_below (Ts := Ts) hV).trans hkB
            refine ⟨he, rest2, D ++ (⟨nm2, wd2, at2, .slice qa qn qc, 1, k, 0, wd2, .slice none 0 0⟩ :: spotsIn (1 + 1) k (0 + at2) wd2 (.slice qa qn qc) 0 subs2), A3, B1, ⟨by omega, ?_, hY3, by rw [← hsaid, hA3]; simp, hjB, inv.free.keeps hkV⟩⟩
            have := HoldsAt.of (n₀ := n₀) (inv.free.cells hkV) hrest2
            rw [show o' + (k + 1) * 4 = o' + k * 4 + 4 by omega]; exact this
        clear inv hrest2 hsl2 hc hA3 hY3
        have hsaid := Lib.hid hsaid
        have hl2 := Lib.hid hl2
        go_wp2_with (go_at_call 115; refine (C _ (((Below.refl _ _).alloc (Nat.le_refl _) _).alloc (by simp) _)).mono ?_; clear C; rintro e B ⟨rfl, hD⟩)
        gi_wp2_with fail
        exact ⟨⟨k + 1, by go_num, hD⟩, by simp [intOf]; omega⟩
      · have C : ∀ V, Below wr.heap.size wr V → Calls Tryz.prog 115 #[.agg #[.string nm2, .int .i64 wd2, .int .i64 at2, .slice qa qn qc, .int .i64 1, .int .i64 k, .int .i64 0, .int .i64 wd2, .slice none 0 0], .func (.yield l) #[] #[]] V fun e B =>
            e = .panicked chain ∧ R B := fun V hV =>
          hfall.out (subs2.total + 1) nm2 wd2 at2 (.slice qa qn qc) 1 k 0 wd2 (.slice none 0 0) subs2 D V (Nat.lt_succ_self _) (SliceIs.of (below_cells hV) hsl2) (inv.free.below hV) (hst2.out _ _ _ inv.j hV) ⟨A, B3, hB3, hsaid⟩
        clear inv hrest2 hsl2 hc hB3 hsaid
        have hl2 := Lib.hid hl2
        go_wp2_with (go_at_call 115; refine (C _ (((Below.refl _ _).alloc (Nat.le_refl _) _).alloc (by simp) _)).mono ?_; clear C; rintro e B ⟨rfl, hR⟩)
        exact ⟨rfl, rfl, hR⟩
set_option maxRecDepth 100000 in
set_option maxHeartbeats 4000000 in
theorem places_falls (n : Int) (b' o' c' len : Nat) (L : RegL) (E B0 : List Spot) (x0 : Spot) (w : World) (hE : Env w) (hA : EnvA w) (hlen : len = L.length) (hL : HoldsAt w.heap.size w b' o' L) (hl3 : L.length ≤ 4611686018427387904)
    (hcut : spotsOut 0 L = E ++ x0 :: B0) (hcalm : ∀ x, x ∈ E → Calm x) (hvals0 : (∃ a n c, x0.sv = .slice a n c) ∧ ∃ a n c, x0.av = .slice a n c)
    (hfine : ∀ pre x, pre ++ [x] <+: E → Fine w pre x)
    (hbad : ∀ W, Below w.heap.size w W → Taken w.heap.size (w.heap.size + 1) (E.map (·.name)) (E.map Spot.place) W →
      Calls Tryz.prog 81 #[.pointer (some ⟨w.heap.size + 1, 0, none⟩), x0.val] W fun e w' => e = .panicked (faultOf n) ∧ Below W.heap.size W w') :
    Calls Tryz.prog 42 #[.slice (some ⟨b', o', none⟩) len c'] w (PlacesFell w n) := by
  have hmf : ∀ (fn : Fn) (first cap : Array Value) (w : World), (Instr.makeFunc fn first cap).run Tryz.prog w = .ok (.func fn first cap) w := fun _ _ _ _ => rfl
  replace hlen := Lib.hid hlen
  refine (callsIn_wide (n := 4)).1 ?_
  refine calls_of_wpAt Tryz.func42 rfl ?_
  simp only [Tryz.ntmps42, List.size_toArray, List.length_cons, List.length_nil, Nat.reduceAdd, Nat.reduceSub, Array.replicate_succ, Array.replicate_zero, List.push_toArray, List.append_toArray, List.nil_append, List.cons_append]
  refine WpAt.seq (WpAt.of (n := 4) ?_)
  gi_wp2
  refine WpAt.seq (WpAt.of (n := 4) ?_)
  gi_wp2
  refine WpAt.seq (WpAt.of (n := 4) ?_)
  gi_wp2
  refine WpAt.seq (WpAt.seq (WpAt.of (n := 4) ?_))
  gi_wp2_with (refine ⟨trivial, ?_⟩; gi_at_call 80; refine (callsIn_wide.2 (all_any _ _ _ _)).mono ?_; rintro e w' ⟨rfl, rfl⟩)
  generalize hW : ((w.alloc (.cells #[.int .i64 0] 30)).alloc (.cells #[.slice none 0 0, .slice none 0 0] 118)).alloc (.cells #[.slice (some ⟨b', o', none⟩) len c'] 22) = We
  have hBe : Below w.heap.size w We := by rw [← hW]; exact (((Below.refl _ _).alloc (Nat.le_refl _) _).alloc (by simp) _).alloc (by simp; omega) _
  have hze : We.heap.size = w.heap.size + 3 := by rw [← hW]; simp
  have h4e : Cells We w.heap.size 30 #[.int .i64 0] := by rw [← hW]; exact ((Cells.new _ _ _).alloc _).alloc _
  have hTe : Cells We (w.heap.size + 1) 118 #[.slice none 0 0, .slice none 0 0] := by
    rw [← hW]
    have := Cells.new (w.alloc (.cells #[.int .i64 0] 30)) 118 #[.slice none 0 0, .slice none 0 0]
    rw [World.size_alloc] at this; exact this.alloc _
  have hle : We.cell? ⟨w.heap.size + 1 + 1, 0, none⟩ = some (.slice (some ⟨b', o', none⟩) len c') := by
    rw [← hW]
    have := new_cell ((w.alloc (.cells #[.int .i64 0] 30)).alloc (.cells #[.slice none 0 0, .slice none 0 0] 118)) #[.slice (some ⟨b', o', none⟩) len c'] 22 (j := 0) rfl
    simp only [World.size_alloc] at this; exact this
  clear hW
  have hTk : Taken w.heap.size (w.heap.size + 1) [] [] We := ⟨_, _, hTe, World.ownsRow_nil _ _ _ _, World.ownsRow_nil _ _ _ _⟩
  have hLe : HoldsAt w.heap.size We b' o' L := HoldsAt.of (below_cells hBe) hL
  have hfree : Free [w.heap.size + 1] w.heap.size We := ⟨taken_ok hTk, by omega, fun b hb ho => by
    rcases ho with h1 | ⟨t', ht, o, a, n, c, hc, ha⟩
    · have : b = w.heap.size + 1 := by simpa using h1
      omega
    · obtain rfl : t' = w.heap.size + 1 := by simpa using ht
      unfold World.cell? at hc; rw [show We.heap[w.heap.size + 1]? = _ from hTe] at hc
      have hj : (#[.slice none 0 0, .slice none 0 0] : Array Value)[o]? = some (.slice (some a) n c) := hc
      match o, hj with
      | 0, hj => simp at hj
      | 1, hj => simp at hj
      | o + 2, hj => simp at hj⟩
  refine WpAt.block_panics (ch := faultOf n) (range_panics (n := 4) (fv := Tryz.f42) Tryz.func42 (gf := 114) (lb := #[.pointer (some ⟨w.heap.size + 1 + 1, 0, none⟩)]) rfl (enters_of Tryz.func114 (by kernel_rfl) rfl)
    (x0 := x0) (all1_falls 3 w.heap.size (w.heap.size + 1 + 1) b' o' c' [w.heap.size + 1] L E B0 x0 (faultOf n) We hcalm hcut (by rw [← hlen.out]; exact hle) hLe hl3 hfree) (Below.refl _ _) (by simp; omega) (fun _ => rfl)
    (PlacesI w) (placesI_own w _ (by omega)) ⟨hTk, hBe, h4e, by omega⟩
    (fun x a' W => ∃ Bt, w.heap.size + 3 ≤ Bt ∧ Cells W Bt 123 #[.string x.name, .int .i64 x.wd, .int .i64 x.at_, x.sv, .int .i64 x.deep, .int .i64 x.root, .int .i64 x.aAt, .int .i64 x.aW, x.av] ∧ a' = placesActN w b' o' c' len x Bt)
    (fun _ a' => fun _ A B row hs hg hr => by
      obtain ⟨Bt, g1, g2, g3⟩ := hs
      exact ⟨Bt, g1, cells_own (β := Unit) Bt _ (fun _ => _) () A B row g2 hg (fun r e => (hr r e).2), g3⟩)
    (FellI w) ?assign ?body ?last ?done)
  case assign =>
    rintro l pre x W K hi hok hK
    obtain ⟨⟨va, sn, sc, hsv⟩, aa, an, ac, hav⟩ : (∃ a n c, x.sv = .slice a n c) ∧ ∃ a n c, x.av = .slice a n c := by
      rcases hok with hok | ⟨_, rfl⟩
      · exact (hfine pre x hok).vals
      · exact hvals0
    have hz := hi.2.2.2
    clear hok hvals0 hbad
    obtain ⟨xn, xw, xa, xs, xd, xr, xaa, xaw, xav⟩ := x
    dsimp only at hsv hav
    subst hsv hav
    unfold Spot.val
    dsimp only
    clear hfine
    gi_wp2
    refine hK _ _ ((KeepsOthers.alloc _ _).from _) (Keeps.of_below ((Below.refl _ W).alloc (Nat.le_refl _) _)) ((placesI_own w (w.heap.size + 3) (by omega)).alloc _ hi) ⟨W.heap.size, by omega, Cells.new W _ _, rfl⟩
  case body =>
    rintro l pre x a' W ⟨hTw, hB, h4, hz⟩ ⟨Bt, hBt, hbt, rfl⟩ hok
    have fine := hfine pre x hok
    obtain ⟨al, hal1, hal2, hal3⟩ := fine.ahead
    have C := add_ok w.heap.size (w.heap.size + 1) (pre.map (·.name)) (pre.map Spot.place) x.name x.wd x.at_ x.deep x.root x.aAt x.aW x.sv x.av al W (hE.below hB) fine.name fine.word fine.fresh (by simp) (by simpa using fine.few) hTw (by omega) fine.deep hal1 (hal2.below hB) fine.a0 fine.a1 fine.b0 fine.b1 fine.w0 fine.w1 fine.c1 fine.fits hal3
    have C' := C.mono (R' := fun e W' => e = .returned (.tuple #[]) ∧ goesOn We.heap.size [w.heap.size + 1] (PlacesI w) (pre ++ [x]) W .normal { tmps := #[], defers := [] } W') (fun e W' ⟨he, hA⟩ => ⟨he, hA.2.2.1.from _, hA.2.1, by
      have h1 := hA.1
      refine ⟨?_, hB.trans hA.2.2.2, hA.2.1.cells (taken_ok hTw) h4 (taken_not hTw h4 (by omega) (by decide) (by decide)), Nat.le_trans hz hA.2.2.2.size⟩
      rw [List.map_append, List.map_append]; exact h1⟩)
    clear C hal2 hal3 hfine hTw h4 hB hbad hvals0
    obtain ⟨xn, xw, xa, xs, xd, xr, xaa, xaw, xav⟩ := x
    dsimp only at hbt C'
    have c0 := hbt.cell (j := 0) (v := .string xn) rfl
    have c1 := hbt.cell (j := 1) (v := .int .i64 xw) rfl
    have c2 := hbt.cell (j := 2) (v := .int .i64 xa) rfl
    have c3 := hbt.cell (j := 3) (v := xs) rfl
    have c4 := hbt.cell (j := 4) (v := .int .i64 xd) rfl
    have c5 := hbt.cell (j := 5) (v := .int .i64 xr) rfl
    have c6 := hbt.cell (j := 6) (v := .int .i64 xaa) rfl
    have c7 := hbt.cell (j := 7) (v := .int .i64 xaw) rfl
    have c8 := hbt.cell (j := 8) (v := xav) rfl
    clear fine hbt
    unfold placesActN
    dsimp only
    gi_wp2_with (refine ⟨trivial, ?_⟩; gi_at_call 81; refine (CallsIn.inRound l (callsIn_wide.2 C')).mono ?_; clear C'; rintro e W1 ⟨rfl, hA⟩)
    exact hA
  case last =>
    rintro l a' W ⟨hTw, hB, h4, hz⟩ ⟨Bt, hBt, hbt, rfl⟩
    have C := hbad W hB hTw
    have C' := C.mono (R' := fun e W' => e = .panicked (faultOf n) ∧ KeepsFrom We.heap.size W W' ∧ FellI w W') (fun e W' ⟨he, hb⟩ => ⟨he, (keepsOthers_of_below hb).from _, hB.trans (hb.mono hB.size), h4.below hb h4.lt, Nat.le_trans hz hb.size⟩)
    clear C hfine hTw h4 hB hbad
    obtain ⟨⟨va, sn, sc, hsv⟩, aa, an, ac, hav⟩ := hvals0
    obtain ⟨xn, xw, xa, xs, xd, xr, xaa, xaw, xav⟩ := x0
    dsimp only at hbt C' hsv hav
    subst hsv hav
    unfold Spot.val at C'
    dsimp only at C'
    have c0 := hbt.cell (j := 0) (v := .string xn) rfl
    have c1 := hbt.cell (j := 1) (v := .int .i64 xw) rfl
    have c2 := hbt.cell (j := 2) (v := .int .i64 xa) rfl
    have c3 := hbt.cell (j := 3) (v := .slice va sn sc) rfl
    have c4 := hbt.cell (j := 4) (v := .int .i64 xd) rfl
    have c5 := hbt.cell (j := 5) (v := .int .i64 xr) rfl
    have c6 := hbt.cell (j := 6) (v := .int .i64 xaa) rfl
    have c7 := hbt.cell (j := 7) (v := .int .i64 xaw) rfl
    have c8 := hbt.cell (j := 8) (v := .slice aa an ac) rfl
    clear hbt
    unfold placesActN
    dsimp only
    gi_wp2_with (refine ⟨trivial, ?_⟩; gi_at_call 81; refine (CallsIn.inRound l (callsIn_wide.2 C')).mono ?_; clear C'; rintro e W1 ⟨rfl, hA⟩)
    rw [← hze]; exact hA.1
  case done =>
    rintro D W hD ⟨hB, h4, hz⟩ hK
    refine ⟨rfl, ?_⟩
    have hDV := lt_of_heap hK
    have h4U : Cells (W.putObj D (.deferred none)) w.heap.size 30 #[.int .i64 0] := (World.putObj_heap_other (by omega)).trans h4
    have hBU := hB.trans (belowK_b (w := w) (Nat.le_refl _) W D _ (.deferred none) (by omega) hK rfl rfl)
    show LeavesInM _ _ _ _ _ _ _ _ _
    refine ⟨by simp, .inl ⟨_, _, rfl, run_takeDeferred hK, ?_⟩⟩
    generalize W.putObj D (.deferred none) = U at h4U hBU ⊢
    refine ⟨by simp, .inr ⟨fun _ => by omega, .func 78, #[.pointer (some ⟨w.heap.size, 0, none⟩)], 78, #[.pointer (some ⟨w.heap.size, 0, none⟩)], rfl, ?_, fun _ _ => trivial, ?_⟩⟩
    · simp [invoke, go_sem]
    refine (catch_hit _ n ⟨w.heap.size, 0, none⟩ (.int .i64 0) U (hA.below hBU) (h4U.cell rfl) (h4U.frozen 0)).mono ?_
    rintro e u' w'' ⟨rfl, hu, w1, hb1, rfl⟩
    have h4F : ((w1.setCell ⟨w.heap.size, 0, none⟩ (.int .i64 n))).cell? ⟨w.heap.size, 0, none⟩ = some (.int .i64 n) := ((h4U.below hb1 h4U.lt).set (j := 0) (.int .i64 n)).cell rfl
    have hP : PlacesFell w n (.returned (.tuple #[.slice none 0 0, .slice none 0 0, .int .i64 n])) (w1.setCell ⟨w.heap.size, 0, none⟩ (.int .i64 n)) :=
      ⟨rfl, (hBU.trans (hb1.mono hBU.size)).setCell (p := ⟨w.heap.size, 0, none⟩) (Nat.le_refl _) _⟩
    have hH := Lib.hid hP
    clear hP h4U
    simp [LeavesInM, LeavesIn, hu, results, Tryz.results42, go_sem, h4F]
    exact hH.out
end Go.Proofs.YtfhllbnpkcgfdaaGreatDoor
