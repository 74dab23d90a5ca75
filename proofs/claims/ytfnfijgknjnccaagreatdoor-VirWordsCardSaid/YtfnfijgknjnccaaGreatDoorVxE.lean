/-
  vir's instruction: the words of the first form that they fit.
-/
import Derived.Test.YtfnfijgknjnccaaGreatDoorVwQ
import Derived.Test.YtfnfijgknjnccaaGreatDoorVxB
namespace Go.Proofs.YtfnfijgknjnccaaGreatDoor
open Go.RowKit Go.Sort
/-- Are the words those of a form? What is read of them. -/
def rdW (ws : List ByteArray) (f : FormV) : Bool := readOk (partsOf f.line) ws f.least f.most
def yW (ws : List ByteArray) (f : FormV) : InsV := foldX (insZ f.k (d0F f.k)) (partsOf f.line) ws
/-- What is asked of words that a form may fit. -/
structure SideOk (ws : List ByteArray) (f : FormV) : Prop where
  nm : ∀ (j : Nat) p, ((partsOf f.line).zip ws)[j]? = some p → (∀ q, q ∈ ((partsOf f.line).zip ws).take j → getOk q.1 q.2 = true) → p.1.toList = [78, 65, 77, 69] → IsName p.2
  op : ∀ (j : Nat) p, ((partsOf f.line).zip ws)[j]? = some p → (∀ q, q ∈ ((partsOf f.line).zip ws).take j → getOk q.1 q.2 = true) → p.1.toList = [79, 80] → opBad p.2 = false → IsName p.2
  args : ((partsOf f.line).zip ws).all (fun p => getOk p.1 p.2) = true → (∀ x, x ∈ ws.drop (partsOf f.line).length → numB x = true) ∧ (ws.drop (partsOf f.line).length).length ≤ 16
def fitsC (ws : List ByteArray) (f : FormV) : Prop := f.least ≤ (ws.length : Int) - (partsOf f.line).length ∧ (ws.length : Int) - (partsOf f.line).length ≤ f.most
theorem forms_least : ∀ f, f ∈ formsV → 0 ≤ f.least := by decide
theorem read_words (f : FormV) (hf : f ∈ formsV) {ws : List ByteArray} {b c : Nat} {w : World} (hE : EnvV w) (hl : StrsL w (some ⟨b, 0, none⟩) ws) (hbw : b < w.heap.size) (hc : ws.length ≤ c) (hsz : ∀ x, x ∈ ws → x.size ≤ 65536) (hwl : ws.length ≤ 100000) (hs : fitsC ws f → SideOk ws f) :
    Calls Tryz.prog 41 #[f.v, .slice (some ⟨b, 0, none⟩) ws.length c] w (ReadP w (rdW ws f) (yW ws f) (ws.drop (partsOf f.line).length)) := by
  obtain ⟨n1, n2, n3, n4, n5⟩ := forms_name f hf
  unfold rdW readOk yW
  by_cases har : fitsC ws f
  · rw [decide_eq_true har.1, decide_eq_true har.2, Bool.true_and, Bool.true_and]
    have hs := hs har
    have hle := forms_least f hf
    have h1 := har.1
    exact read_fits f (forms_asc f hf) (d0F_ok f.k) hE hl hbw hc hsz hwl (by omega) hs.nm hs.op har hs.args
  · have hfalse : (decide (f.least ≤ (ws.length : Int) - (partsOf f.line).length) && decide ((ws.length : Int) - (partsOf f.line).length ≤ f.most)) = false := by
      unfold fitsC at har
      rw [Bool.and_eq_false_iff, decide_eq_false_iff_not, decide_eq_false_iff_not]
      omega
    rw [hfalse, Bool.false_and]
    exact read_short f (forms_asc f hf) (d0F_ok f.k) hE (by omega) (by omega) (by unfold fitsC at har; omega)
theorem readP_yes {w w' : World} {e : Ending} {xf : InsV} {rest : List ByteArray} (h : ReadP w true xf rest e w') : Below w.heap.size w w' ∧ ∃ (a' : Option Addr) (c' : Nat) (y : InsV), Hid (y = { xf with sa := a', sn := rest.length, sc := c' }) ∧ e = .returned (.tuple #[.agg #[.int .i64 y.k, .int .i64 y.d, .int .i64 y.a, .int .i64 y.b, .int .i64 y.n, .string y.nm, .slice y.sa y.sn y.sc, .int .i64 y.t, .int .i64 y.f], .int .i64 0]) ∧
    w'.ownsRow w.heap.size 3 1 (.slice a' rest.length c') rest.length ((rest.map intV).map (Value.int .i64)) := by
  obtain ⟨hb, h⟩ := h
  rcases h with ⟨h, _⟩ | ⟨_, a', c', he, hrow⟩
  · cases h
  · exact ⟨hb, a', c', _, Lib.hid rfl, he, hrow⟩
set_option maxHeartbeats 4000000
set_option maxRecDepth 100000
theorem insn_end {n : Nat} {W : World} {x : InsV} {er : Int} {tmps : Array Value} (h4 : tmps.getD 2 undef = .pointer (some ⟨n, 0, none⟩)) (h5 : tmps.getD 3 undef = .int .i64 er) (h : Cells W n 25 x.cells) :
    (results Tryz.f85 tmps).run Tryz.prog W = .ok (.tuple #[.agg x.cells, .int .i64 er]) W := by
  rw [results_cell2 rfl, h4, h5]
  show ((loadVar 25 ⟨n, 0, none⟩).run Tryz.prog W).andThen _ = _
  rw [load_ins h]
  rfl
theorem instruction_ok (j : Nat) (f : FormV) (hf : formsV[j]? = some f) {ws : List ByteArray} (hok : rdW ws f = true) (hno : ∀ q, q ∈ formsV.take j → rdW ws q = false) (hside : ∀ q, q ∈ formsV.take (j + 1) → fitsC ws q → SideOk ws q)
    {b c : Nat} {w : World} (hE : EnvF w) (hl : StrsL w (some ⟨b, 0, none⟩) ws) (hbw : b < w.heap.size) (hc : ws.length ≤ c) (hsz : ∀ x, x ∈ ws → x.size ≤ 65536) (hwl : ws.length ≤ 100000) :
    Calls Tryz.prog 85 #[.slice (some ⟨b, 0, none⟩) ws.length c] w fun e w' => ∃ a' c', e = .returned (.tuple #[.agg ({ yW ws f with sa := a', sn := (ws.drop (partsOf f.line).length).length, sc := c' } : InsV).cells, .int .i64 0]) ∧
      w'.ownsRow w.heap.size 3 1 (.slice a' (ws.drop (partsOf f.line).length).length c') (ws.drop (partsOf f.line).length).length (((ws.drop (partsOf f.line).length).map intV).map (Value.int .i64)) ∧ Below w.heap.size w w' := by
  have hj10 : j < 10 := (List.getElem?_eq_some_iff.1 hf).1
  have hC0 := Lib.hid (Cells.new w 25 (insZ 0 0).cells)
  have hb1 := below_one w (insZ 0 0).cells 25
  have hrange := (hE.below hb1).range
  have hKr := Lib.hid (fun (W : World) (q : FormV) (hb : Below w.heap.size w W) (hq : q ∈ formsV) (hs : fitsC ws q → SideOk ws q) => read_words q hq (c := c) (hE.below hb).env (hl.below hb) (Nat.lt_of_lt_of_le hbw hb.size) hc hsz hwl hs)
  replace hside := Lib.hid hside
  replace hno := Lib.hid hno
  replace hok := Lib.hid hok
  replace hf := Lib.hid hf
  replace hb1 := Lib.hid hb1
  clear hE hl hsz
  unfold insZ InsV.cells at hrange hC0 hb1
  dsimp only at hrange hC0 hb1
  go_enter Tryz.func85, Tryz.ntmps85
  go_wp2_with (refine wpList_load_mid rfl 90 _ rfl 0 0 rfl formCells _ hrange Tryz.underlying90 rfl forms_size ?_)
  clear hrange
  go_loopw [9] (fun i wr => ∃ k : Nat, k ≤ j ∧ i = .int .i64 k ∧ Cells wr w.heap.size 25 (insZ 0 0).cells ∧ Below w.heap.size w wr) (fun i _ => 10 - (intOf i).toNat)
  case atStart => exact ⟨0, Nat.zero_le _, rfl, hC0.out, hb1.out⟩
  case round =>
    clear hC0 hb1
    obtain ⟨k, hk, rfl, hZ, hB⟩ := hrel
    have k0 : (0 : Int) ≤ k := Int.natCast_nonneg _
    have k1 : (k : Int) < 10 := by omega
    have hi : IntKind.i64.wrap ((k : Int) + 1) = k + 1 := IntWalk.i64_in _ (by omega)
    have hk10 : k < 10 := by omega
    obtain ⟨q, hq⟩ : ∃ q, formsV[k]? = some q := ⟨formsV[k]'hk10, List.getElem?_eq_getElem hk10⟩
    have hqm := List.mem_of_getElem? hq
    have hqt : ∀ n, k < n → q ∈ formsV.take n := fun n hn => by
      rw [List.mem_iff_getElem?]
      exact ⟨k, by rw [List.getElem?_take, if_pos hn, hq]⟩
    have hidx := formsA_index k q hq
    have hBa := hB.alloc hB.size (.cells #[.int .i64 q.k, .string q.line, .int .i64 q.least, .int .i64 q.most] 89)
    have K := hKr.out _ q hBa hqm (hside.out q (hqt _ (by omega)))
    have hZa := hZ.alloc (.cells #[.int .i64 q.k, .string q.line, .int .i64 q.least, .int .i64 q.most] 89)
    have hZl := hZ.lt
    have hBs := hB.size
    replace hZ := Lib.hid hZ
    replace hB := Lib.hid hB
    replace hBa := Lib.hid hBa
    replace hZa := Lib.hid hZa
    by_cases hkj : k < j
    · rw [hno.out q (hqt _ hkj)] at K
      clear hq hqm hqt
      unfold FormV.v at hidx K
      go_wp2_with (go_at_call 41; refine K.mono ?_; clear K; intro e W3 hread; obtain ⟨hb3, y, rfl⟩ := readP_no hread; have hZ3 := Lib.hid (hZa.out.below hb3 hZa.out.lt); have hB3 := Lib.hid (hBa.out.trans (hb3.mono hBa.out.size)); clear hread hb3)
      exact ⟨⟨k + 1, by omega, by go_num, hZ3.out.alloc _, hB3.out.alloc (by have := hB3.out.size; omega) _⟩, by simp [intOf]; omega⟩
    · obtain rfl : k = j := by omega
      obtain rfl : q = f := by have := hf.out; rw [hq] at this; exact Option.some.inj this
      rw [hok.out] at K
      clear hq hqm hqt hkj
      unfold FormV.v at hidx K
      go_wp2_with (go_at_call 41; refine K.mono ?_; clear K; intro e W3 hread; obtain ⟨hb3, a', c', y, hy, rfl, hrow⟩ := readP_yes hread; have hZ3 := hZa.out.below hb3 hZa.out.lt; have hB3 := Lib.hid (hBa.out.trans (hb3.mono hBa.out.size)); clear hb3 hread; replace hrow := Lib.hid hrow; have z9 := fun o => ins_cells (x := insZ 0 0) (hZ3.alloc o); simp only [forall_and] at z9; obtain ⟨z0, z1, z2, z3, z4, z5, z6, z7, z8⟩ := z9; have zf := fun o i => (hZ3.alloc o).frozen i; replace hZ3 := Lib.hid hZ3)
      refine bodyPost_ret (v := .tuple #[.agg y.cells, .int .i64 0]) (insn_end rfl rfl (nine_ins (hZ3.out.alloc _) _ _ _ _ _ _ _ _ _)) rfl ⟨a', c', by rw [hy.out], ?_, nine_below (hB3.out.alloc hB3.out.size _) (Nat.le_refl _) _ _ _ _ _ _ _ _ _⟩
      have hb5 := hBa.out.size
      rw [World.size_alloc] at hb5
      exact row_mono (nine_row (hrow.out.alloc _) (by rw [World.size_alloc]; omega) _ _ _ _ _ _ _ _ _) hBa.out.size
end Go.Proofs.YtfnfijgknjnccaaGreatDoor
