/-
  vir's Read, of the text of a function of one block of one instruction.
-/
import Derived.Test.YtfnfijgknjnccaaGreatDoorVxK
import Derived.Test.YtfnfijgknjnccaaGreatDoorVwV
namespace Go.Proofs.YtfnfijgknjnccaaGreatDoor
open Go.RowKit Go.Sort
attribute [local go_sem] Oper.semAt_some
set_option maxHeartbeats 8000000
set_option maxRecDepth 100000
theorem line_step {t : TxV} (ht : TxOk t) {R base k : Nat} {x : ByteArray} (hx : t.lines[k]? = some x) {w : World} (hE : EnvF w) (h : RdAt R base (t.at k) w) (hRb : R < base) (hbase : base ≤ w.heap.size) :
    Calls Tryz.prog 14 #[.pointer (some ⟨R, 0, none⟩), .int .i64 ((k + 1 : Nat) : Int), .string x] w fun e w' => e = .returned (.int .i64 0) ∧ LineP R base (t.at (k + 1)) w w' := by
  have hk : k < 7 := (List.getElem?_eq_some_iff.1 hx).1
  have h7 : k = 0 ∨ k = 1 ∨ k = 2 ∨ k = 3 ∨ k = 4 ∨ k = 5 ∨ k = 6 := by omega
  rcases h7 with rfl | rfl | rfl | rfl | rfl | rfl | rfl
  · cases hx
    exact line1_any hE.env h rfl ht.nm
  · cases hx
    exact line2_any hE.env h hRb hbase rfl ht.vr (by have := ht.lv; omega) (by have := ht.regs; unfold wRegs at this; omega)
  · cases hx
    exact line3_any hE.env h hRb hbase rfl ht.ps (by have := ht.lp; omega) (by have := ht.params; unfold wParams at this; omega)
  · cases hx
    exact line4_any hE.env h rfl ht.rs
  · cases hx
    exact line5_any (k := 5) hE.env h rfl (by decide) (by decide) fun W hb hr => body_block hr hRb (Nat.le_trans hbase hb.size) rfl
  · cases hx
    exact line5_any (k := 6) hE.env h rfl (by decide) (by have := ht.lw; simp only [List.length_cons]; omega) fun W hb hr => body_ins (l := []) (hE.below hb) hr (Nat.le_trans hbase hb.size) rfl (by decide) ht.ws ht.w0 (fun x hx => (ht.wb x hx).1) (by have := ht.lw; omega)
  · cases hx
    exact line5_any (k := 7) hE.env h rfl (by decide) (by decide) fun W hb hr => body_end hr
/-- The function that a text says. -/
structure FnIs (f : FnV) (t : TxV) : Prop where
  nm : f.nm = t.nm
  vr : f.vr = t.vr
  ps : f.ps = t.ps
  res : f.res = t.rs
  bl : ∃ (b : BlkV) (y : InsX), f.bl = [b] ∧ b.l = [y] ∧ strip y = yS t.ws t.f
theorem insL_one {W : World} {base n c : Nat} {a : Option Addr} {y : InsX} (h : W.ownsRow base 25 9 (.slice a n c) n y.1.cells.toList) (hn : n = 1) : InsL W a [y] := fun j x hx => by
  subst hn
  have hj : j < 1 := (List.getElem?_eq_some_iff.1 hx).1
  obtain rfl : j = 0 := by omega
  cases hx
  rcases h.2 with ⟨_, h0⟩ | ⟨g, cap, cur, hv, _⟩
  · omega
  · injection hv with ha _ _
    subst ha
    refine ⟨g, 0, rfl, fun i v hv => ?_⟩
    have hi : i < 9 := (Array.getElem?_eq_some_iff.1 hv).1
    rw [show 0 + 0 * 9 + i = i by omega, h.cellAt i (by omega), Array.getElem?_toList]
    exact hv
/-- What the reader has at last is that function. -/
theorem fn_of_rd {t : TxV} {R base : Nat} {W : World} (h : RdAt R base (t.at 7) W) : ∃ f : FnV, FnIs f t ∧ (∀ V S, Only S W V → (∀ g, base ≤ g → ¬ S g) → FnAt V f) ∧ W.cell? ⟨R, 0, none⟩ = some (.string f.nm) ∧ W.cell? ⟨R, 1, none⟩ = some (.slice f.va f.vr.length f.vc) ∧ W.cell? ⟨R, 2, none⟩ = some (.slice f.pa f.ps.length f.pc) ∧ W.cell? ⟨R, 3, none⟩ = some (.string f.res) ∧ W.cell? ⟨R, 4, none⟩ = some (.slice f.ba f.bl.length f.bc) ∧ W.cell? ⟨R, 5, none⟩ = some (.bool true) := by
  obtain ⟨va, vc, pa, pc, bv, r1, r2, r3, r4⟩ := h
  obtain ⟨g, gc, ia, ic, l', hl', rfl, q1, q2, q3⟩ := r4
  obtain ⟨y, rfl⟩ : ∃ y, l' = [y] := by
    cases l' with
    | nil => simp at hl'
    | cons a r =>
      cases r with
      | nil => exact ⟨a, rfl⟩
      | cons b r => simp at hl'
  have hy : strip y = yS t.ws t.f := by simpa using hl'
  simp only [List.flatMap_cons, List.flatMap_nil, List.append_nil] at q2
  refine ⟨⟨t.nm, va, vc, t.vr, pa, pc, t.ps, t.rs, some ⟨g, 0, none⟩, gc, [⟨ia, ic, [y]⟩]⟩, ⟨rfl, rfl, rfl, rfl, _, y, rfl, rfl, hy⟩, fun V S ho hb => ⟨strsL_row (ho.row r2 hb), intsL_row (ho.row r3 hb), ?_, ?_, ?_⟩, r1.cell rfl, r1.cell rfl, r1.cell rfl, r1.cell rfl, r1.cell rfl, r1.cell rfl⟩
  · intro j x hx
    have hj : j < 1 := (List.getElem?_eq_some_iff.1 hx).1
    obtain rfl : j = 0 := by omega
    cases hx
    refine ⟨g, 0, rfl, ?_⟩
    rw [Nat.zero_add, (ho.row q1 hb).cellAt 0 (by omega)]
    rfl
  · intro b hm
    rw [List.mem_singleton] at hm
    subst hm
    exact insL_one (ho.row q2 hb) rfl
  · intro b hm z hz
    rw [List.mem_singleton] at hm
    subst hm
    rw [List.mem_singleton] at hz
    subst hz
    obtain ⟨h8, h9⟩ := q3 z (by simp)
    rw [h9] at h8
    exact ⟨intsL_row (ho.row h8 hb), h9⟩
theorem enumN_get : ∀ (l : List ByteArray) (k j : Nat) (x : Nat × ByteArray), (enumN k l)[j]? = some x → x.1 = k + j + 1 ∧ l[j]? = some x.2
  | [], _, _, _, h => by simp [enumN] at h
  | y :: l, k, 0, x, h => by
    simp only [enumN, List.getElem?_cons_zero, Option.some.injEq] at h
    subst h
    exact ⟨rfl, rfl⟩
  | y :: l, k, j + 1, x, h => by
    simp only [enumN, List.getElem?_cons_succ] at h
    obtain ⟨h1, h2⟩ := enumN_get l (k + 1) j x h
    exact ⟨by omega, by simpa using h2⟩
def zeroF : Array Value := #[.string ⟨#[]⟩, .slice none 0 0, .slice none 0 0, .string ⟨#[]⟩, .slice none 0 0]
/-- While a text is read: b: where the call's own blocks begin. -/
structure RdI (w : World) (t : TxV) (pre : List (Nat × ByteArray)) (W : World) : Prop where
  old : Below w.heap.size w W
  rd : RdAt (w.heap.size + 1 + 1 + 1) (w.heap.size + 13) (t.at pre.length) W
  f : Cells W w.heap.size 30 zeroF
  a : Cells W (w.heap.size + 1) 3 #[.int .i64 0]
  e : Cells W (w.heap.size + 1 + 1) 31 #[.int .i64 0]
  last : ∃ n : Int, Cells W (w.heap.size + 1 + 1 + 1 + 1) 3 #[.int .i64 n]
def readAct (w : World) (s : ByteArray) (n : Int) (x : ByteArray) : Act := { tmps := #[.string s, undef, .pointer (some ⟨w.heap.size, 0, none⟩), .pointer (some ⟨w.heap.size + 1, 0, none⟩), .pointer (some ⟨w.heap.size + 1 + 1, 0, none⟩), .pointer (some ⟨w.heap.size + 1 + 1 + 1, 0, none⟩), .pointer (some ⟨w.heap.size + 1 + 1 + 1 + 1, 0, none⟩), .int .i64 n, .string x, undef, .string s, .int .i64 s.size, .bool (decide (65536 < (s.size : Int))), undef, .string s, .func (.func 27) #[] #[.pointer (some ⟨w.heap.size + 1 + 1 + 1 + 1 + 1, 0, none⟩)], .int .i64 n, .string x, undef, undef, undef, undef, undef, undef, undef, undef, undef, undef, undef, undef, undef, undef, undef, undef, undef], defers := [] }
theorem below_six (w : World) (A B C D E F : Array Value) (t1 t2 t3 t4 t5 t6 : TypeId) :
    Below w.heap.size w ((((((w.alloc (.cells A t1)).alloc (.cells B t2)).alloc (.cells C t3)).alloc (.cells D t4)).alloc (.cells E t5)).alloc (.cells F t6)) :=
  (((((belowN.alloc (by simp) _).alloc (by simp; omega) _).alloc (by simp; omega) _).alloc (by simp; omega) _).alloc (by simp; omega) _)
theorem cells_six (w : World) (A B C D E F : Array Value) (t1 t2 t3 t4 t5 t6 : TypeId) :
    let X := (((((w.alloc (.cells A t1)).alloc (.cells B t2)).alloc (.cells C t3)).alloc (.cells D t4)).alloc (.cells E t5)).alloc (.cells F t6)
    X.heap.size = w.heap.size + 6 ∧ Cells X w.heap.size t1 A ∧ Cells X (w.heap.size + 1) t2 B ∧ Cells X (w.heap.size + 1 + 1) t3 C ∧ Cells X (w.heap.size + 1 + 1 + 1) t4 D ∧ Cells X (w.heap.size + 1 + 1 + 1 + 1) t5 E ∧ Cells X (w.heap.size + 1 + 1 + 1 + 1 + 1) t6 F := by
  intro X
  have s1 := World.size_alloc w (.cells A t1)
  have s2 := World.size_alloc (w.alloc (.cells A t1)) (.cells B t2)
  have s3 := World.size_alloc ((w.alloc (.cells A t1)).alloc (.cells B t2)) (.cells C t3)
  have s4 := World.size_alloc (((w.alloc (.cells A t1)).alloc (.cells B t2)).alloc (.cells C t3)) (.cells D t4)
  have s5 := World.size_alloc ((((w.alloc (.cells A t1)).alloc (.cells B t2)).alloc (.cells C t3)).alloc (.cells D t4)) (.cells E t5)
  have q1 := Cells.new w t1 A
  have q2 := Cells.new (w.alloc (.cells A t1)) t2 B
  have q3 := Cells.new ((w.alloc (.cells A t1)).alloc (.cells B t2)) t3 C
  have q4 := Cells.new (((w.alloc (.cells A t1)).alloc (.cells B t2)).alloc (.cells C t3)) t4 D
  have q5 := Cells.new ((((w.alloc (.cells A t1)).alloc (.cells B t2)).alloc (.cells C t3)).alloc (.cells D t4)) t5 E
  have q6 := Cells.new (((((w.alloc (.cells A t1)).alloc (.cells B t2)).alloc (.cells C t3)).alloc (.cells D t4)).alloc (.cells E t5)) t6 F
  rw [s1] at q2 s2
  rw [s2] at q3 s3
  rw [s3] at q4 s4
  rw [s4] at q5 s5
  rw [s5] at q6
  exact ⟨by simp [X], ((((q1.alloc _).alloc _).alloc _).alloc _).alloc _, (((q2.alloc _).alloc _).alloc _).alloc _, ((q3.alloc _).alloc _).alloc _, (q4.alloc _).alloc _, q5.alloc _, q6⟩
theorem read_any {t : TxV} (ht : TxOk t) {w : World} (hE : EnvF w) :
    Calls Tryz.prog 7 #[.string (txt (textOf t.lines))] w fun e w' => Below w.heap.size w w' ∧ ∃ f : FnV, e = .returned (.tuple #[.agg f.cells, .int .i64 0, .int .i64 0]) ∧ FnIs f t ∧ FnAt w' f := by
  have hlk := ht.lines
  obtain ⟨s, hs⟩ : ∃ s, s = txt (textOf t.lines) := ⟨_, rfl⟩
  have hsz : (s.size : Int) ≤ 65536 := by rw [hs, txt_size]; omega
  rw [← hs]
  replace hs := Lib.hid hs
  replace hlk := Lib.hid hlk
  replace hE := Lib.hid hE
  have KL := fun W => virLines s W
  refine (callsIn_wide (n := 8)).1 ?_
  refine callsIn_of_wp_marks Tryz.func7 rfl trivial ?_ rfl
  simp only [Tryz.ntmps7, List.size_toArray, List.length_cons, List.length_nil, Nat.reduceAdd, Nat.reduceSub, Array.replicate_succ, Array.replicate_zero, List.push_toArray, List.append_toArray, List.nil_append, List.cons_append]
  gi_wp2_with (refine ⟨trivial, ?_⟩; refine (callsIn_wide.2 (KL _)).mono ?_; rintro e w' ⟨rfl, rfl⟩)
  have hB6 := below_six w zeroF #[.int .i64 0] #[.int .i64 0] #[.string ⟨#[]⟩, .slice none 0 0, .slice none 0 0, .string ⟨#[]⟩, .slice none 0 0, .bool false] #[.int .i64 0] #[.string s] 30 3 31 42 3 9
  have hC6 := cells_six w zeroF #[.int .i64 0] #[.int .i64 0] #[.string ⟨#[]⟩, .slice none 0 0, .slice none 0 0, .string ⟨#[]⟩, .slice none 0 0, .bool false] #[.int .i64 0] #[.string s] 30 3 31 42 3 9
  dsimp only at hC6
  obtain ⟨hz, q0, q1, q2, q3, q4, q5⟩ := hC6
  unfold zeroF at hB6 hz q0 q1 q2 q3 q4 q5
  generalize (((((w.alloc _).alloc _).alloc _).alloc _).alloc _).alloc _ = W0 at hB6 hz q0 q1 q2 q3 q4 q5 ⊢
  rw [hs.out] at q5
  have hall := enum_tells (fun b ty => ty ∈ rdTs ∨ b = w.heap.size + 1 + 1 + 1 + 1) 7 (w.heap.size + 1 + 1 + 1 + 1 + 1) (by omega) t.lines W0 q5 hlk.out.1 hlk.out.2 (fun b hb => ⟨fun h => h.elim (by decide) (fun e => by omega), fun h => h.elim (by decide) (fun e => by omega), fun h => h.elim (by decide) (fun e => by omega)⟩)
  have hno : ∀ k, k < w.heap.size + 6 ∨ w.heap.size + 13 ≤ k → ¬ Win (fun _ => False) W0.heap.size (2 + 5) k := fun k hk h => by
    rcases h with h | h
    · exact h
    · omega
  refine range_only (S := fun _ => False) (c := 5) (q := fun b ty => ty ∈ rdTs ∨ b = w.heap.size + 1 + 1 + 1 + 1) (n := 8) (ps := #[16, 17]) (w := W0) (gf := 27) (lb := #[.pointer (some ⟨w.heap.size + 1 + 1 + 1 + 1 + 1, 0, none⟩)]) (encs := numEnc) (E := enumN 0 t.lines) (by omega) rfl (enters_of Tryz.func27 (by kernel_rfl) rfl) hall (fun _ => rfl) (fun _ h => h.elim)
    (RdI w t)
    (fun pre A B h ho => ⟨h.old.trans ⟨ho.low.os, ho.low.tape, ho.low.output, ho.low.size, fun k hk => ho.same k (Nat.lt_of_lt_of_le hk h.old.size) (hno k (by omega))⟩, h.rd.only ho (hno _ (by omega)) (fun g hg => hno g (by omega)), ho.cells h.f (hno _ (by omega)), ho.cells h.a (hno _ (by omega)), ho.cells h.e (hno _ (by omega)), h.last.elim fun n hn => ⟨n, ho.cells hn (hno _ (by omega))⟩⟩)
    ⟨hB6, ⟨none, 0, none, 0, .slice none 0 0, q3, World.ownsRow_nil _ _ _ _, World.ownsRow_nil _ _ _ _, rfl⟩, q0, q1, q2, 0, q4⟩
    (fun x a' => a' = readAct w s x.1 x.2) ?assign ?body ?done
  case assign =>
    intro l2 pre x A K _ hK
    unfold numEnc
    gi_wp2
    rfl
  case body =>
    rintro l2 pre x a' A hI hpre rfl hAz
    have hx : (enumN 0 t.lines)[pre.length]? = some x := by
      obtain ⟨r, hr⟩ := hpre
      rw [← hr]
      simp
    obtain ⟨hx1, hx2⟩ := enumN_get _ _ _ _ hx
    obtain ⟨m, ln⟩ := x
    dsimp only at hx1 hx2
    have hm : m = pre.length + 1 := by omega
    obtain ⟨n, hlast⟩ := hI.last
    have K := line_step ht hx2 (hE.out.below hI.old) hI.rd (by omega) (by omega)
    rw [← hm] at K
    have hfin : Hid (∀ B, LineP (w.heap.size + 1 + 1 + 1) (w.heap.size + 13) (t.at m) A B → ((B.cell? ⟨w.heap.size + 1 + 1 + 1 + 1, 0, none⟩ = some (.int .i64 n) ∧ B.frozen? ⟨w.heap.size + 1 + 1 + 1 + 1, 0, none⟩ = false) ∧ (∀ v : Int, KeepsOthers A (B.setCell ⟨w.heap.size + 1 + 1 + 1 + 1, 0, none⟩ (.int .i64 v)) ∧ StaysQ (fun b ty => ty ∈ rdTs ∨ b = w.heap.size + 1 + 1 + 1 + 1) A (B.setCell ⟨w.heap.size + 1 + 1 + 1 + 1, 0, none⟩ (.int .i64 v)) ∧ RdI w t (pre ++ [(m, ln)]) (B.setCell ⟨w.heap.size + 1 + 1 + 1 + 1, 0, none⟩ (.int .i64 v))))) := Lib.hid fun B hL => by
      have hl2 := hL.st.block _ _ _ (by decide) hlast
      refine ⟨⟨hl2.cell rfl, hl2.frozen 0⟩, fun v => ⟨hL.ko.trans (KeepsOthers.setCell _ _ _), (hL.st.toQ fun b ty h => .inl h).trans (StaysQ.of_set fun _ => .inr rfl), ?_, ?_, (hL.st.block _ _ _ (by decide) hI.f).other (by omega) _, (hL.st.block _ _ _ (by decide) hI.a).other (by omega) _, (hL.st.block _ _ _ (by decide) hI.e).other (by omega) _, v, hl2.set (j := 0) _⟩⟩
      · exact (hI.old.trans (hL.low w.heap.size (by omega) (by omega) hI.old.size)).setCell (p := ⟨w.heap.size + 1 + 1 + 1 + 1, 0, none⟩) (by show w.heap.size ≤ w.heap.size + 1 + 1 + 1 + 1; omega) _
      · rw [List.length_append, List.length_singleton, ← hm]
        exact hL.rd.only (S := fun k => k = w.heap.size + 1 + 1 + 1 + 1) (Only.set rfl) (by omega) (fun g hg => by omega)
    clear hx hx1 hx2 hpre hI hlast
    replace hm := Lib.hid hm
    unfold readAct
    gi_wp2_with (refine ⟨trivial, ?_⟩; refine (CallsIn.inRound l2 (callsIn_wide.2 K)).mono ?_; rintro e B ⟨rfl, hL⟩; obtain ⟨⟨d0, f0⟩, hG⟩ := hfin.out B hL)
    exact hG m
  case done =>
    rintro D X rfl hI hK
    have hI7 := hI.rd
    rw [enumN_len] at hI7
    obtain ⟨f, hfi, hfa, r0, r1, r2, r3, r4, r5⟩ := fn_of_rd (t := t) hI7
    have hF := hI.f
    unfold zeroF at hF
    have g0 := hF.cell (j := 0) rfl
    have g1 := hF.cell (j := 1) rfl
    have g2 := hF.cell (j := 2) rfl
    have g3 := hF.cell (j := 3) rfl
    have g4 := hF.cell (j := 4) rfl
    have gf := fun i => hF.frozen i
    have ha := hI.a
    have he := hI.e
    have a0 := ha.cell (j := 0) rfl
    have af := ha.frozen 0
    have e0 := he.cell (j := 0) rfl
    have ef := he.frozen 0
    gi_wp2
    have hN : ∀ {i : Nat}, i < w.heap.size + 6 → i ≠ W0.heap.size := fun h => by omega
    clear g0 g1 g2 g3 g4 gf a0 af e0 ef r0 r1 r2 r3 r4 r5 hI7 q0 q1 q2 q3 q4 q5 hE hall hlk hs hB6
    have hF5 := ((((((hF.set (j := 0) (.string f.nm)).set (j := 1) (.slice f.va f.vr.length f.vc)).set (j := 2) (.slice f.pa f.ps.length f.pc)).set (j := 3) (.string f.res)).set (j := 4) (.slice f.ba f.bl.length f.bc)).other (T := w.heap.size + 1) (j := 0) (by omega) (.int .i64 0)).other (T := w.heap.size + 1 + 1) (j := 0) (by omega) (.int .i64 0)
    have ha5 := ((((((ha.other (T := w.heap.size) (j := 0) (by omega) (.string f.nm)).other (T := w.heap.size) (j := 1) (by omega) (.slice f.va f.vr.length f.vc)).other (T := w.heap.size) (j := 2) (by omega) (.slice f.pa f.ps.length f.pc)).other (T := w.heap.size) (j := 3) (by omega) (.string f.res)).other (T := w.heap.size) (j := 4) (by omega) (.slice f.ba f.bl.length f.bc)).set (j := 0) (.int .i64 0)).other (T := w.heap.size + 1 + 1) (j := 0) (by omega) (.int .i64 0)
    have he5 := ((((((he.other (T := w.heap.size) (j := 0) (by omega) (.string f.nm)).other (T := w.heap.size) (j := 1) (by omega) (.slice f.va f.vr.length f.vc)).other (T := w.heap.size) (j := 2) (by omega) (.slice f.pa f.ps.length f.pc)).other (T := w.heap.size) (j := 3) (by omega) (.string f.res)).other (T := w.heap.size) (j := 4) (by omega) (.slice f.ba f.bl.length f.bc)).other (T := w.heap.size + 1) (j := 0) (by omega) (.int .i64 0)).set (j := 0) (.int .i64 0)
    have hB5 := ((((((hI.old.setCell (p := ⟨w.heap.size, 0, none⟩) (by simp) (.string f.nm)).setCell (p := ⟨w.heap.size, 1, none⟩) (by simp) (.slice f.va f.vr.length f.vc)).setCell (p := ⟨w.heap.size, 2, none⟩) (by simp) (.slice f.pa f.ps.length f.pc)).setCell (p := ⟨w.heap.size, 3, none⟩) (by simp) (.string f.res)).setCell (p := ⟨w.heap.size, 4, none⟩) (by simp) (.slice f.ba f.bl.length f.bc)).setCell (p := ⟨w.heap.size + 1, 0, none⟩) (by simp) (.int .i64 0)).setCell (p := ⟨w.heap.size + 1 + 1, 0, none⟩) (by simp; omega) (.int .i64 0)
    have hO5 : Only (fun k => k < w.heap.size + 13) X _ := ((((((Only.set (A := X) (S := fun k => k < w.heap.size + 13) (T := w.heap.size) (j := 0) (v := .string f.nm) (by simp)).trans (Only.set (T := w.heap.size) (j := 1) (v := .slice f.va f.vr.length f.vc) (by simp))).trans (Only.set (T := w.heap.size) (j := 2) (v := .slice f.pa f.ps.length f.pc) (by simp))).trans (Only.set (T := w.heap.size) (j := 3) (v := .string f.res) (by simp))).trans (Only.set (T := w.heap.size) (j := 4) (v := .slice f.ba f.bl.length f.bc) (by simp))).trans (Only.set (T := w.heap.size + 1) (j := 0) (v := .int .i64 0) (by simp))).trans (Only.set (T := w.heap.size + 1 + 1) (j := 0) (v := .int .i64 0) (by simp))
    have hK5 := ((((((KeepsOthers.setCell X ⟨w.heap.size, 0, none⟩ (.string f.nm)).trans (KeepsOthers.setCell _ ⟨w.heap.size, 1, none⟩ (.slice f.va f.vr.length f.vc))).trans (KeepsOthers.setCell _ ⟨w.heap.size, 2, none⟩ (.slice f.pa f.ps.length f.pc))).trans (KeepsOthers.setCell _ ⟨w.heap.size, 3, none⟩ (.string f.res))).trans (KeepsOthers.setCell _ ⟨w.heap.size, 4, none⟩ (.slice f.ba f.bl.length f.bc))).trans (KeepsOthers.setCell _ ⟨w.heap.size + 1, 0, none⟩ (.int .i64 0))).trans (KeepsOthers.setCell _ ⟨w.heap.size + 1 + 1, 0, none⟩ (.int .i64 0))
    have hD5 := hK5.same _ _ hK rfl
    generalize (((((((X.setCell _ _).setCell _ _).setCell _ _).setCell _ _).setCell _ _).setCell _ _).setCell _ _) = Y at *
    refine ⟨by simp, .inl ⟨_, _, rfl, run_takeDeferred hD5, ?_⟩⟩
    have hO6 : Only (fun k => k < w.heap.size + 13) X (Y.putObj W0.heap.size (.deferred none)) := hO5.trans (Only.put (by show W0.heap.size < w.heap.size + 13; omega))
    have hO7 : Only (fun k => k = W0.heap.size) Y (Y.putObj W0.heap.size (.deferred none)) := Only.put rfl
    have z := hO7.cells hF5 (by omega)
    have za := hO7.cells ha5 (by omega)
    have ze := hO7.cells he5 (by omega)
    have z0 := z.cell (j := 0) (v := .string f.nm) rfl
    have z1 := z.cell (j := 1) (v := .slice f.va f.vr.length f.vc) rfl
    have z2 := z.cell (j := 2) (v := .slice f.pa f.ps.length f.pc) rfl
    have z3 := z.cell (j := 3) (v := .string f.res) rfl
    have z4 := z.cell (j := 4) (v := .slice f.ba f.bl.length f.bc) rfl
    have z5 := za.cell (j := 0) (v := .int .i64 0) rfl
    have z6 := ze.cell (j := 0) (v := .int .i64 0) rfl
    refine ⟨.tuple #[.agg f.cells, .int .i64 0, .int .i64 0], ?_, hB5.trans (belowK_b (w := w) (Nat.le_refl _) _ W0.heap.size _ _ (by omega) hD5 rfl rfl), f, rfl, hfi, hfa _ _ hO6 fun g hg => by omega⟩
    simp [results, Tryz.f7, FnV.cells, go_sem, z0, z1, z2, z3, z4, z5, z6]
end Go.Proofs.YtfnfijgknjnccaaGreatDoor
