/-
  vir's Print, walked.
-/
import Derived.Test.YtfnfijgknjnccaaGreatDoorVwW
namespace Go.Proofs.YtfnfijgknjnccaaGreatDoor
open Go.RowKit Go.Sort
/-- While a function is printed: the text, and what else stands. -/
structure PrS (w : World) (f : FnV) (T : Nat) (l : List UInt8) (W : World) : Prop where
  txt : TxtAt T T l W
  old : Below w.heap.size w W
  box : Cells W w.heap.size 30 f.cells
  up : w.heap.size < T
theorem PrS.below {w : World} {f : FnV} {T : Nat} {l : List UInt8} {W V : World} (h : PrS w f T l W) (hb : Below W.heap.size W V) : PrS w f T l V :=
  ⟨h.txt.below hb, h.old.trans (hb.mono h.old.size), h.box.below hb h.box.lt, h.up⟩
theorem PrS.step {w : World} {f : FnV} {T : Nat} {l l' : List UInt8} {W V : World} (h : PrS w f T l W) (ht : TxtAt T T l' V) (hk : TxtKept T T W V) : PrS w f T l' V :=
  ⟨ht, kept_below h.old (Nat.le_of_lt h.up) hk, h.box.below hk.1 h.up, h.up⟩
theorem PrS.alloc {w : World} {f : FnV} {T : Nat} {l : List UInt8} {W : World} (h : PrS w f T l W) (o : Obj) : PrS w f T l (W.alloc o) := h.below ((Below.refl _ _).alloc (Nat.le_refl _) _)
theorem PrS.drew {w : World} {f : FnV} {T : Nat} {l : List UInt8} {W : World} (h : PrS w f T l W) : PrS w f T l W.drew := ⟨h.txt, h.old.drew, h.box, h.up⟩
theorem PrS.cells {w : World} {f : FnV} {T : Nat} {l : List UInt8} {W : World} (h : PrS w f T l W) :
    W.cell? ⟨w.heap.size, 0, none⟩ = some (.string f.nm) ∧ W.cell? ⟨w.heap.size, 1, none⟩ = some (.slice f.va f.vr.length f.vc) ∧ W.cell? ⟨w.heap.size, 2, none⟩ = some (.slice f.pa f.ps.length f.pc) ∧ W.cell? ⟨w.heap.size, 3, none⟩ = some (.string f.res) ∧ W.cell? ⟨w.heap.size, 4, none⟩ = some (.slice f.ba f.bl.length f.bc) :=
  ⟨h.box.cell rfl, h.box.cell rfl, h.box.cell rfl, h.box.cell rfl, h.box.cell rfl⟩
theorem PrS.le {w : World} {f : FnV} {T : Nat} {l : List UInt8} {W : World} (h : PrS w f T l W) : T ≤ W.heap.size := Nat.le_of_lt h.txt.lt
set_option maxHeartbeats 4000000
set_option maxRecDepth 100000
theorem line_one {w : World} {f : FnV} {T : Nat} {l : List UInt8} {W : World} (h : PrS w f T l W) (first x : ByteArray) (hlen : l.length + (lineB first [x]).length ≤ 4294967296) :
    Calls Tryz.prog 15 #[.pointer (some ⟨T, 0, none⟩), .string first, .slice (some ⟨W.heap.size, 0, none⟩) 1 1] (W.alloc (.cells #[.string x] 9)) fun e w' => e = .returned (.tuple #[]) ∧ PrS w f T (l ++ lineB first [x]) w' := by
  have hP := h.alloc (.cells #[.string x] 9)
  have hne : W.heap.size ≠ T := by have := h.txt.lt; omega
  exact (txt_line T T l first (a := some ⟨W.heap.size, 0, none⟩) (c := 1) (more := [x]) _ hP.txt (fun _ hV => strs_cells (cells_txt (Cells.new W 9 #[.string x]) (by decide) hne hV)) hlen (by simp) hP.le).mono fun _ _ ⟨h1, h2, h3⟩ => ⟨h1, hP.step h2 h3⟩
theorem line_none {w : World} {f : FnV} {T : Nat} {l : List UInt8} {W : World} (h : PrS w f T l W) (first : ByteArray) (hlen : l.length + (lineB first []).length ≤ 4294967296) :
    Calls Tryz.prog 15 #[.pointer (some ⟨T, 0, none⟩), .string first, .slice none 0 0] W fun e w' => e = .returned (.tuple #[]) ∧ PrS w f T (l ++ lineB first []) w' :=
  (txt_line T T l first (a := none) (c := 0) (more := []) _ h.txt (fun _ _ _ _ hx => by simp at hx) hlen (by simp) h.le).mono fun _ _ ⟨h1, h2, h3⟩ => ⟨h1, h.step h2 h3⟩
theorem line_old {w : World} {f : FnV} {T : Nat} {l : List UInt8} {W : World} (h : PrS w f T l W) (first : ByteArray) {a : Option Addr} {c : Nat} {more : List ByteArray} (ho : StrsL w a more) (hlen : l.length + (lineB first more).length ≤ 4294967296) (hml : more.length ≤ 4294967296) :
    Calls Tryz.prog 15 #[.pointer (some ⟨T, 0, none⟩), .string first, .slice a more.length c] W fun e w' => e = .returned (.tuple #[]) ∧ PrS w f T (l ++ lineB first more) w' :=
  (txt_line T T l first _ h.txt (fun _ hV => ho.below (kept_below h.old (Nat.le_of_lt h.up) hV)) hlen hml h.le).mono fun _ _ ⟨h1, h2, h3⟩ => ⟨h1, h.step h2 h3⟩
theorem line_row {w : World} {f : FnV} {T : Nat} {l : List UInt8} {W : World} (h : PrS w f T l W) (first : ByteArray) {b c : Nat} {more : List ByteArray} (hC : Cells W b 9 (more.map Value.string).toArray) (hb : b ≠ T) (hlen : l.length + (lineB first more).length ≤ 4294967296) (hml : more.length ≤ 4294967296) :
    Calls Tryz.prog 15 #[.pointer (some ⟨T, 0, none⟩), .string first, .slice (some ⟨b, 0, none⟩) more.length c] W fun e w' => e = .returned (.tuple #[]) ∧ PrS w f T (l ++ lineB first more) w' :=
  (txt_line T T l first _ h.txt (fun _ hV => strs_cells (cells_txt hC (by decide) hb hV)) hlen hml h.le).mono fun _ _ ⟨h1, h2, h3⟩ => ⟨h1, h.step h2 h3⟩
theorem line_tail {w : World} {f : FnV} {T : Nat} {l : List UInt8} {W : World} (h : PrS w f T l W) (first : ByteArray) {base g n c c' : Nat} {x : ByteArray} {more : List ByteArray} (hr : W.ownsRow base 9 1 (.slice (some ⟨g, 0, none⟩) n c) n ((x :: more).map Value.string)) (hg : g ≠ T) (hn : n = more.length + 1) (hnc : n ≤ c) (hlen : l.length + (lineB first more).length ≤ 4294967296) (hml : more.length ≤ 4294967296) :
    Calls Tryz.prog 15 #[.pointer (some ⟨T, 0, none⟩), .string first, .slice (if c = 1 then some ⟨g, 0, none⟩ else some ⟨g, 1, none⟩) more.length c'] W fun e w' => e = .returned (.tuple #[]) ∧ PrS w f T (l ++ lineB first more) w' ∧ w'.cell? ⟨g, 0, none⟩ = some (.string x) :=
  (txt_line T T l first _ h.txt (fun _ hV => by
    split
    · intro j y hy
      have := (List.getElem?_eq_some_iff.1 hy).1
      omega
    · exact strs_tail (strs_row_txt hr hg hV)) hlen hml h.le).mono fun _ _ ⟨h1, h2, h3⟩ => ⟨h1, h.step h2 h3, by
      obtain ⟨b4, o4, h4, h5⟩ := strs_row_txt hr hg h3 0 x rfl
      cases h4
      exact h5⟩
theorem print_no (f : FnV) {w : World} (hE : EnvF w) (hf : FnAt w f) (ho : FnOk f) (hp : plainB f = false) :
    Calls Tryz.prog 8 #[.agg f.cells] w fun e w' => e = .returned (.string ⟨#[]⟩) ∧ Below w.heap.size w w' := by
  have hb0 := below_one w f.cells 30
  have KP := plain_any f (hE.below hb0) (hf.below hb0) ho
  rw [hp] at KP
  replace hb0 := Lib.hid hb0
  clear hE hf ho hp
  unfold FnV.cells at *
  go_enter Tryz.func8, Tryz.ntmps8
  go_wp2_with (go_at_call 11; refine KP.mono ?_; clear KP; rintro e W1 ⟨rfl, hb1⟩)
  go_ret
  exact ⟨rfl, hb0.out.trans (hb1.mono hb0.out.size)⟩
theorem print_any (f : FnV) {w : World} (hE : EnvF w) (hf : FnAt w f) (ho : FnOk f) (hp : plainB f = true) (hs : (textF f).length ≤ 4294967296) :
    Calls Tryz.prog 8 #[.agg f.cells] w fun e w' => e = .returned (.string ⟨(textF f).toArray⟩) ∧ Below w.heap.size w w' := by
  have hb0 := below_one w f.cells 30
  have KP := plain_any f (hE.below hb0) (hf.below hb0) ho
  rw [hp] at KP
  have hbox := Cells.new w 30 f.cells
  have hKN : Hid (∀ W, Below w.heap.size w W → Calls Tryz.prog 16 #[.slice f.pa f.ps.length f.pc] W fun e w' => ∃ b, e = .returned (.slice (some ⟨b, 0, none⟩) f.ps.length f.ps.length) ∧ W.heap.size ≤ b ∧ Cells w' b 9 ((f.ps.map wordN).map Value.string).toArray ∧ Below W.heap.size W w') :=
    Lib.hid fun W hb => numerals_any (hE.env.below hb) (hf.ps.below hb) ho.ps ho.lp
  have hKW : Hid (∀ W b y, Below w.heap.size w W → b ∈ f.bl → y ∈ b.l → Calls Tryz.prog 17 #[.agg y.1.cells] W (WordsP W y.1 y.2)) :=
    Lib.hid fun W b y hb h1 h2 => wordsOf_any y.1 (hE.below hb) (ho.ins b h1 y h2) ((hf.args b h1 y h2).1.below hb) (hf.args b h1 y h2).2
  have hgood : Hid (∀ b y, b ∈ f.bl → y ∈ b.l → insB y = true) := Lib.hid fun b y h1 h2 => by
    unfold plainB at hp
    simp only [Bool.and_eq_true] at hp
    have h3 := List.all_eq_true.1 hp.2.2 b h1
    unfold blkB at h3
    rw [Bool.and_eq_true] at h3
    exact List.all_eq_true.1 h3.2 y h2
  have hvl := ho.lv
  have hpl := ho.lp
  have hbl := ho.lb
  have hil := Lib.hid ho.li
  have hnm := ho.nm.le
  have hrs := ho.res.le
  obtain ⟨s1, s2, s3⟩ : (headT f).length + (f.bl.flatMap blkT).length + 4 ≤ 4294967296 ∧ (lineB ⟨#[101, 110, 100]⟩ []).length = 4 ∧ (headT f).length = (lineB ⟨#[102, 117, 110, 99]⟩ [f.nm]).length + (lineB ⟨#[114, 101, 103, 115]⟩ f.vr).length + (lineB ⟨#[112, 97, 114, 97, 109, 115]⟩ (f.ps.map wordN)).length + (lineB ⟨#[114, 101, 115, 117, 108, 116]⟩ [f.res]).length := by
    have e4 : (lineB ⟨#[101, 110, 100]⟩ []).length = 4 := rfl
    unfold textF at hs
    rw [List.length_append, List.length_append, e4] at hs
    refine ⟨hs, e4, ?_⟩
    unfold headT
    simp only [List.length_append]
  replace hE := Lib.hid hE
  replace hf := Lib.hid hf
  clear ho hp hs
  replace KP := Lib.hid KP
  replace hb0 := Lib.hid hb0
  replace hbox := Lib.hid hbox
  have hcells : f.cells = #[.string f.nm, .slice f.va f.vr.length f.vc, .slice f.pa f.ps.length f.pc, .string f.res, .slice f.ba f.bl.length f.bc] := rfl
  replace hcells := Lib.hid hcells
  rw [hcells.out]
  go_enter Tryz.func8, Tryz.ntmps8
  go_wp2_with (go_at_call 11; refine KP.out.mono ?_)
  rintro e W1 ⟨rfl, hb1⟩
  have P1 : PrS w f W1.heap.size [] (W1.alloc (.cells #[.pointer none, .slice none 0 0] 52)) := by
    have h1 := hb1.size
    rw [World.size_alloc] at h1
    refine ⟨.inl ⟨Nat.le_refl _, .slice none 0 0, World.alloc_heap_new W1 _, World.ownsRow_nil _ _ _ _, by simp [Value.ownBlock]⟩, (hb0.out.trans (hb1.mono hb0.out.size)).alloc (by omega) _, ?_, by omega⟩
    exact (hbox.out.below hb1 hbox.out.lt).alloc _
  clear hb1 hb0 hbox KP
  obtain ⟨c0, c1, c2, c3, c4⟩ := P1.cells
  have K1 := line_one P1 ⟨#[102, 117, 110, 99]⟩ f.nm (by simp only [List.length_nil]; omega)
  rw [World.size_alloc] at K1
  replace P1 := Lib.hid P1
  go_wp2_with (go_at_call 15; refine K1.mono ?_)
  clear c0 c1 c2 c3 c4 K1 P1
  rintro e W2 ⟨rfl, P2⟩
  rw [List.nil_append] at P2
  obtain ⟨c0, c1, c2, c3, c4⟩ := P2.cells
  have K2 := line_old P2 ⟨#[114, 101, 103, 115]⟩ (c := f.vc) hf.out.vr (by omega) (by omega)
  replace P2 := Lib.hid P2
  go_wp2_with (go_at_call 15; refine K2.mono ?_)
  clear c0 c1 c2 c3 c4 K2 P2
  rintro e W3 ⟨rfl, P3⟩
  obtain ⟨c0, c1, c2, c3, c4⟩ := P3.cells
  have K3 := hKN.out W3 P3.old
  replace P3 := Lib.hid P3
  go_wp2_with (go_at_call 16; refine K3.mono ?_)
  clear c0 c1 c2 c3 c4 K3
  rintro e W4 ⟨bn, rfl, hbn, hcn, hb4⟩
  have P4 := P3.out.below hb4
  obtain ⟨c0, c1, c2, c3, c4⟩ := P4.cells
  have K4 := line_row P4 ⟨#[112, 97, 114, 97, 109, 115]⟩ (c := f.ps.length) hcn (by have := P3.out.txt.lt; omega) (by simp only [List.length_append]; omega) (by rw [List.length_map]; omega)
  rw [List.length_map] at K4
  clear hbn hcn hb4 P3
  replace P4 := Lib.hid P4
  go_wp2_with (go_at_call 15; refine K4.mono ?_)
  clear c0 c1 c2 c3 c4 K4 P4
  rintro e W5 ⟨rfl, P5⟩
  obtain ⟨c0, c1, c2, c3, c4⟩ := P5.cells
  have K5 := line_one P5 ⟨#[114, 101, 115, 117, 108, 116]⟩ f.res (by simp only [List.length_append]; omega)
  replace P5 := Lib.hid P5
  go_wp2_with (go_at_call 15; refine K5.mono ?_)
  clear c0 c1 c2 c3 c4 K5 P5
  rintro e W6 ⟨rfl, P6⟩
  obtain ⟨c0, c1, c2, c3, c4⟩ := P6.cells
  replace P6 : PrS w f W1.heap.size (headT f) W6 := P6
  generalize W1.heap.size = T at *
  clear s3
  have hT : textF f = headT f ++ f.bl.flatMap blkT ++ lineB ⟨#[101, 110, 100]⟩ [] := rfl
  generalize headT f = H at *
  replace hT := Lib.hid hT
  go_wp2
  clear c0 c1 c2 c3 c4
  have hbls : Hid (∀ W, Below w.heap.size w W → BlksL W f.ba f.bl) := Lib.hid fun W hb => hf.out.bl.below hb
  replace hcells := trivial
  generalize f.ba = ba at *
  go_loopw [30] (fun i wr => ∃ k : Nat, k ≤ f.bl.length ∧ i = .int .i64 k ∧ PrS w f T (H ++ (f.bl.take k).flatMap blkT) wr) (fun i _ => f.bl.length - (intOf i).toNat)
  case atStart => exact ⟨0, Nat.zero_le _, rfl, by simpa using P6⟩
  case round =>
    clear P6
    obtain ⟨k, hk, rfl, P⟩ := hrel
    have k0 : (0 : Int) ≤ k := Int.natCast_nonneg _
    by_cases hlt : k < f.bl.length
    · obtain ⟨b, hb⟩ : ∃ b, f.bl[k]? = some b := ⟨f.bl[k], by rw [List.getElem?_eq_getElem hlt]⟩
      obtain ⟨bb, o, rfl, hc⟩ := hbls.out wr P.old k b hb
      have hbm := Lib.hid (List.mem_of_getElem? hb)
      have hfl := flat_le blkT f.bl (k + 1)
      have hft := flat_take blkT f.bl k b hb
      rw [hft, List.length_append] at hfl
      have hbe : blkT b = lineB ⟨#[98, 108, 111, 99, 107]⟩ [] ++ b.l.flatMap insT := rfl
      rw [hbe] at hft hfl
      rw [List.length_append] at hfl
      have hi : IntKind.i64.wrap ((k : Int) + 1) = k + 1 := IntWalk.i64_in _ (by omega)
      have k1 : (k : Int) < f.bl.length := by omega
      have hll := hil.out b hbm.out
      have hins := Lib.hid (fun W (hb : Below w.heap.size w W) => (hf.out.ins b hbm.out).below hb)
      have hKb := Lib.hid (fun W y (hb : Below w.heap.size w W) (hy : y ∈ b.l) => hKW.out W b y hb hbm.out hy)
      have hgb := Lib.hid (fun y (hy : y ∈ b.l) => hgood.out b y hbm.out hy)
      clear hbe hb
      obtain ⟨a, c, l⟩ := b
      dsimp only at hc hfl hft hll hins hKb hgb
      replace hft := Lib.hid hft
      have K1 := line_none P ⟨#[98, 108, 111, 99, 107]⟩ (by simp only [List.length_append]; omega)
      replace P := Lib.hid P
      go_wp2_with (go_at_call 15; refine K1.mono ?_)
      clear hc K1 P
      rintro e W2 ⟨rfl, P2⟩
      have hlen : (H ++ (f.bl.take k).flatMap blkT ++ lineB ⟨#[98, 108, 111, 99, 107]⟩ []).length + (l.flatMap insT).length + 4 ≤ 4294967296 := by simp only [List.length_append]; omega
      replace hft : Hid (H ++ (f.bl.take (k + 1)).flatMap blkT = H ++ (f.bl.take k).flatMap blkT ++ lineB ⟨#[98, 108, 111, 99, 107]⟩ [] ++ l.flatMap insT) := Lib.hid (by rw [hft.out]; simp only [List.append_assoc])
      clear hfl
      generalize H ++ (f.bl.take k).flatMap blkT ++ lineB ⟨#[98, 108, 111, 99, 107]⟩ [] = H2 at *
      go_wp2
      go_loopw [37] (fun i wr => ∃ m : Nat, m ≤ l.length ∧ i = .int .i64 m ∧ PrS w f T (H2 ++ (l.take m).flatMap insT) wr) (fun i _ => l.length - (intOf i).toNat)
      case atStart => exact ⟨0, Nat.zero_le _, rfl, by simpa using P2⟩
      case round =>
        clear P2
        obtain ⟨m, hm, rfl, P⟩ := hrel
        have m0 : (0 : Int) ≤ m := Int.natCast_nonneg _
        by_cases hmt : m < l.length
        · obtain ⟨y, hy⟩ : ∃ y, l[m]? = some y := ⟨l[m], by rw [List.getElem?_eq_getElem hmt]⟩
          have hym := Lib.hid (List.mem_of_getElem? hy)
          obtain ⟨b2, o2, rfl, hc⟩ := hins.out wr P.old m y hy
          obtain ⟨x0, x1, x2, x3, x4, x5, x6, x7, x8⟩ := insl_cells hc
          have K1 := hKb.out (wr.alloc (.cells y.1.cells 25)) y (P.old.alloc P.old.size _) hym.out
          have hfl := flat_le insT l (m + 1)
          have hft := flat_take insT l m y hy
          rw [hft, List.length_append] at hfl
          replace hft := Lib.hid hft
          have hi2 : IntKind.i64.wrap ((m : Int) + 1) = m + 1 := IntWalk.i64_in _ (by omega)
          have m1 : (m : Int) < l.length := by omega
          have P0 := Lib.hid (P.alloc (.cells y.1.cells 25))
          have hTw := P.txt.lt
          replace P := Lib.hid P
          clear hc hy
          unfold InsV.cells at K1 P0
          go_wp2_with (go_at_call 17; refine K1.mono ?_)
          clear x0 x1 x2 x3 x4 x5 x6 x7 x8 K1
          intro e W3 hW
          obtain ⟨hb3, x, r, g, c', hw, rfl, hcc, hrow⟩ := insB_ok (hgb.out y hym.out) hW
          have P3 := P0.out.below hb3
          have hgT : g ≠ T := by
            have := ownsRow_up hrow (g := g) rfl
            simp at this
            omega
          have hc0 : W3.cell? ⟨g, 0, none⟩ = some (.string x) := by
            obtain ⟨b4, o4, h4, h5⟩ := strsL_row hrow 0 x rfl
            cases h4
            exact h5
          have hit := insT_at hw
          rw [hit, line_len] at hfl
          rw [hit] at hft
          have hxs : (⟨#[32, 32]⟩ ++ x : ByteArray).size = 2 + x.size := by rw [ByteArray.size_append]; rfl
          rw [hxs] at hfl
          have hml : r.length ≤ 4294967296 := by
            have h9 : ∀ (q : List ByteArray), q.length ≤ (moreB q).length := fun q => by
              induction q with
              | nil => exact Nat.zero_le _
              | cons a t ih => unfold moreB at ih ⊢; simp only [List.flatMap_cons, List.length_append, List.length_cons]; omega
            have := h9 r
            omega
          have hadd : ¬ 9223372036854775807 < (⟨#[32, 32]⟩ : ByteArray).size + x.size := by
            have : (⟨#[32, 32]⟩ : ByteArray).size = 2 := rfl
            omega
          have hadd2 : ¬ 9223372036854775807 < 2 + x.size := by omega
          have K2 := line_tail P3.drew (⟨#[32, 32]⟩ ++ x) (c' := c' - 1) hrow hgT rfl hcc (by rw [line_len, hxs]; simp only [List.length_append]; omega) hml
          obtain ⟨n, hn⟩ : ∃ n, n = r.length + 1 := ⟨_, rfl⟩
          have hr1 : r.length = n - 1 := by omega
          rw [hr1] at K2
          rw [← hn]
          have n1 : (1 : Int) ≤ n := by omega
          have n2 : (n : Int) ≤ c' := by omega
          have n3 : (1 : Int) ≤ c' := by omega
          have n4 : (0 : Int) < n := by omega
          have n5 : 0 < n := by omega
          have n6 : n ≠ 0 := by omega
          have n7 : 1 ≤ n := by omega
          have n8 : 1 ≤ c' := by omega
          have n9 : n ≤ c' := by omega
          replace hn := Lib.hid hn
          replace hr1 := Lib.hid hr1
          replace P3 := Lib.hid P3
          clear hfl hrow hW hb3 hw hit hxs hml hcc
          have hcc1 : c' = 1 ∨ ¬ c' = 1 := by omega
          rcases hcc1 with hcc1 | hcc1
          · rw [if_pos hcc1] at K2
            subst hcc1
            obtain rfl : n = 1 := by omega
            simp only [Nat.sub_self] at K2
            clear n1 n2 n3 n4 n5 n6 n7 n8 n9
            go_wp2
            go_region_held3 (fun w' => w'.cell? ⟨g, 0, none⟩ = some (.string x))
              (first | assumption | go_keep)
              ((go_at_call 15; refine K2.mono ?_; rintro e W4 ⟨rfl, P4, hc4⟩))
            have hP4 : PrS w f T (H2 ++ (l.take (m + 1)).flatMap insT) W4 := by rw [hft.out, ← List.append_assoc]; exact P4
            replace hP4 := Lib.hid hP4
            clear P4 hc4
            go_wp2
            exact ⟨⟨m + 1, by omega, by go_num, hP4.out⟩, by simp [intOf]; omega⟩
          · rw [if_neg hcc1] at K2
            go_wp2
            go_region_held3 (fun w' => w'.cell? ⟨g, 0, none⟩ = some (.string x))
              (first | assumption | go_keep)
              ((go_at_call 15; refine K2.mono ?_; rintro e W4 ⟨rfl, P4, hc4⟩))
            have hP4 : PrS w f T (H2 ++ (l.take (m + 1)).flatMap insT) W4 := by rw [hft.out, ← List.append_assoc]; exact P4
            replace hP4 := Lib.hid hP4
            clear P4 hc4
            go_wp2
            exact ⟨⟨m + 1, by omega, by go_num, hP4.out⟩, by simp [intOf]; omega⟩
        · obtain rfl : m = l.length := by omega
          rw [List.take_length] at P
          replace P : PrS w f T (H ++ (f.bl.take (k + 1)).flatMap blkT) wr := by rw [hft.out]; exact P
          replace P := Lib.hid P
          go_wp2
          exact ⟨⟨k + 1, by omega, by go_num, P.out⟩, by simp [intOf]; omega⟩
    · obtain rfl : k = f.bl.length := by omega
      rw [List.take_length] at P
      have K1 := line_none P ⟨#[101, 110, 100]⟩ (by simp only [List.length_append]; omega)
      replace P := Lib.hid P
      go_wp2_with (go_at_call 15; refine K1.mono ?_)
      clear K1 P
      rintro e W2 ⟨rfl, P2⟩
      have K2 := txt_string T T _ W2 P2.txt (by simp [lineB]) (by simp only [List.length_append]; omega)
      have hfin := Lib.hid (fun V (hb : Below T W2 V) => P2.old.trans (hb.mono (Nat.le_of_lt P2.up)))
      clear P2
      go_wp2_with (go_at_call 18; refine K2.mono ?_)
      rintro e W3 ⟨rfl, hb3⟩
      go_wp2
      go_ret
      exact ⟨by rw [hT.out]; simp only [List.append_assoc]; rfl, hfin.out _ hb3⟩
end Go.Proofs.YtfnfijgknjnccaaGreatDoor
