/-
  geom's 'add': a register that can be there is taken.
-/
import Derived.Test.YtgnnipnnnebpiaaGreatDoorGeoC
import Derived.Test.YtgnnipnnnebpiaaGreatDoorGrow
import Derived.Test.YtgnnipnnnebpiaaGreatDoorDescB
import Derived.Deep.AppendLies
import Derived.Deep.RegionLaw
namespace Go.Proofs.YtgnnipnnnebpiaaGreatDoor
open Go.RowKit

theorem Tryz.infoStr : (Tryz.prog.info? 9).map (fun i => (i.zero, i.size, i.bytes)) = some (some (.string ⟨#[]⟩), 1, 16) := by kernel_rfl
theorem Tryz.infoPlace : (Tryz.prog.info? 34).map (fun i => (i.zero, i.size, i.bytes)) = some (some (.agg #[.int .i64 0, .int .i64 0, .int .i64 0]), 3, 24) := by kernel_rfl

/-- 'slices.Contains(t.names, nm)' where nm is not among them. -/
theorem contains_no (base k : Nat) (nV : Value) (ns : List ByteArray) (nm : ByteArray) (w : World) (hk : ns.length = k) (hsz : k ≤ 200) (hown : w.ownsRow base 9 1 nV k (ns.map Value.string)) (hno : nm ∉ ns) :
    Calls Tryz.prog 24 #[nV, .string nm] w fun e w' => e = .returned (.bool false) ∧ w = w' := by
  rcases hown.2 with ⟨rfl, _⟩ | ⟨g, cap, cur, rfl, _, _, _, hcap, _, _⟩
  · exact (Tryz.slices_Contains_string_empty none 0 nm w).mono fun e w' ⟨he, hw⟩ => ⟨he, hw.symm⟩
  · refine (Tryz.slices_Contains_string g 0 k cap ns nm w (by omega) (by omega) (fun j hj => ?_)).mono fun e w' ⟨he, hw⟩ => ⟨?_, hw.symm⟩
    · rw [Nat.zero_add]
      refine ownsRow_cell hown ?_
      rw [List.getElem?_map, List.getElem?_eq_getElem hj, List.getD_eq_getElem?_getD, List.getElem?_eq_getElem hj]; rfl
    · rw [he, ← hk, List.take_length]
      refine ret_bool ?_
      have := Lib.containsS_iff ns nm
      cases h : Lib.containsS ns nm with
      | false => rfl
      | true => exact absurd (this.1 h) hno

/-- The cells of places. -/
def placeCells (ps : List (Int × Int × Int)) : List Value := ps.flatMap fun p => [.int .i64 p.1, .int .i64 p.2.1, .int .i64 p.2.2]

/-- What has been taken: names and places, in the two cells of block T. -/
def Taken (base T : Nat) (ns : List ByteArray) (ps : List (Int × Int × Int)) (W : World) : Prop :=
  ∃ nV pV, Cells W T 46 #[nV, pV] ∧ W.ownsRow base 9 1 nV ns.length (ns.map Value.string) ∧ W.ownsRow base 34 3 pV ps.length (placeCells ps)

def AddPost (base T : Nat) (ns : List ByteArray) (ps : List (Int × Int × Int)) (w w' : World) : Prop :=
  Taken base T ns ps w' ∧ Keeps [T] w w' ∧ KeepsOthers w w' ∧ Below base w w'

theorem keepsOthers_of_below {W W' : World} (hb : Below W.heap.size W W') : KeepsOthers W W' := ⟨hb.size, fun i _ hi _ => (hb.block i (lt_of_heap hi)).trans hi⟩

theorem add_close {base T k : Nat} {ns : List ByteArray} {ps : List (Int × Int × Int)} {nm : ByteArray} {root x wd : Int} {nV pV n' p' : Value} {w w0 W4 W7 W10 : World}
    (hb0 : Below w.heap.size w w0) (hB4 : Below w0.heap.size w0 W4) (hG1 : Grown base T 0 46 9 1 #[nV, pV] n' (k + 1) (ns.map Value.string ++ [.string nm]) W4 W7)
    (hG2 : Grown base T 1 46 34 3 #[n', pV] p' (k + 1) (placeCells ps ++ [.int .i64 root, .int .i64 x, .int .i64 wd]) W7 W10)
    (hbT : base ≤ T) (hlt : T < w.heap.size) (hkn : ns.length = k) (hps : ps.length = ns.length) : AddPost base T (ns ++ [nm]) (ps ++ [(root, x, wd)]) w W10 := by
  have hbase : base ≤ w.heap.size := by omega
  refine ⟨⟨n', p', hG2.cells, ?_, ?_⟩, ((Keeps.of_below hb0).trans (Keeps.of_below hB4)).trans (hG1.keeps.trans hG2.keeps), ((keepsOthers_of_below hb0).trans (keepsOthers_of_below hB4)).trans (hG1.others.trans hG2.others),
    (((hb0.mono hbase).trans (hB4.mono (Nat.le_trans hbase hb0.size))).trans hG1.below).trans hG2.below⟩
  · have := hG2.rows _ _ _ _ _ hG1.row (by decide) (by decide)
    rw [List.length_append, hkn, List.map_append]; exact this
  · have := hG2.row
    rw [List.length_append, hps, hkn]
    have e : placeCells (ps ++ [(root, x, wd)]) = placeCells ps ++ [.int .i64 root, .int .i64 x, .int .i64 wd] := by simp [placeCells]
    rw [e]; exact this

set_option maxRecDepth 100000 in
set_option maxHeartbeats 8000000 in
theorem add_ok (base T : Nat) (ns : List ByteArray) (ps : List (Int × Int × Int)) (nm : ByteArray) (wd at_ deep root aAt aW : Int) (sv av : Value) (l : List RegD) (w : World)
    (hE : Env w) (hN : IsName nm) (hW : NotWord nm) (hno : nm ∉ ns) (hps : ps.length = ns.length) (hk : ns.length < 200) (hT : Taken base T ns ps w) (hbT : base ≤ T) (hd : deep ≤ 6)
    (hsz : l.length ≤ 200) (hl : AheadIs w av l) (h1 : 0 ≤ aAt) (h2 : aAt ≤ 500) (h3 : 0 ≤ at_) (h4 : at_ ≤ 500) (h9 : 1 ≤ wd) (h10 : wd ≤ 64) (h5 : aW ≤ 1000) (hf : at_ + wd ≤ aW)
    (hr : ∀ r, r ∈ l → r.small ∧ lapB (aAt + r.at_) r.wd (aAt + at_) wd = false) :
    Calls Tryz.prog 15 #[.pointer (some ⟨T, 0, none⟩), .agg #[.string nm, .int .i64 wd, .int .i64 at_, sv, .int .i64 deep, .int .i64 root, .int .i64 aAt, .int .i64 aW, av]] w fun e w' =>
      e = .returned (.tuple #[]) ∧ AddPost base T (ns ++ [nm]) (ps ++ [(root, aAt + at_, wd)]) w w' := by
  obtain ⟨nV, pV, hTc, hn, hp⟩ := hT
  obtain ⟨k, hkn⟩ : ∃ k, ns.length = k := ⟨_, rfl⟩
  rw [hkn] at hn hk
  rw [hps, hkn] at hp
  have hkn := Lib.hid hkn
  have hps := Lib.hid hps
  obtain ⟨na, ncap, rfl⟩ := ownsRow_form hn
  obtain ⟨pa, pcap, rfl⟩ := ownsRow_form hp
  obtain ⟨w0, hw0⟩ : ∃ w0, w0 = w.alloc (.cells #[.string nm, .int .i64 wd, .int .i64 at_, sv, .int .i64 deep, .int .i64 root, .int .i64 aAt, .int .i64 aW, av] 51) := ⟨_, rfl⟩
  have hb0 : Below w.heap.size w w0 := by rw [hw0]; exact (Below.refl _ _).alloc (Nat.le_refl _) _
  have hs0 : Cells w0 w.heap.size 51 #[.string nm, .int .i64 wd, .int .i64 at_, sv, .int .i64 deep, .int .i64 root, .int .i64 aAt, .int .i64 aW, av] := by rw [hw0]; exact Cells.new _ _ _
  have hTc0 := hTc.below hb0 hTc.lt
  have hk2 : (((k : Nat) : Int) == 200) = false := by simp; omega
  -- the callees
  have C1 : ∀ W, Below w0.heap.size w0 W → Calls Tryz.prog 23 #[.string nm] W fun e w' => e = .returned (.bool true) ∧ Below W.heap.size W w' := fun W hb => geomIsName_yes nm W ((hE.below hb0).below hb) hN hW
  have C2 : ∀ W, Below w0.heap.size w0 W → Calls Tryz.prog 24 #[.slice na k ncap, .string nm] W fun e w' => e = .returned (.bool false) ∧ W = w' := fun W hb =>
    contains_no base k _ ns nm W hkn.out (by omega) (ownsRow_below (ownsRow_below hn hb0) hb) hno
  have C3 := fun W => fits_yes nm wd at_ deep root aAt aW sv av W h9 h10 h3 (by omega) h5 hf
  have C4 : ∀ W, Below w0.heap.size w0 W → Calls Tryz.prog 26 #[.agg #[.string nm, .int .i64 wd, .int .i64 at_, sv, .int .i64 deep, .int .i64 root, .int .i64 aAt, .int .i64 aW, av]] W fun e w' => e = .returned (.bool false) ∧ Below W.heap.size W w' := fun W hb =>
    laps_no nm wd at_ deep root aAt aW sv av l W hsz ((hl.below hb0).below hb) h1 h2 h3 h4 h9 (by omega) hr
  -- what is read on the way
  have hread : ∀ W, Below w0.heap.size w0 W → (W.cell? ⟨w.heap.size, 0, none⟩ = some (.string nm) ∧ W.cell? ⟨w.heap.size, 1, none⟩ = some (.int .i64 wd) ∧ W.cell? ⟨w.heap.size, 2, none⟩ = some (.int .i64 at_) ∧ W.cell? ⟨w.heap.size, 3, none⟩ = some sv ∧
      W.cell? ⟨w.heap.size, 4, none⟩ = some (.int .i64 deep) ∧ W.cell? ⟨w.heap.size, 5, none⟩ = some (.int .i64 root) ∧ W.cell? ⟨w.heap.size, 6, none⟩ = some (.int .i64 aAt) ∧ W.cell? ⟨w.heap.size, 7, none⟩ = some (.int .i64 aW) ∧ W.cell? ⟨w.heap.size, 8, none⟩ = some av ∧
      W.cell? ⟨T, 0, none⟩ = some (.slice na k ncap) ∧ W.cell? ⟨T, 1, none⟩ = some (.slice pa k pcap)) := fun W hb => by
    have a := hs0.below hb hs0.lt
    have b := hTc0.below hb hTc0.lt
    exact ⟨a.cell rfl, a.cell rfl, a.cell rfl, a.cell rfl, a.cell rfl, a.cell rfl, a.cell rfl, a.cell rfl, a.cell rfl, b.cell rfl, b.cell rfl⟩
  have hR0 := hread w0 (Below.refl _ _)
  rw [hw0] at hR0
  obtain ⟨r0, r1, r2, r3, r4, r5, r6, r7, r8, r9, r10⟩ := hR0
  go_enter Tryz.func15, Tryz.ntmps15
  go_wp2_with fail
  rw [← hw0]
  clear r0 r1 r2 r3 r4 r5 r6 r7 r8 r9 r10 hw0
  obtain ⟨r0, r1, r2, r3, r4, r5, r6, r7, r8, r9, r10⟩ := hread w0 (Below.refl _ _)
  go_region_held3 (fun w' => w'.cell? ⟨w.heap.size, 0, none⟩ = some (.string nm) ∧ w'.cell? ⟨w.heap.size, 1, none⟩ = some (.int .i64 wd) ∧ w'.cell? ⟨w.heap.size, 2, none⟩ = some (.int .i64 at_) ∧ w'.cell? ⟨w.heap.size, 3, none⟩ = some (sv) ∧ w'.cell? ⟨w.heap.size, 4, none⟩ = some (.int .i64 deep) ∧ w'.cell? ⟨w.heap.size, 5, none⟩ = some (.int .i64 root) ∧ w'.cell? ⟨w.heap.size, 6, none⟩ = some (.int .i64 aAt) ∧ w'.cell? ⟨w.heap.size, 7, none⟩ = some (.int .i64 aW) ∧ w'.cell? ⟨w.heap.size, 8, none⟩ = some (av) ∧ w'.cell? ⟨T, 0, none⟩ = some (.slice na k ncap) ∧ w'.cell? ⟨T, 1, none⟩ = some (.slice pa k pcap))
    (go_keep)
    ((first
      | (go_at_call 23; refine (C1 _ ((Below.refl _ _).drew)).mono ?_; clear C1; rintro e W1 ⟨rfl, hb⟩; have hB1 : Below w0.heap.size w0 W1 := ((Below.refl _ _).drew).trans hb; have hR1 := hread W1 hB1)
      | (go_at_call 24; refine (C2 _ hB1).mono ?_; clear C2; rintro e W2 ⟨rfl, rfl⟩)))
  clear r0 r1 r2 r3 r4 r5 r6 r7 r8 r9 r10
  go_wp2_with (first
    | (go_at_call 25; refine (C3 _).mono ?_; clear C3; rintro e W3 ⟨rfl, hb3⟩; have hB3 := hB1.trans (hb3.mono hB1.size); have hR3 := hread W3 hB3; clear hR1)
    | (go_at_call 26; refine (C4 _ hB3).mono ?_; clear C4; rintro e W4 ⟨rfl, hb4⟩; have hB4 := hB3.trans (hb4.mono hB3.size); have hR4 := hread W4 hB4; clear hR3))
  have C5 := fun W => clone_any nm W (by have := hN.le; omega)
  obtain ⟨q0, q1, q2, q3, q4, q5, q6, q7, q8, q9, q10⟩ := hR4
  have hn4 : W4.ownsRow base 9 1 (.slice na k ncap) k (ns.map Value.string) := ownsRow_below (ownsRow_below hn hb0) hB4
  have hT4 := (hTc0.below hB4 hTc0.lt)
  have hf0 := hT4.frozen 0
  have hf1 := hT4.frozen 1
  have ht4 := hT4.lt
  have hnr := hT4.not_row (by decide) hn4
  obtain ⟨i0, hi, hz0, hz1, hz2⟩ := info_parts Tryz.infoStr
  have hnew := World.new_ne W4 _ q9
  have hs4 := hs0.below hB4 hs0.lt
  have hs4lt := hs4.lt
  go_region_law (first
    | (refine step_append_lies _ (by rfl) _ _ _ (by rfl) base 9 i0 _ 1 16 Tryz.underlying27 hi hz0 hz1 hz2 rfl (by omega) (.slice na k ncap) k (ns.map Value.string) (by rfl) ((ownsRow_below hn4 hB5).alloc _)
        ⟨W5.heap.size, 0, none⟩ 1 1 [.string nm] (by rfl) (by rfl) (World.news_of_block (cs := #[.string nm]) (t := 9) (fr := (0, 0)) (heap_alloc_new W5 _)) (by simp [Value.oneCell'])
        (by omega) (by unfold maxLen; omega) (by omega) (by simp; have := hB5.size; omega) (W5.heap.size + 1) (by simp) ?_; intro gg gcap W6 hown1 hgrow hat hlt; have hT6 := ((hT4.below hB5 ht4).alloc _).kept hgrow hnr; have f6 := hT6.frozen 0; have c6 := hT6.cell (j := 0) rfl)
    | (go_simp; go_at_call 27; refine (C5 _).mono ?_; clear C5; rintro e W5 ⟨rfl, hb5⟩; have hB5 : Below W4.heap.size W4 W5 := ((Below.refl _ _).drew).trans hb5; have p0 := cell_below hB5 q0; have p9 := cell_below hB5 q9; have pa9 := fun o => cell_alloc o p9))
  all_goals
    have hG1 := append_step (v := .slice na k ncap) hT4 (j := 0) rfl (by decide) hbT hB5 hn4 hown1 hgrow (hat.elim (fun h => .inl (by rw [h]; rfl)) (fun h => .inr (by rw [h]; simp [Value.ownBlock])))
    clear hT6 f6 c6 hown1 hgrow hat hlt p0 p9 pa9 q0 q1 q2 q3 q4 q5 q6 q7 q8 q9 q10 hf0 hf1 hnew hs4lt hnr hB5 hb5 hi hz0 hz1 hz2 hk2
    generalize W6.setCell ⟨T, 0, none⟩ (.slice (some ⟨gg, 0, none⟩) (k + 1) gcap) = W7 at hG1 ⊢
    have hT7 : Cells W7 T 46 #[.slice (some ⟨gg, 0, none⟩) (k + 1) gcap, .slice pa k pcap] := hG1.cells
    have hs7 := hG1.block _ _ _ hs4 (by have := hTc.lt; omega) (by decide)
    have hp7 := hG1.rows _ _ _ _ _ (ownsRow_below (ownsRow_below hp hb0) hB4) (by decide) (by decide)
    have hn7 := hG1.row
    have hW07 : w.heap.size < W7.heap.size := hs7.lt
    have hbase7 : base ≤ W7.heap.size := Nat.le_trans hbT (Nat.le_of_lt hT7.lt)
    have q0 := hs7.cell (j := 0) (v := .string nm) rfl
    have q1 := hs7.cell (j := 1) (v := .int .i64 wd) rfl
    have q2 := hs7.cell (j := 2) (v := .int .i64 at_) rfl
    have q3 := hs7.cell (j := 3) (v := sv) rfl
    have q5 := hs7.cell (j := 5) (v := .int .i64 root) rfl
    have q6 := hs7.cell (j := 6) (v := .int .i64 aAt) rfl
    have q7 := hs7.cell (j := 7) (v := .int .i64 aW) rfl
    have qT := hT7.cell (j := 1) (v := .slice pa k pcap) rfl
    have C6 := fun W => in_any root aAt aW wd at_ nm sv W h1 (by omega) h3 (by omega)
    obtain ⟨i0, hi, hz0, hz1, hz2⟩ := info_parts Tryz.infoPlace
    go_wp2_with fail
    go_region_law (first
      | (refine step_append_lies _ (by rfl) _ _ _ (by rfl) base 34 i0 _ 3 24 Tryz.underlying28 hi hz0 hz1 hz2 rfl (by omega) (.slice pa k pcap) k (placeCells ps) (by rfl) ((ownsRow_below hp7 hB8).alloc _)
          ⟨W8.heap.size, 0, none⟩ 1 1 [.int .i64 root, .int .i64 (aAt + at_), .int .i64 wd] (by rfl) (by rfl) (World.news_of_block (cs := #[.int .i64 root, .int .i64 (aAt + at_), .int .i64 wd]) (t := 34) (fr := (0, 0)) (heap_alloc_new W8 _)) (by simp [Value.oneCell'])
          (by omega) (by unfold maxLen; omega) (by omega) (by simp; have := hB8.size; omega) (W8.heap.size + 1) (by simp) ?_; intro gg2 gcap2 W9 hown1 hgrow hat hlt; have hT9 := ((hT7.below hB8 hT7.lt).alloc _).kept hgrow (hT7.not_row (by decide) hp7); have f9 := hT9.frozen 1; have c9 := hT9.cell (j := 1) (v := .slice pa k pcap) rfl)
      | (go_simp; go_at_call 28; refine (C6 _).mono ?_; clear C6; rintro e W8 ⟨rfl, hb8⟩; have hB8 : Below W7.heap.size W7 W8 := ((Below.refl _ _).drew).trans hb8; have p9 := cell_below hB8 qT; have pa9 := fun o => cell_alloc o p9))
  all_goals
    have hG2 := append_step (v := .slice pa k pcap) hT7 (j := 1) rfl (by decide) hbT hB8 hp7 hown1 hgrow (hat.elim (fun h => .inl (by rw [h]; rfl)) (fun h => .inr (by rw [h]; simp [Value.ownBlock])))
    go_end0
    exact ⟨rfl, add_close hb0 hB4 hG1 hG2 hbT hTc.lt hkn.out hps.out⟩
end Go.Proofs.YtgnnipnnnebpiaaGreatDoor
