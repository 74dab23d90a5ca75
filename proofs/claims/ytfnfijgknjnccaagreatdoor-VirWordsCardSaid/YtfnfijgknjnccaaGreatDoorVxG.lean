/-
  vir's reader: what it has so far; a line behind the first four.
-/
import Derived.Test.YtfnfijgknjnccaaGreatDoorVxF
import Derived.Test.YtfnfijgknjnccaaGreatDoorVwT
namespace Go.Proofs.YtfnfijgknjnccaaGreatDoor
open Go.RowKit Go.Sort
theorem Stays.row {ts : List TypeId} {W W' : World} (h : Stays ts W W') {base : Nat} {e : TypeId} {size k : Nat} {v : Value} {xs : List Value} (hr : W.ownsRow base e size v k xs) (he : e ∉ ts) : W'.ownsRow base e size v k xs := by
  refine ⟨hr.1, ?_⟩
  rcases hr.2 with h0 | ⟨g, cap, cur, hv, hb, hg, rest⟩
  · exact .inl h0
  · exact .inr ⟨g, cap, cur, hv, hb, h.block g e cur he hg, rest⟩
/-- An instruction without where its arguments lie. -/
def strip (y : InsX) : InsX := ({ y.1 with sa := none, sn := 0, sc := 0 }, y.2)
/-- The blocks so far: none, or one of these instructions. -/
def BlkAt (base : Nat) (bs : Option (List InsX)) (bv : Value) (W : World) : Prop := match bs with
  | none => bv = .slice none 0 0
  | some l => ∃ (g c : Nat) (ia : Option Addr) (ic : Nat) (l' : List InsX), l'.map strip = l ∧ bv = .slice (some ⟨g, 0, none⟩) 1 c ∧ W.ownsRow base 26 1 (.slice (some ⟨g, 0, none⟩) 1 c) 1 [.slice ia l'.length ic] ∧
      W.ownsRow base 25 9 (.slice ia l'.length ic) l'.length (l'.flatMap fun y => y.1.cells.toList) ∧ ∀ y, y ∈ l' → W.ownsRow base 3 1 (.slice y.1.sa y.1.sn y.1.sc) y.2.length (y.2.map (Value.int .i64)) ∧ y.1.sn = y.2.length
/-- What the reader has so far. -/
structure RdV where
  nm : ByteArray
  vr : List ByteArray
  ps : List Int
  rs : ByteArray
  bs : Option (List InsX)
  en : Bool
def RdAt (R base : Nat) (r : RdV) (W : World) : Prop := ∃ (va : Option Addr) (vc : Nat) (pa : Option Addr) (pc : Nat) (bv : Value),
  Cells W R 42 #[.string r.nm, .slice va r.vr.length vc, .slice pa r.ps.length pc, .string r.rs, bv, .bool r.en] ∧
  W.ownsRow base 9 1 (.slice va r.vr.length vc) r.vr.length (r.vr.map Value.string) ∧ W.ownsRow base 3 1 (.slice pa r.ps.length pc) r.ps.length (r.ps.map (Value.int .i64)) ∧ BlkAt base r.bs bv W
theorem BlkAt.stays {base : Nat} {bs : Option (List InsX)} {bv : Value} {ts : List TypeId} {W V : World} (h : BlkAt base bs bv W) (hs : Stays ts W V) (h1 : 26 ∉ ts) (h2 : 25 ∉ ts) (h3 : 3 ∉ ts) : BlkAt base bs bv V := by
  cases bs with
  | none => exact h
  | some l =>
    obtain ⟨g, c, ia, ic, l', e1, e2, r1, r2, r3⟩ := h
    exact ⟨g, c, ia, ic, l', e1, e2, hs.row r1 h1, hs.row r2 h2, fun y hy => ⟨hs.row (r3 y hy).1 h3, (r3 y hy).2⟩⟩
theorem RdAt.stays {R base : Nat} {r : RdV} {ts : List TypeId} {W V : World} (h : RdAt R base r W) (hs : Stays ts W V) (h0 : 42 ∉ ts) (h1 : 26 ∉ ts) (h2 : 25 ∉ ts) (h3 : 3 ∉ ts) (h4 : 9 ∉ ts) : RdAt R base r V := by
  obtain ⟨va, vc, pa, pc, bv, r1, r2, r3, r4⟩ := h
  exact ⟨va, vc, pa, pc, bv, hs.block _ _ _ h0 r1, hs.row r2 h4, hs.row r3 h3, r4.stays hs h1 h2 h3⟩
theorem RdAt.below {R base : Nat} {r : RdV} {W V : World} (h : RdAt R base r W) (hb : Below W.heap.size W V) : RdAt R base r V :=
  h.stays (ts := []) (Stays.of_below hb) (by simp) (by simp) (by simp) (by simp) (by simp)
theorem BlkAt.only {S : Nat → Prop} {base : Nat} {bs : Option (List InsX)} {bv : Value} {W V : World} (h : BlkAt base bs bv W) (ho : Only S W V) (hb : ∀ g, base ≤ g → ¬ S g) : BlkAt base bs bv V := by
  cases bs with
  | none => exact h
  | some l =>
    obtain ⟨g, c, ia, ic, l', e1, e2, r1, r2, r3⟩ := h
    exact ⟨g, c, ia, ic, l', e1, e2, ho.row r1 hb, ho.row r2 hb, fun y hy => ⟨ho.row (r3 y hy).1 hb, (r3 y hy).2⟩⟩
theorem RdAt.only {S : Nat → Prop} {R base : Nat} {r : RdV} {W V : World} (h : RdAt R base r W) (ho : Only S W V) (hR : ¬ S R) (hb : ∀ g, base ≤ g → ¬ S g) : RdAt R base r V := by
  obtain ⟨va, vc, pa, pc, bv, r1, r2, r3, r4⟩ := h
  exact ⟨va, vc, pa, pc, bv, ho.cells r1 hR, ho.row r2 hb, ho.row r3 hb, r4.only ho hb⟩
def rdTs : List TypeId := [42, 26, 25]
/-- What a line leaves: the reader has more; what else stands. -/
structure LineP (R base : Nat) (r : RdV) (w w' : World) : Prop where
  rd : RdAt R base r w'
  st : Stays rdTs w w'
  ko : KeepsOthers w w'
  low : ∀ B, B ≤ R → B ≤ base → B ≤ w.heap.size → Below B w w'
theorem line_set {R base j : Nat} {v : Value} {r' : RdV} {cs : Array Value} {w W1 : World} (hb : Below w.heap.size w W1) (hR : Cells w R 42 cs) (hrd : RdAt R base r' (W1.setCell ⟨R, j, none⟩ v)) : LineP R base r' w (W1.setCell ⟨R, j, none⟩ v) :=
  ⟨hrd, (Stays.of_below hb).trans (Stays.of_set (hR.below hb hR.lt) (by simp [rdTs]) j v), (KeepsOthers.of_below' hb).trans (KeepsOthers.setCell _ _ _), fun B h1 _ h3 => (hb.mono h3).setCell (p := ⟨R, j, none⟩) h1 v⟩
theorem set_stays {R j : Nat} {v : Value} {cs : Array Value} {w W1 : World} (hb : Below w.heap.size w W1) (hR : Cells w R 42 cs) : Stays [42] w (W1.setCell ⟨R, j, none⟩ v) :=
  (Stays.of_below hb).trans (Stays.of_set (hR.below hb hR.lt) (by simp) j v)
theorem line1_any {R base : Nat} {r : RdV} {nm : ByteArray} {w : World} (hE : EnvV w) (h : RdAt R base r w) (hen : r.en = false) (hN : IsName nm) :
    Calls Tryz.prog 14 #[.pointer (some ⟨R, 0, none⟩), .int .i64 1, .string (lineW [⟨#[102, 117, 110, 99]⟩, nm])] w fun e w' => e = .returned (.int .i64 0) ∧ LineP R base { r with nm := nm } w w' := by
  obtain ⟨va, vc, pa, pc, bv, r1, r2, r3, r4⟩ := h
  rw [hen] at r1
  refine (line_func hE r1 hN (name_nob hN).1).mono fun e w' ⟨he, W1, hb, hw⟩ => ⟨he, ?_⟩
  subst hw
  have hs := set_stays (j := 0) (v := .string nm) hb r1
  refine line_set hb r1 ⟨va, vc, pa, pc, bv, ?_, hs.row r2 (by decide), hs.row r3 (by decide), r4.stays hs (by decide) (by decide) (by decide)⟩
  rw [hen]
  exact (r1.below hb r1.lt).set (j := 0) (.string nm)
theorem line4_any {R base : Nat} {r : RdV} {nm : ByteArray} {w : World} (hE : EnvV w) (h : RdAt R base r w) (hen : r.en = false) (hN : IsName nm) :
    Calls Tryz.prog 14 #[.pointer (some ⟨R, 0, none⟩), .int .i64 4, .string (lineW [⟨#[114, 101, 115, 117, 108, 116]⟩, nm])] w fun e w' => e = .returned (.int .i64 0) ∧ LineP R base { r with rs := nm } w w' := by
  obtain ⟨va, vc, pa, pc, bv, r1, r2, r3, r4⟩ := h
  rw [hen] at r1
  refine (line_result hE r1 hN (name_nob hN).1).mono fun e w' ⟨he, W1, hb, hw⟩ => ⟨he, ?_⟩
  subst hw
  have hs := set_stays (j := 3) (v := .string nm) hb r1
  refine line_set hb r1 ⟨va, vc, pa, pc, bv, ?_, hs.row r2 (by decide), hs.row r3 (by decide), r4.stays hs (by decide) (by decide) (by decide)⟩
  rw [hen]
  exact (r1.below hb r1.lt).set (j := 3) (.string nm)
theorem line2_any {R base : Nat} {r : RdV} {l : List ByteArray} {w : World} (hE : EnvV w) (h : RdAt R base r w) (hRb : R < base) (hbase : base ≤ w.heap.size) (hen : r.en = false) (hN : ∀ x, x ∈ l → IsName x) (hm : (l.length : Int) ≤ 500) (hlen : (joinSp (⟨#[114, 101, 103, 115]⟩ :: l)).length ≤ 65536) :
    Calls Tryz.prog 14 #[.pointer (some ⟨R, 0, none⟩), .int .i64 2, .string (lineW (⟨#[114, 101, 103, 115]⟩ :: l))] w fun e w' => e = .returned (.int .i64 0) ∧ LineP R base { r with vr := l } w w' := by
  obtain ⟨va, vc, pa, pc, bv, r1, r2, r3, r4⟩ := h
  rw [hen] at r1
  refine (line_regs hE r1 hN (fun x hx => (name_nob (hN x hx)).1) hm hlen).mono fun e w' ⟨he, W1, a', c', hb, hrow, hw⟩ => ⟨he, ?_⟩
  subst hw
  have hs := set_stays (j := 1) (v := .slice a' l.length c') hb r1
  refine line_set hb r1 ⟨a', c', pa, pc, bv, ?_, ownsRow_setCell_below (a := ⟨R, 1, none⟩) (row_mono hrow hbase) hRb _, hs.row r3 (by decide), r4.stays hs (by decide) (by decide) (by decide)⟩
  rw [hen]
  exact (r1.below hb r1.lt).set (j := 1) (.slice a' l.length c')
theorem line3_any {R base : Nat} {r : RdV} {l : List Int} {w : World} (hE : EnvV w) (h : RdAt R base r w) (hRb : R < base) (hbase : base ≤ w.heap.size) (hen : r.en = false) (hN : ∀ x, x ∈ l → 0 ≤ x ∧ x ≤ 99999) (hm : (l.length : Int) ≤ 16) (hlen : (joinSp (⟨#[112, 97, 114, 97, 109, 115]⟩ :: l.map wordN)).length ≤ 65536) :
    Calls Tryz.prog 14 #[.pointer (some ⟨R, 0, none⟩), .int .i64 3, .string (lineW (⟨#[112, 97, 114, 97, 109, 115]⟩ :: l.map wordN))] w fun e w' => e = .returned (.int .i64 0) ∧ LineP R base { r with ps := l } w w' := by
  obtain ⟨va, vc, pa, pc, bv, r1, r2, r3, r4⟩ := h
  rw [hen] at r1
  have hin : ∀ x, x ∈ l → In64 x := fun x hx => by have := hN x hx; unfold In64; omega
  have hback : (l.map wordN).map intV = l := by
    rw [List.map_map]
    conv => rhs; rw [← List.map_id l]
    exact List.map_congr_left fun x hx => intV_word x (hin x hx)
  refine (line_params hE r1 (l := l.map wordN) (fun x hx => ?_) (fun x hx => ?_) (fun x hx => ?_) (by rw [List.length_map]; exact hm) hlen).mono fun e w' ⟨he, W1, a', c', hb, hrow, hw⟩ => ⟨he, ?_⟩
  · obtain ⟨n, hn, rfl⟩ := List.mem_map.1 hx
    have := wordN_size n (hin n hn).1 (hin n hn).2
    omega
  · obtain ⟨n, hn, rfl⟩ := List.mem_map.1 hx
    exact numB_word n (hN n hn)
  · obtain ⟨n, hn, rfl⟩ := List.mem_map.1 hx
    exact (word_nob n).1
  subst hw
  rw [List.length_map, hback] at hrow
  rw [List.length_map]
  have hs := set_stays (j := 2) (v := .slice a' l.length c') hb r1
  refine line_set hb r1 ⟨va, vc, a', c', bv, ?_, hs.row r2 (by decide), ownsRow_setCell_below (a := ⟨R, 2, none⟩) (row_mono hrow hbase) hRb _, r4.stays hs (by decide) (by decide) (by decide)⟩
  rw [hen]
  exact (r1.below hb r1.lt).set (j := 2) (.slice a' l.length c')
end Go.Proofs.YtfnfijgknjnccaaGreatDoor
