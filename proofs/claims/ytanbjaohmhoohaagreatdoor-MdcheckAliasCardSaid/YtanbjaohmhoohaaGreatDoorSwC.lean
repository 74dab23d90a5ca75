/-
  MdcheckSmall: what lies in memory of the machine, with one thing changed; what Check answers of it.
-/
import Derived.Test.YtanbjaohmhoohaaGreatDoorSwB
import Derived.Test.YtanbjaohmhoohaaGreatDoorSmJ
import Derived.Test.YtanbjaohmhoohaaGreatDoorPan
import Derived.Test.YtanbjaohmhoohaaGreatDoorSmH
namespace Go.Proofs.YtanbjaohmhoohaaGreatDoor
open Go.RowKit

/-- The machine in block B is one of which Check answers X. -/
def ChkRel (w : World) (B : Nat) (X : Int) (W : World) : Prop := Below w.heap.size w W ∧ ∃ mv : MV, Cells W B 27 mv.cells8 ∧ Calls Tryz.prog 11 #[mv.val] W fun e w' => e = .returned (.int .i64 X) ∧ Below W.heap.size W w'

structure SBase (w : World) (B N n : Nat) (v u : SlV) (W : World) : Prop where
  below : Below w.heap.size w W
  hB : w.heap.size ≤ B
  hN : w.heap.size ≤ N
  m : Cells W B 27 (smMV v N).cells8
  k : Cells W N 46 #[.string nmG, .slice u.a u.n u.c]
  regs : W.ownsRow w.heap.size 44 4 (.slice v.a v.n v.c) n (sCells n)
  names : W.ownsRow w.heap.size 9 1 (.slice u.a u.n u.c) n ((sNames n).map Value.string)
  namesB : ∀ b, (Value.slice u.a u.n u.c).ownBlock = some b → b < N
  u0 : Cells W (N + 1 + 1) 48 #[.string ⟨#[103]⟩, .string ⟨#[]⟩, .string ⟨#[103]⟩, .string ⟨#[]⟩]
  u1 : Cells W (N + 1 + 1 + 1) 48 #[.string ⟨#[103]⟩, .string ⟨#[]⟩]
  u2 : Cells W (N + 1 + 1 + 1 + 1) 48 #[.string ⟨#[103]⟩, .string ⟨#[]⟩, .string ⟨#[103]⟩, .string ⟨#[]⟩]
  o : Cells W (N + 1 + 1 + 1 + 1 + 1) 51 (opsCells N)
  a : Cells W (N + 1 + 1 + 1 + 1 + 1 + 1) 9 #[.string nmR]

theorem SBase.step {w A A' : World} {B N n : Nat} {v u : SlV} (H : SBase w B N n v u A) (hb : Below A.heap.size A A') : SBase w B N n v u A' :=
  ⟨H.below.trans (hb.mono H.below.size), H.hB, H.hN, H.m.below hb H.m.lt, H.k.below hb H.k.lt, ownsRow_below H.regs hb, ownsRow_below H.names hb, H.namesB, H.u0.below hb H.u0.lt, H.u1.below hb H.u1.lt, H.u2.below hb H.u2.lt, H.o.below hb H.o.lt, H.a.below hb H.a.lt⟩
theorem SBase.first {w W1 W2 : World} {N n : Nat} {v u : SlV} (hb : Below w.heap.size w W1) (hS : SmallAt W1 n N v u W2) (W3 : World) (hb3 : Below W2.heap.size W2 W3) (hm : Cells W3 W2.heap.size 27 (smMV v N).cells8) : SBase w W2.heap.size N n v u W3 := by
  have hB2 := hb.trans (hS.below.mono hb.size)
  have hNw : w.heap.size ≤ N := by have := hS.base; have := hb.size; omega
  exact {
    below := hB2.trans (hb3.mono hB2.size)
    hB := hB2.size
    hN := hNw
    m := hm
    k := hS.c.below hb3 hS.c.lt
    regs := ownsRow_mono (ownsRow_below hS.regs hb3) hb.size
    names := ownsRow_mono (ownsRow_below hS.names hb3) hb.size
    namesB := hS.namesB
    u0 := hS.u0.below hb3 hS.u0.lt
    u1 := hS.u1.below hb3 hS.u1.lt
    u2 := hS.u2.below hb3 hS.u2.lt
    o := hS.o.below hb3 hS.o.lt
    a := hS.a.below hb3 hS.a.lt }

theorem clsAt_one {W : World} {g c : Nat} {u : SlV} {l : List ByteArray} (hc : 1 ≤ c) (c0 : W.cell? ⟨g, 0, none⟩ = some (.string nmG)) (c1 : W.cell? ⟨g, 1, none⟩ = some (.slice u.a u.n u.c)) (hu : StrsAt W u l) : ClassesAt W ⟨some ⟨g, 0, none⟩, 1, c⟩ [⟨nmG, l⟩] :=
  ⟨rfl, hc, fun j x hj => ⟨g, 0, rfl, u, by
    match j, hj with
    | 0, hj => cases hj; exact ⟨c0, c1, hu⟩
    | j + 1, hj => simp at hj⟩⟩
theorem clsAt_two {W : World} {g c : Nat} {u s : SlV} {l l2 : List ByteArray} (hc : 2 ≤ c) (c0 : W.cell? ⟨g, 0, none⟩ = some (.string nmG)) (c1 : W.cell? ⟨g, 1, none⟩ = some (.slice u.a u.n u.c)) (hu : StrsAt W u l)
    (c2 : W.cell? ⟨g, 2, none⟩ = some (.string nmH)) (c3 : W.cell? ⟨g, 3, none⟩ = some (.slice s.a s.n s.c)) (hs : StrsAt W s l2) : ClassesAt W ⟨some ⟨g, 0, none⟩, 2, c⟩ [⟨nmG, l⟩, ⟨nmH, l2⟩] :=
  ⟨rfl, hc, fun j x hj => ⟨g, 0, rfl, by
    match j, hj with
    | 0, hj => cases hj; exact ⟨u, c0, c1, hu⟩
    | 1, hj => cases hj; exact ⟨s, c2, c3, hs⟩
    | j + 2, hj => simp at hj⟩⟩
def opCells3 (na nb nc : ByteArray) (ua ub uc : SlV) (ta tb tc : Int) (ka kb kc : SlV) : Array Value :=
  #[.string na, .string ⟨#[103]⟩, .string ⟨#[]⟩, .slice ua.a ua.n ua.c, .int .i64 ta, .slice ka.a ka.n ka.c,
    .string nb, .string ⟨#[103]⟩, .string ⟨#[]⟩, .slice ub.a ub.n ub.c, .int .i64 tb, .slice kb.a kb.n kb.c,
    .string nc, .string ⟨#[103]⟩, .string ⟨#[]⟩, .slice uc.a uc.n uc.c, .int .i64 tc, .slice kc.a kc.n kc.c]
theorem opsAt3 {W : World} {b : Nat} {na nb nc : ByteArray} {ua ub uc : SlV} {ta tb tc : Int} {ka kb kc : SlV} {la lb lc : List OperD} {ca cb cc : List ByteArray} (h : Cells W b 51 (opCells3 na nb nc ua ub uc ta tb tc ka kb kc))
    (ha : OpersAt W ua la) (hb : OpersAt W ub lb) (hc : OpersAt W uc lc) (sa : StrsAt W ka ca) (sb : StrsAt W kb cb) (sc : StrsAt W kc cc) : OpsAt W ⟨some ⟨b, 0, none⟩, 3, 3⟩ [⟨na, opG, la, ta, ca⟩, ⟨nb, opG, lb, tb, cb⟩, ⟨nc, opG, lc, tc, cc⟩] :=
  ⟨rfl, Nat.le_refl _, fun j x hj => ⟨b, 0, rfl, by
    match j, hj with
    | 0, hj => cases hj; exact ⟨ua, ka, h.cell (j := 0) rfl, h.cell (j := 1) rfl, h.cell (j := 2) rfl, h.cell (j := 3) rfl, h.cell (j := 4) rfl, h.cell (j := 5) rfl, ha, sa⟩
    | 1, hj => cases hj; exact ⟨ub, kb, h.cell (j := 6) rfl, h.cell (j := 7) rfl, h.cell (j := 8) rfl, h.cell (j := 9) rfl, h.cell (j := 10) rfl, h.cell (j := 11) rfl, hb, sb⟩
    | 2, hj => cases hj; exact ⟨uc, kc, h.cell (j := 12) rfl, h.cell (j := 13) rfl, h.cell (j := 14) rfl, h.cell (j := 15) rfl, h.cell (j := 16) rfl, h.cell (j := 17) rfl, hc, sc⟩
    | j + 3, hj => simp at hj⟩⟩
theorem strsRow {W : World} {base n : Nat} {e : TypeId} {s : SlV} {l : List ByteArray} (h : W.ownsRow base e 1 (.slice s.a s.n s.c) n (l.map Value.string)) (hn : n = l.length) : StrsAt W s l := StrsAt.of_row h hn
theorem strsCells {W : World} {b n : Nat} {e : TypeId} {cs : Array Value} {l : List ByteArray} (h : Cells W b e cs) (hc : cs = (l.map Value.string).toArray) (hn : n = l.length) : StrsAt W ⟨some ⟨b, 0, none⟩, n, n⟩ l :=
  ⟨hn, Nat.le_refl _, fun j x hj => ⟨b, 0, rfl, by
    rw [Nat.zero_add]
    refine h.cell ?_
    rw [hc]; simp [hj]⟩⟩
theorem opersCells {W : World} {b : Nat} {f g : ByteArray} (h : Cells W b 48 #[.string ⟨#[103]⟩, .string f, .string ⟨#[103]⟩, .string g]) : OpersAt W ⟨some ⟨b, 0, none⟩, 2, 2⟩ [⟨nmG, f⟩, ⟨nmG, g⟩] :=
  ⟨rfl, Nat.le_refl _, fun j x hj => ⟨b, 0, rfl, by
    match j, hj with
    | 0, hj => cases hj; exact ⟨h.cell (j := 0) rfl, h.cell (j := 1) rfl⟩
    | 1, hj => cases hj; exact ⟨h.cell (j := 2) rfl, h.cell (j := 3) rfl⟩
    | j + 2, hj => simp at hj⟩⟩

/-- What is asked of the classes' names. -/
def ClsNice (n : Nat) (l : List ClassD) : Prop := (∀ k : ClassD, k ∈ l → IsName k.name ∧ NotWord k.name) ∧ (∀ (i : Nat) (k : ClassD), l[i]? = some k → idxP (fun x : ClassD => eqB x.name k.name) (l.take i) = -1) ∧ ∀ k : ClassD, k ∈ l → regN (sNames n) k.name = -1
theorem clsNice_one {n : Nat} (hn : n ≤ 64) (l : List ByteArray) : ClsNice n [⟨nmG, l⟩] := by
  refine ⟨fun k hk => ?_, fun i k hi => ?_, fun k hk => ?_⟩
  · obtain rfl : k = ⟨nmG, l⟩ := by simpa using hk
    exact nmG_ok
  · match i, hi with
    | 0, hi => rfl
    | i + 1, hi => simp at hi
  · obtain rfl : k = ⟨nmG, l⟩ := by simpa using hk
    exact regN_nmG hn
theorem clsNice_two {n : Nat} (hn : n ≤ 64) (l l2 : List ByteArray) : ClsNice n [⟨nmG, l⟩, ⟨nmH, l2⟩] := by
  refine ⟨fun k hk => ?_, fun i k hi => ?_, fun k hk => ?_⟩
  · have : k = ⟨nmG, l⟩ ∨ k = ⟨nmH, l2⟩ := by simpa using hk
    rcases this with rfl | rfl
    · exact nmG_ok
    · exact nmH_ok
  · match i, hi with
    | 0, hi => rfl
    | 1, hi => cases hi; exact idx_hg l
    | i + 2, hi => simp at hi
  · have : k = ⟨nmG, l⟩ ∨ k = ⟨nmH, l2⟩ := by simpa using hk
    rcases this with rfl | rfl
    · exact regN_nmG hn
    · exact regN_nmH hn
/-- What is asked of the operations. -/
def OpsNice (n : Nat) (cs : List ClassD) (l : List OpD) : Prop := (∀ o : OpD, o ∈ l → OpNice (sNames n) (plN n) cs o) ∧ (∀ o : OpD, o ∈ l → o.uses.length ≤ 100000) ∧ ∀ (i : Nat) (o : OpD), l[i]? = some o → idxP (fun x : OpD => eqB x.name o.name) (l.take i) = -1
theorem opsNice_of {n : Nat} {cs : List ClassD} {a b c : OpD} (ha : OpNice (sNames n) (plN n) cs a) (hb : OpNice (sNames n) (plN n) cs b) (hc : OpNice (sNames n) (plN n) cs c) (la : a.uses.length ≤ 100000) (lb : b.uses.length ≤ 100000) (lc : c.uses.length ≤ 100000)
    (h1 : eqB a.name b.name = false) (h2 : eqB a.name c.name = false) (h3 : eqB b.name c.name = false) : OpsNice n cs [a, b, c] := by
  refine ⟨fun o ho => ?_, fun o ho => ?_, ops_new h1 h2 h3⟩
  · have : o = a ∨ o = b ∨ o = c := by simpa using ho
    rcases this with rfl | rfl | rfl <;> assumption
  · have : o = a ∨ o = b ∨ o = c := by simpa using ho
    rcases this with rfl | rfl | rfl <;> assumption
theorem opsNice_std {n : Nat} (h1 : 1 ≤ n) {l : List ByteArray} {rest : List ClassD} (hl : l ≠ []) : OpsNice n (⟨nmG, l⟩ :: rest) [opAdd 0, opNot, opDiv] :=
  opsNice_of (.inl (std_fine h1 hl _ (by simp [stdOps]))) (.inl (std_fine h1 hl _ (by simp [stdOps]))) (.inl (std_fine h1 hl _ (by simp [stdOps]))) (by decide) (by decide) (by decide) nm12 nm13 nm23

theorem chk_pieces {w W : World} {B n : Nat} {X : Int} {d : MachD} (mv : MV) (hw : Below w.heap.size w W) (hE : Env w) (h1 : 1 ≤ n) (hn : n ≤ 64) (hm : Cells W B 27 mv.cells8)
    (hr : W.ownsRow w.heap.size 44 4 (.slice mv.regs.a mv.regs.n mv.regs.c) n (sCells n)) (hres : mv.result = d.result) (hsl : mv.slots = d.slots) (hnm : mv.name = ⟨#[109]⟩)
    (hk : ClassesAt W mv.classes d.classes) (ho : OpsAt W mv.ops d.ops) (ha : StrsAt W mv.args d.args) (hs : StrsAt W mv.saved d.saved) (hc : ClsNice n d.classes) (hop : OpsNice n d.classes d.ops)
    (hx : checkS (fun _ => true) d 0 (sNames n) (plN n) = X) : ChkRel w B X W :=
  ⟨hw, mv, hm, check_mk (readable_mk (hE.below hw) h1 hn hr hres hsl (by rw [hnm]; exact nmM_ok) hk hc.1 hc.2.1 hc.2.2 ho hop.1 hop.2.1 hop.2.2 ha hs) hx⟩
end Go.Proofs.YtanbjaohmhoohaaGreatDoor
