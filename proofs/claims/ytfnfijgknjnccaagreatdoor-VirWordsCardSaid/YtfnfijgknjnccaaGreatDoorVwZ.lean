/-
  The lines of a text: strings.Lines, and vir's lines, which numbers them.
-/
import Derived.Test.YtfnfijgknjnccaaGreatDoorVwY
import Derived.Test.YtfnfijgknjnccaaGreatDoorVwR
import Derived.Test.YtfnfijgknjnccaaGreatDoorVwF
import Derived.Stop.RegionWithIn
namespace Go.Proofs.YtfnfijgknjnccaaGreatDoor
open Go.RowKit
attribute [local go_sem] Oper.semAt_some
theorem roundIn_any {m m' : Nat} {P : Program} {l : Nat} {f : FuncId} {tmps : Array Value} {assign body : Code} {w : World} {R : Ending → World → Prop} (h : RoundIn Fence.wide m P l f tmps assign body w R) : RoundIn Fence.wide m' P l f tmps assign body w R :=
  ⟨h.1, fun c cs _ => h.2 c cs (room_wide _)⟩
theorem yieldAt_any {m m' : Nat} {P : Program} {l : Nat} {args : Array Value} {W : World} {R : Ending → World → Prop} (h : YieldAt Fence.wide m P l args W R) : YieldAt Fence.wide m' P l args W R := by
  obtain ⟨fn, tmps, assign, body, hy, hR⟩ := h
  exact ⟨fn, tmps, assign, body, hy, roundIn_any hR⟩
def txt (l : List UInt8) : ByteArray := ⟨l.toArray⟩
theorem txt_list (l : List UInt8) : (txt l).data.toList = l := by simp [txt]
theorem txt_size (l : List UInt8) : (txt l).size = l.length := by simp [txt, ByteArray.size]
theorem txt_ext {a b : ByteArray} (h : a.data.toList = b.data.toList) : a = b := by
  obtain ⟨⟨x⟩⟩ := a
  obtain ⟨⟨y⟩⟩ := b
  simp at h
  rw [h]
theorem cut_line (x : ByteArray) (r : List UInt8) : (txt (x.data.toList ++ r)).extract 0 x.size = x ∧ (txt (x.data.toList ++ r)).extract x.size (txt (x.data.toList ++ r)).size = txt r := by
  have hx : x.size = x.data.toList.length := by rw [Array.length_toList]; rfl
  refine ⟨txt_ext ?_, txt_ext ?_⟩
  · rw [Lib.extract_data, txt_list, hx]
    simp
  · rw [Lib.extract_data, txt_list, txt_list, txt_size, hx]
    simp
set_option maxHeartbeats 4000000
set_option maxRecDepth 100000
theorem lines_tells (q : Nat → TypeId → Prop) (n Bx : Nat) (ls : List ByteArray) (w0 : World) (hbx : Cells w0 Bx 9 #[.string (txt (textOf ls))]) (hls : ∀ x, x ∈ ls → LineOk x) (hsz : (textOf ls).length ≤ 65536) (ht : ¬ q Bx 9) :
    TellsO (fun k => k = Bx) 0 q n Tryz.prog 53 #[.pointer (some ⟨Bx, 0, none⟩)] (fun x : ByteArray => #[.string x]) ls w0 := by
  intro l J W hW hJ hY hj0
  have hb0 := hbx.below hW hbx.lt
  replace hY := Lib.hid hY
  replace hJ := Lib.hid hJ
  clear hbx
  refine callsIn_of_wp Tryz.func53 rfl trivial ?_ rfl
  simp only [Tryz.ntmps53, List.size_toArray, List.length_cons, List.length_nil, Nat.reduceAdd, Nat.reduceSub, Array.replicate_succ, Array.replicate_zero, List.push_toArray, List.append_toArray, List.nil_append, List.cons_append]
  gi_wp2
  gi_loopw [] (fun wr => ∃ pre rest, W.heap.size ≤ wr.heap.size ∧ pre ++ rest = ls ∧ Cells wr Bx 9 #[.string (txt (textOf rest))] ∧ J pre wr) (fun wr => match wr.cell? ⟨Bx, 0, none⟩ with | some (.string s) => s.size | _ => 0)
  case atStart => exact ⟨[], ls, Nat.le_refl _, rfl, hb0, hj0⟩
  case round =>
    clear hb0 hj0
    obtain ⟨pre, rest, hwz, hpr, hb, hj⟩ := hrel
    have f0 := hb.frozen 0
    cases rest with
    | nil =>
      obtain ⟨s, hs⟩ : ∃ s, s = txt (textOf []) := ⟨_, rfl⟩
      have hz : s.size = 0 := by rw [hs, txt_size]; rfl
      have c0 := hb.cell (j := 0) (v := .string s) (by rw [hs]; rfl)
      rw [List.append_nil] at hpr
      rw [hpr] at hj
      clear hb hs hpr hY hJ
      gi_wp2_with fail
      go_end0
      exact ⟨⟨_, rfl⟩, hj⟩
    | cons x r =>
      have hx := hls x (by rw [← hpr]; simp)
      have hcut := cut_line x (textOf r)
      have hidx := hx.index (textOf r)
      have hpos := hx.pos
      obtain ⟨s, hs⟩ : ∃ s, s = txt (x.data.toList ++ textOf r) := ⟨_, rfl⟩
      have c0 := hb.cell (j := 0) (v := .string s) (by rw [hs, textOf_cons]; rfl)
      have hsize : s.size = x.size + (textOf r).length := by rw [hs, txt_size, List.length_append, Array.length_toList]; rfl
      have hle : s.size ≤ 65536 := by
        have h1 : textOf ls = textOf pre ++ (x.data.toList ++ textOf r) := by rw [← hpr]; simp [textOf]
        rw [h1, List.length_append, List.length_append] at hsz
        have h2 : x.data.toList.length = x.size := by rw [Array.length_toList]; rfl
        omega
      have K := fun W => Tryz.strings_IndexByte s 10 W
      have hi0 : Lib.indexByte s.data.toList (Int.toNat 10).toUInt8 = (x.size : Int) - 1 := by rw [hs, txt_list]; exact hidx
      rw [hi0] at K
      rw [← hs] at hcut
      obtain ⟨hcut1, hcut2⟩ := hcut
      have hpre : pre ++ [x] <+: ls := ⟨r, by rw [← hpr]; simp⟩
      have hj2 : ∀ v, J pre ((wr.setCell ⟨Bx, 0, none⟩ v).drew) := fun v => hJ.out pre wr _ hj (Only.set (.inl rfl)).drew
      have hb2 : Cells ((wr.setCell ⟨Bx, 0, none⟩ (.string (txt (textOf r)))).drew) Bx 9 #[.string (txt (textOf r))] := hb.set (j := 0) (.string (txt (textOf r)))
      have hYY := YieldAt.mono (yieldAt_any (m' := n - 1) (hY.out pre x _ (hj2 (.string (txt (textOf r)))) hpre (by show W.heap.size + 0 ≤ (wr.setCell _ _).heap.size; rw [World.size_setCell]; exact hwz))) (R' := fun e B => W.heap.size ≤ B.heap.size ∧ e = .returned (.bool true) ∧ J (pre ++ [x]) B ∧ Cells B Bx 9 #[.string (txt (textOf r))]) fun e B ⟨h1, h2, h3, _⟩ => ⟨by have h9 := h3.size; rw [show ((wr.setCell ⟨Bx, 0, none⟩ (.string (txt (textOf r)))).drew).heap.size = (wr.setCell ⟨Bx, 0, none⟩ (.string (txt (textOf r)))).heap.size from rfl, World.size_setCell] at h9; omega, h1, h2, h3.block _ _ _ ht hb2⟩
      obtain ⟨fn, tmps, assign, body, hy, hR⟩ := hYY
      have hmeas : (txt (textOf r)).size < s.size := by rw [txt_size]; omega
      have hpr2 : (pre ++ [x]) ++ r = ls := by rw [← hpr]; simp
      generalize hq : txt (textOf r) = qq at *
      replace hq := Lib.hid hq
      have h0 : (0 : Int) < s.size := by omega
      obtain ⟨i, hi⟩ : ∃ i : Int, i = (x.size : Int) - 1 := ⟨_, rfl⟩
      rw [← hi] at K
      have h2 : (0 : Int) ≤ i := by omega
      have hw1 : IntKind.i64.wrap (i + 1) = x.size := by rw [show i + 1 = (x.size : Int) by omega]; exact IntWalk.i64_in _ (by omega)
      replace hi := Lib.hid hi
      have h3 : (x.size : Int) ≤ s.size := by omega
      have h4 : (0 : Int) ≤ x.size := by omega
      have h5 : x.size ≤ s.size := by omega
      replace hY := trivial
      replace hJ := trivial
      replace hj2 := trivial
      replace hs := Lib.hid hs
      replace hpr := Lib.hid hpr
      replace hpr2 := Lib.hid hpr2
      replace hsize := Lib.hid hsize
      replace hi0 := trivial
      replace hidx := trivial
      gi_wp2_with (refine ⟨trivial, fun h => absurd h (by decide), ?_⟩; refine (callsIn_wide.2 (K _)).mono ?_; rintro e w' ⟨rfl, rfl⟩)
      gi_region_with fail
      all_goals
        gi_wp2_with (refine ⟨fun h => absurd h (by decide), hR.mono ?_⟩)
        rintro e B ⟨hBz, rfl, hj3, hb3⟩
        gi_wp2_with fail
        refine ⟨⟨pre ++ [x], r, hBz, hpr2.out, by rw [hq.out]; exact hb3, hj3⟩, ?_⟩
        rw [show B.cell? ⟨Bx, 0, none⟩ = some (.string qq) from hb3.cell rfl, c0]
        exact hmeas
end Go.Proofs.YtfnfijgknjnccaaGreatDoor
