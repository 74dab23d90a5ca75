/-
  vir's reader: the four lines ahead of the blocks.
-/
import Derived.Test.YtfnfijgknjnccaaGreatDoorVxB
import Derived.Test.YtfnfijgknjnccaaGreatDoorVwZ
namespace Go.Proofs.YtfnfijgknjnccaaGreatDoor
open Go.RowKit Go.Sort
theorem cutNl (l : List UInt8) : Lib.trimSuffix (l ++ [10]) [10] = l ∧ Lib.hasSuffix (l ++ [10]) [10] = true := by
  have h : Lib.hasSuffix (l ++ [10]) [10] = true := by
    unfold Lib.hasSuffix
    rw [List.isSuffixOf_iff_suffix]
    exact List.suffix_append _ _
  refine ⟨?_, h⟩
  unfold Lib.trimSuffix
  rw [h, if_pos rfl]
  simp
def lineW (ws : List ByteArray) : ByteArray := txt (joinSp ws ++ [10])
theorem cut_any (l : List UInt8) (w : World) (hs : l.length ≤ 65536) : Calls Tryz.prog 29 #[.string (txt (l ++ [10])), .string ⟨#[10]⟩] w fun e w' => e = .returned (.tuple #[.string (txt l), .bool true]) ∧ w' = w := by
  have K := Tryz.strings_CutSuffix (txt (l ++ [10])) ⟨#[10]⟩ w (by rw [txt_size, List.length_append, List.length_singleton]; omega)
  rw [txt_list, show (⟨#[10]⟩ : ByteArray).data.toList = [10] from rfl, (cutNl l).1, (cutNl l).2] at K
  exact K
theorem split_any {l : List UInt8} {w : World} (hE : EnvV w) (hs : l.length ≤ 65536) : Calls Tryz.prog 30 #[.string (txt l), .string ⟨#[32]⟩] w fun e w' => e = .returned (.slice (some ⟨w.heap.size, 0, none⟩) (Lib.countB (txt l) ⟨#[32]⟩ + 1) (Lib.countB (txt l) ⟨#[32]⟩ + 1)) ∧ w' = w.alloc (.cells ((Lib.splitB ⟨#[32]⟩ 0 (Lib.countB (txt l) ⟨#[32]⟩) (txt l)).map Value.string).toArray 9) := by
  obtain ⟨m, hm⟩ := hE.env
  exact Tryz.strings_Split (txt l) ⟨#[32]⟩ m w (by rw [txt_size]; omega) hm (by decide)
theorem split_words {ws : List ByteArray} {w : World} (hE : EnvV w) (h0 : ws ≠ []) (hb : ∀ x, x ∈ ws → NoB 32 x) (hs : (joinSp ws).length ≤ 65536) : Calls Tryz.prog 30 #[.string (txt (joinSp ws)), .string ⟨#[32]⟩] w fun e w' => e = .returned (.slice (some ⟨w.heap.size, 0, none⟩) ws.length ws.length) ∧ w' = w.alloc (.cells (ws.map Value.string).toArray 9) := by
  have K := split_any hE hs
  have h1 : Lib.countB (txt (joinSp ws)) ⟨#[32]⟩ + 1 = ws.length := by
    have := count_words ws hb
    have h2 : 1 ≤ ws.length := by
      cases ws with
      | nil => exact absurd rfl h0
      | cons a t => simp
    show Lib.countB ⟨(joinSp ws).toArray⟩ ⟨#[32]⟩ + 1 = _
    omega
  rw [h1, show Lib.splitB ⟨#[32]⟩ 0 (Lib.countB (txt (joinSp ws)) ⟨#[32]⟩) (txt (joinSp ws)) = ws from split_join ws h0 hb] at K
  exact K
theorem strs_of_cells {W : World} {k : Nat} {l : List ByteArray} (h : Cells W k 9 (l.map Value.string).toArray) : StrsL W (some ⟨k, 0, none⟩) l := fun j x hx =>
  ⟨k, 0, rfl, by rw [Nat.zero_add]; exact h.cell (by rw [List.getElem?_toArray, List.getElem?_map, hx]; rfl)⟩
set_option maxHeartbeats 4000000
set_option maxRecDepth 100000

theorem line_func {R : Nat} {nm : ByteArray} {v0 v1 v2 v3 v4 : Value} {w : World} (hE : EnvV w) (hR : Cells w R 42 #[v0, v1, v2, v3, v4, .bool false]) (hN : IsName nm) (hb : NoB 32 nm) :
    Calls Tryz.prog 14 #[.pointer (some ⟨R, 0, none⟩), .int .i64 1, .string (lineW [⟨#[102, 117, 110, 99]⟩, nm])] w fun e w' => e = .returned (.int .i64 0) ∧ ∃ W1, Below w.heap.size w W1 ∧ w' = W1.setCell ⟨R, 0, none⟩ (.string nm) := by
  have hle := hN.le
  have hlen : (joinSp [⟨#[102, 117, 110, 99]⟩, nm]).length ≤ 65536 := by
    have h1 : (joinSp [⟨#[102, 117, 110, 99]⟩, nm]).length = 4 + 1 + nm.data.toList.length := by simp [joinSp]; omega
    have h2 : nm.data.toList.length = nm.size := by rw [Array.length_toList]; rfl
    omega
  have hnb : ∀ x, x ∈ [(⟨#[102, 117, 110, 99]⟩ : ByteArray), nm] → NoB 32 x := fun x hx => by
    simp only [List.mem_cons, List.not_mem_nil, or_false] at hx
    rcases hx with rfl | rfl
    · intro b hb; revert b; decide
    · exact hb
  have K1 := cut_any (joinSp [⟨#[102, 117, 110, 99]⟩, nm]) w hlen
  have K2 := split_words (ws := [⟨#[102, 117, 110, 99]⟩, nm]) hE (by simp) hnb hlen
  have hB : Below w.heap.size w (w.alloc (.cells (([⟨#[102, 117, 110, 99]⟩, nm] : List ByteArray).map Value.string).toArray 9)) := belowN
  have K3 := named_ok (c := 2) (hE.below hB) (strs_of_cells (Cells.new w _ _)) hN
  have c5 := hR.cell (j := 5) (v := .bool false) rfl
  have hc3 := fun V hb => (hR.below (hB.trans (hb : Below w.heap.size _ V)) hR.lt)
  unfold lineW
  generalize txt (joinSp [⟨#[102, 117, 110, 99]⟩, nm] ++ [10]) = s at *
  generalize txt (joinSp [⟨#[102, 117, 110, 99]⟩, nm]) = t at *
  simp only [List.length_cons, List.length_nil, Nat.zero_add, Nat.reduceAdd, List.map_cons, List.map_nil] at K2 K3 hB hc3
  clear hE hN hnb hlen hle
  replace hB := Lib.hid hB
  replace hc3 := Lib.hid hc3
  go_enter Tryz.func14, Tryz.ntmps14
  go_wp2_with (first
    | (go_at_call 29; refine K1.mono ?_; clear K1; rintro e w1 ⟨rfl, rfl⟩)
    | (go_at_call 30; refine K2.mono ?_; clear K2; rintro e w1 ⟨rfl, rfl⟩)
    | (go_at_call 31; refine K3.mono ?_; clear K3; rintro e W3 ⟨rfl, hb3⟩; have hR3 := hc3.out W3 (hb3.mono hB.out.size); have f3 := hR3.frozen 0; have d3 := hR3.cell (j := 0) rfl; replace hR3 := Lib.hid hR3))
  go_ret
  exact ⟨rfl, W3, hB.out.trans (hb3.mono hB.out.size), rfl⟩

theorem line_result {R : Nat} {nm : ByteArray} {v0 v1 v2 v3 v4 : Value} {w : World} (hE : EnvV w) (hR : Cells w R 42 #[v0, v1, v2, v3, v4, .bool false]) (hN : IsName nm) (hb : NoB 32 nm) :
    Calls Tryz.prog 14 #[.pointer (some ⟨R, 0, none⟩), .int .i64 4, .string (lineW [⟨#[114, 101, 115, 117, 108, 116]⟩, nm])] w fun e w' => e = .returned (.int .i64 0) ∧ ∃ W1, Below w.heap.size w W1 ∧ w' = W1.setCell ⟨R, 3, none⟩ (.string nm) := by
  have hle := hN.le
  have hlen : (joinSp [⟨#[114, 101, 115, 117, 108, 116]⟩, nm]).length ≤ 65536 := by
    have h1 : (joinSp [⟨#[114, 101, 115, 117, 108, 116]⟩, nm]).length = 6 + 1 + nm.data.toList.length := by simp [joinSp]; omega
    have h2 : nm.data.toList.length = nm.size := by rw [Array.length_toList]; rfl
    omega
  have hnb : ∀ x, x ∈ [(⟨#[114, 101, 115, 117, 108, 116]⟩ : ByteArray), nm] → NoB 32 x := fun x hx => by
    simp only [List.mem_cons, List.not_mem_nil, or_false] at hx
    rcases hx with rfl | rfl
    · intro b hb; revert b; decide
    · exact hb
  have K1 := cut_any (joinSp [⟨#[114, 101, 115, 117, 108, 116]⟩, nm]) w hlen
  have K2 := split_words (ws := [⟨#[114, 101, 115, 117, 108, 116]⟩, nm]) hE (by simp) hnb hlen
  have hB : Below w.heap.size w (w.alloc (.cells (([⟨#[114, 101, 115, 117, 108, 116]⟩, nm] : List ByteArray).map Value.string).toArray 9)) := belowN
  have K3 := named_ok (c := 2) (hE.below hB) (strs_of_cells (Cells.new w _ _)) hN
  have c5 := hR.cell (j := 5) (v := .bool false) rfl
  have hc3 := fun V hb => (hR.below (hB.trans (hb : Below w.heap.size _ V)) hR.lt)
  unfold lineW
  generalize txt (joinSp [⟨#[114, 101, 115, 117, 108, 116]⟩, nm] ++ [10]) = s at *
  generalize txt (joinSp [⟨#[114, 101, 115, 117, 108, 116]⟩, nm]) = t at *
  simp only [List.length_cons, List.length_nil, Nat.zero_add, Nat.reduceAdd, List.map_cons, List.map_nil] at K2 K3 hB hc3
  clear hE hN hnb hlen hle
  replace hB := Lib.hid hB
  replace hc3 := Lib.hid hc3
  go_enter Tryz.func14, Tryz.ntmps14
  go_wp2_with (first
    | (go_at_call 29; refine K1.mono ?_; clear K1; rintro e w1 ⟨rfl, rfl⟩)
    | (go_at_call 30; refine K2.mono ?_; clear K2; rintro e w1 ⟨rfl, rfl⟩)
    | (go_at_call 31; refine K3.mono ?_; clear K3; rintro e W3 ⟨rfl, hb3⟩; have hR3 := hc3.out W3 (hb3.mono hB.out.size); have f3 := hR3.frozen 3; have d3 := hR3.cell (j := 3) rfl; replace hR3 := Lib.hid hR3))
  go_ret
  exact ⟨rfl, W3, hB.out.trans (hb3.mono hB.out.size), rfl⟩
end Go.Proofs.YtfnfijgknjnccaaGreatDoor
