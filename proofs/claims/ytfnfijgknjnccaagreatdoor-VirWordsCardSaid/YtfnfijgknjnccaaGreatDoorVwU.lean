/-
  vir's text: a line of words; what the text says at last.
-/
import Derived.Test.YtfnfijgknjnccaaGreatDoorVwS
import Derived.Test.YtfnfijgknjnccaaGreatDoorVwE
import Derived.Shelf.RegionOpenPlain
namespace Go.Proofs.YtfnfijgknjnccaaGreatDoor
open Go.RowKit Go.Sort
/-- The bytes of a line. -/
def moreB (more : List ByteArray) : List UInt8 := more.flatMap fun w => 32 :: w.data.toList
def lineB (first : ByteArray) (more : List ByteArray) : List UInt8 := first.data.toList ++ moreB more ++ [10]
theorem moreB_succ (more : List ByteArray) (k : Nat) (x : ByteArray) (h : more[k]? = some x) : moreB (more.take (k + 1)) = moreB (more.take k) ++ 32 :: x.data.toList := by
  unfold moreB
  rw [List.take_add_one, h, List.flatMap_append]
  simp
theorem moreB_take (more : List ByteArray) (k : Nat) : (moreB (more.take k)).length ≤ (moreB more).length := by
  have h : moreB more = moreB (more.take k) ++ moreB (more.drop k) := by
    unfold moreB
    rw [← List.flatMap_append, List.take_append_drop]
  rw [h, List.length_append]
  omega
set_option maxHeartbeats 4000000
set_option maxRecDepth 100000
theorem txt_line (B b : Nat) (l : List UInt8) (first : ByteArray) {a : Option Addr} {c : Nat} {more : List ByteArray} (w : World) (h : TxtAt B b l w) (hm : ∀ W, TxtKept B b w W → StrsL W a more) (hlen : l.length + (lineB first more).length ≤ 4294967296) (hml : more.length ≤ 4294967296) (hBw : B ≤ w.heap.size) :
    Calls Tryz.prog 15 #[.pointer (some ⟨b, 0, none⟩), .string first, .slice a more.length c] w fun e w' => e = .returned (.tuple #[]) ∧ TxtAt B b (l ++ lineB first more) w' ∧ TxtKept B b w w' := by
  have hl0 : l.length + first.size + (moreB more).length + 1 ≤ 4294967296 := by
    unfold lineB at hlen
    rw [List.length_append, List.length_append, List.length_singleton] at hlen
    have : first.data.toList.length = first.size := by rw [Array.length_toList]; rfl
    omega
  have K0 := txt_writeString B b l first w h (by omega) hBw
  replace hm := Lib.hid hm
  clear h hlen
  go_enter Tryz.func15, Tryz.ntmps15
  go_wp2_with (go_at_call 37; refine K0.mono ?_; clear K0; rintro e W1 ⟨⟨v0, rfl⟩, h1, hk1⟩)
  go_loopw [15] (fun i wr => ∃ k : Nat, k ≤ more.length ∧ i = .int .i64 k ∧ TxtAt B b (l ++ first.data.toList ++ moreB (more.take k)) wr ∧ TxtKept B b w wr) (fun i _ => more.length - (intOf i).toNat)
  case atStart => exact ⟨0, Nat.zero_le _, rfl, by simpa [moreB] using h1, hk1⟩
  case round =>
    clear h1 hk1
    obtain ⟨k, hk, rfl, ht, hkr⟩ := hrel
    have k0 : (0 : Int) ≤ k := Int.natCast_nonneg _
    have hbw := hkr.1.size
    have hfs : first.data.toList.length = first.size := by rw [Array.length_toList]; rfl
    by_cases hlt : k < more.length
    · obtain ⟨x, hx⟩ : ∃ x, more[k]? = some x := ⟨more[k], by rw [List.getElem?_eq_getElem hlt]⟩
      obtain ⟨bb, o, rfl, hc⟩ := hm.out wr hkr k x hx
      have hsz := moreB_take more (k + 1)
      rw [moreB_succ more k x hx, List.length_append, List.length_cons] at hsz
      have hxs : x.data.toList.length = x.size := by rw [Array.length_toList]; rfl
      have K1 := txt_writeByte B b _ 32 wr ht (by simp only [List.length_append]; omega) (by omega)
      have K2 := fun W (h2 : TxtAt B b (l ++ first.data.toList ++ moreB (more.take k) ++ [32]) W) (hb2 : B ≤ W.heap.size) => txt_writeString B b _ x W h2 (by simp only [List.length_append, List.length_singleton]; omega) hb2
      have hnext : Hid (∀ W, TxtAt B b (l ++ first.data.toList ++ moreB (more.take k) ++ [32] ++ x.data.toList) W → TxtAt B b (l ++ first.data.toList ++ moreB (more.take (k + 1))) W) := Lib.hid fun W h => by
        rw [moreB_succ more k x hx]
        simpa [List.append_assoc] using h
      have hi : IntKind.i64.wrap ((k : Int) + 1) = k + 1 := IntWalk.i64_in _ (by omega)
      have k1 : (k : Int) < more.length := by omega
      replace K2 := Lib.hid K2
      clear hx ht hsz
      go_wp2_with (first
        | (go_at_call 38; refine K1.mono ?_; clear K1; rintro e W2 ⟨⟨v1, rfl⟩, h2, hk2⟩; have hk3 := Lib.hid (hkr.trans hk2); replace h2 := Lib.hid h2)
        | (go_at_call 37; refine (K2.out _ h2.out (by have := hk3.out.1.size; omega)).mono ?_; clear K2; rintro e W3 ⟨⟨v2, rfl⟩, h4, hk4⟩; have hk5 := Lib.hid (hk3.out.trans hk4)))
      exact ⟨⟨k + 1, by omega, by go_num, hnext.out _ h4, hk5.out⟩, by simp [intOf]; omega⟩
    · obtain rfl : k = more.length := by omega
      rw [List.take_length] at ht
      have K1 := txt_writeByte B b _ 10 wr ht (by simp only [List.length_append]; omega) (by omega)
      clear ht
      go_wp2_with (go_at_call 38; refine K1.mono ?_; clear K1; rintro e W2 ⟨⟨v1, rfl⟩, h2, hk2⟩; have hk3 := Lib.hid (hkr.trans hk2); replace h2 := Lib.hid h2)
      go_end0
      refine ⟨rfl, ?_, hk3.out⟩
      have := h2.out
      unfold lineB
      simpa [List.append_assoc] using this
theorem txt_string (B b : Nat) (l : List UInt8) (w : World) (h : TxtAt B b l w) (h0 : l ≠ []) (hl : l.length ≤ 4294967296) :
    Calls Tryz.prog 18 #[.pointer (some ⟨b, 0, none⟩)] w fun e w' => e = .returned (.string ⟨l.toArray⟩) ∧ Below B w w' := by
  obtain ⟨p, hB, v, hbk, hown, hne⟩ : ∃ p, TxtP B b p (Lib.byteCells l) w := by
    rcases h with h | h
    · exact ⟨_, h⟩
    · exact ⟨_, h⟩
  have hl0 : l.length ≠ 0 := by simpa using h0
  rw [Lib.byteCells_length] at hown
  obtain ⟨g, cap, cur, rfl, hbg, hg, hnc, hcm, hcs, htake⟩ : ∃ g cap cur, v = .slice (some ⟨g, 0, none⟩) l.length cap ∧ B ≤ g ∧ w.heap[g]? = some (.cells cur 5 (0, 0)) ∧ l.length ≤ cap ∧ cap ≤ maxLen ∧ cur.size = cap * 1 ∧ cur.toList.take (l.length * 1) = Lib.byteCells l := by
    rcases hown.2 with ⟨_, hz⟩ | ⟨g, cap, cur, hv, r⟩
    · exact absurd hz hl0
    · exact ⟨g, cap, cur, hv, r⟩
  have c1 : w.drew.cell? ⟨b, 1, none⟩ = some (.slice (some ⟨g, 0, none⟩) l.length cap) := by
    have : w.drew.heap[b]? = some (.cells #[p, .slice (some ⟨g, 0, none⟩) l.length cap] 52 (0, 0)) := hbk
    rw [Lib.cell_of_heap this]; rfl
  have hUS : (Builtin.unsafeString_ #[94, 3] 9 #[.pointer (some ⟨g, 0, none⟩), .int .i64 l.length]).run Tryz.prog w.drew = .ok (.string ⟨l.toArray⟩) (w.drew.freeze ⟨g, 0, none⟩ l.length) := by
    refine Lib.run_unsafeString_row w.drew 94 3 9 5 Tryz.underlying94 Tryz.cellsByteV g cur.size (by have hg' : w.drew.heap[g]? = some (.cells cur 5 (0, 0)) := hg; simp [World.shape?, hg']) l h0 (by omega) (by omega) ?_
    intro j x hx
    exact hown.cells (g := g) rfl j (.int .u8 x.toNat) (by simp [Lib.byteCells, hx])
  have hSD : (Builtin.unsafeSliceData_ #[48] 94 #[.slice (some ⟨g, 0, none⟩) l.length cap]).run Tryz.prog w.drew = .ok (.pointer (some ⟨g, 0, none⟩)) w.drew :=
    Lib.run_unsafeSliceData_row _ _ _ _ _ _ (by omega)
  have mixed : Tryz.prog.follows Departure.mixedOrders = true := by kernel_rfl
  have hfin : Hid (Below B w (w.drew.freeze ⟨g, 0, none⟩ l.length)) := Lib.hid (Lib.below_freeze (Below.drew (Below.refl B w)) (p := ⟨g, 0, none⟩) hbg _)
  clear hown htake hg hbk
  go_enter Tryz.func18, Tryz.ntmps18
  go_wp2
  go_region_o
  all_goals (go_wp2; go_ret; exact ⟨rfl, hfin.out⟩)
end Go.Proofs.YtfnfijgknjnccaaGreatDoor
