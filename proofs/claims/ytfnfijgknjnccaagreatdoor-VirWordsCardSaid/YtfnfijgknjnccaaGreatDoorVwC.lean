/-
  vir's words that are numbers: numeral, integer, number, of any word.
-/
import Derived.Test.YtfnfijgknjnccaaGreatDoorVwB
import Derived.Lib.SmallJoins
import Derived.Sort.Grow
namespace Go.Proofs.YtfnfijgknjnccaaGreatDoor
open Go.RowKit Go.Sort
theorem Tryz.pow10_at : Tryz.prog.globalNamed "internal/strconv.uint64pow10" = some 8 := by kernel_rfl
theorem Tryz.ascii_at : Tryz.prog.globalNamed "strings.asciiSpace" = some 1 := by kernel_rfl
/-- What stands in the program's variables. -/
structure EnvV (w : World) : Prop where
  env : Env w
  pow : Lib.TabIs Tryz.prog w "internal/strconv.uint64pow10" .u64 Lib.pow10Tab
  spc : Lib.TabIs Tryz.prog w "strings.asciiSpace" .u8 Lib.asciiSpaceTab
  syn : ∃ ev, w.cell? ⟨6, 0, none⟩ = some ev ∧ (ev = .nilIface ∨ ∃ te pe, ev = .iface te pe)
  rng : ∃ ev, w.cell? ⟨7, 0, none⟩ = some ev ∧ (ev = .nilIface ∨ ∃ te pe, ev = .iface te pe)
theorem EnvV.below {w V : World} (h : EnvV w) (hb : Below w.heap.size w V) : EnvV V := by
  obtain ⟨h1, h2, h3, ⟨e4, h4, g4⟩, e5, h5, g5⟩ := h
  exact ⟨h1.below hb, Joins.tab_stays Tryz.pow10_at h2 hb (Nat.le_refl _), Joins.tab_stays Tryz.ascii_at h3 hb (Nat.le_refl _), ⟨e4, cell_below hb h4, g4⟩, e5, cell_below hb h5, g5⟩
theorem below_growD (w : World) (k : Nat) (os : Array Obj) : Below w.heap.size w (grow (w.drewN k) os) :=
  ⟨rfl, rfl, rfl, by show w.heap.size ≤ (w.heap ++ os).size; simp, fun i hi => by
    show (w.heap ++ os)[i]? = _
    rw [Array.getElem?_append_left hi]⟩
set_option maxHeartbeats 1600000
set_option maxRecDepth 100000
def In64 (n : Int) : Prop := -9223372036854775808 ≤ n ∧ n ≤ 9223372036854775807
theorem numeral_any (n : Int) (h : In64 n) (w : World) (hE : EnvV w) : Calls Tryz.prog 39 #[.int .i64 n] w fun e w' => e = .returned (.string (wordN n)) ∧ Below w.heap.size w w' := by
  have K : Calls Tryz.prog 66 #[.int .i64 n] w fun e w' => e = .returned (.string (wordN n)) ∧ Below w.heap.size w w' := (Tryz.strconv_Itoa n h.1 h.2 w hE.pow).mono fun _ _ ⟨h1, k, os, h2⟩ => ⟨h1, by rw [h2]; exact below_growD w k os⟩
  clear hE h
  generalize wordN n = q at *
  go_enter Tryz.func39, Tryz.ntmps39
  go_wp2_with (go_at_call 66; refine K.mono ?_; rintro e W1 ⟨rfl, hb⟩)
  go_ret
  exact ⟨rfl, hb⟩
/-- The number that is read, whatever the word. -/
def intV (s : ByteArray) : Int := match Lib.atoiAll s.data.toList with | .ok v => v | .range => Lib.atoiSat s.data.toList | _ => 0
theorem atoi_in {l : List UInt8} {v : Int} (h : Lib.atoiAll l = .ok v) : In64 v := by
  unfold Lib.atoiAll at h
  split at h
  · cases h
  · dsimp only at h
    split at h
    · cases h
    · cases h
    · split at h
      · cases h
      · split at h
        · cases h
        · injection h with h
          subst h
          unfold In64
          split <;> omega
theorem intV_in (s : ByteArray) : In64 (intV s) := by
  unfold intV
  split
  · rename_i h; exact atoi_in h
  · unfold Lib.atoiSat In64
    split <;> omega
  · exact ⟨by decide, by decide⟩
theorem intV_word (n : Int) (h : In64 n) : intV (wordN n) = n := by
  unfold intV
  rw [wordN_list, atoi_itoa n h.1 h.2]
theorem atoi_any (s : ByteArray) (hs : s.size ≤ 281474976710656) (w : World) (hE : EnvV w) : Calls Tryz.prog 83 #[.string s] w fun e w' => ∃ er, e = .returned (.tuple #[.int .i64 (intV s), er]) ∧ Below w.heap.size w w' := by
  unfold intV
  cases h : Lib.atoiAll s.data.toList with
  | ok v => exact (Tryz.strconv_Atoi_ok s (by omega) v h w).mono fun _ _ ⟨h1, h2⟩ => ⟨_, h1, by
      rcases h2 with rfl | ⟨t, rfl⟩
      · exact Below.refl _ _
      · exact Lib.bytesWorld_below w _ t⟩
  | range =>
    obtain ⟨ev, h1, h2⟩ := hE.rng
    exact (Tryz.strconv_Atoi_range s hs h ev w h1 h2).mono fun _ _ ⟨_, h1, _, _, h4⟩ => ⟨_, h1, h4⟩
  | _ =>
    obtain ⟨ev, h1, h2⟩ := hE.syn
    exact (Any.strconv_Atoi_syntax Tryz.laysC172 s hs h ev w h1 h2).mono fun _ _ ⟨_, h1, _, _, h4⟩ => ⟨_, h1, h4⟩
theorem ret_ib {a b : Int} {c d : Bool} (h : a = b) (h2 : c = d) : Ending.returned (.tuple #[.int .i64 a, .bool c]) = .returned (.tuple #[.int .i64 b, .bool d]) := by rw [h, h2]
theorem list_eq_dec (q s : ByteArray) : (q.toList == s.toList) = decide (q = s) := by
  rw [Bool.eq_iff_iff, beq_iff_eq, decide_eq_true_eq, ByteArray.toList_eq, ByteArray.toList_eq]
  constructor
  · intro h
    obtain ⟨⟨a⟩⟩ := q
    obtain ⟨⟨b⟩⟩ := s
    simp at h
    rw [h]
  · intro h
    rw [h]
theorem integer_any (s : ByteArray) (hs : s.size ≤ 281474976710656) (w : World) (hE : EnvV w) :
    Calls Tryz.prog 61 #[.string s] w fun e w' => e = .returned (.tuple #[.int .i64 (intV s), .bool (decide (wordN (intV s) = s))]) ∧ Below w.heap.size w w' := by
  have K := atoi_any s hs w hE
  have K2 := fun W hb => numeral_any (intV s) (intV_in s) W (hE.below hb)
  clear hE
  generalize intV s = n at *
  generalize wordN n = q at *
  replace K2 := Lib.hid K2
  go_enter Tryz.func61, Tryz.ntmps61
  go_wp2_with (first | (go_at_call 83; refine K.mono ?_; clear K; rintro e W1 ⟨er, rfl, hb1⟩) | (go_at_call 39; refine (K2.out _ hb1).mono ?_; rintro e W2 ⟨rfl, hb2⟩))
  go_ret2
  exact ⟨ret_ib rfl (list_eq_dec q s), hb1.trans (hb2.mono hb1.size)⟩
theorem isNumber_v (n : Int) (w : World) : Calls Tryz.prog 24 #[.int .i64 n] w fun e w' => e = .returned (.bool (decide (0 ≤ n) && decide (n ≤ 99999))) ∧ w = w' := by
  go_enter Tryz.func24, Tryz.ntmps24
  go_wp2
  all_goals
    go_ret
    exact ⟨ret_bool (by rw [Bool.eq_iff_iff]; simp; omega), rfl⟩
/-- Is the word one of a register or a block? -/
def numB (s : ByteArray) : Bool := decide (wordN (intV s) = s) && (decide (0 ≤ intV s) && decide (intV s ≤ 99999))
theorem number_any (s : ByteArray) (hs : s.size ≤ 281474976710656) (w : World) (hE : EnvV w) :
    Calls Tryz.prog 35 #[.string s] w fun e w' => e = .returned (.tuple #[.int .i64 (intV s), .bool (numB s)]) ∧ Below w.heap.size w w' := by
  have K := integer_any s hs w hE
  have hd : numB s = (decide (wordN (intV s) = s) && (decide (0 ≤ intV s) && decide (intV s ≤ 99999))) := rfl
  rw [hd]
  clear hd hE
  generalize intV s = n at *
  generalize decide (wordN n = s) = q at *
  have K2 := fun W => isNumber_v n W
  generalize (decide (0 ≤ n) && decide (n ≤ 99999)) = r at *
  cases q
  all_goals
    go_enter Tryz.func35, Tryz.ntmps35
    go_wp2_with (first | (go_at_call 61; refine K.mono ?_; clear K; rintro e W1 ⟨rfl, hb1⟩) | (go_at_call 24; refine (K2 _).mono ?_; rintro e W2 ⟨rfl, rfl⟩))
    go_ret2
    exact ⟨rfl, hb1⟩
end Go.Proofs.YtfnfijgknjnccaaGreatDoor
