/-
  A line that is one name: the lexer's iterator over it tells one token, the name.
-/
import Derived.Test.YtgnnipnnnebpiaaGreatDoorLexC
import Derived.Test.YtgnnipnnnebpiaaGreatDoorKeep
import Derived.RangeFuncNested
import Derived.RangeFuncBound
import Derived.RangeFuncCalls
import Derived.RangeFuncLeaves
import Derived.Shelf.Abstract
import Derived.Shelf.RegionOpen
import Derived.WalkKit
import Derived.OwnWalkIn
import Derived.TacticsInMore
import Derived.LoopNIn
import Derived.LoopIn
namespace Go.Proofs.YtgnnipnnnebpiaaGreatDoor
open Go.RowKit Go.Shelf

attribute [local go_sem] Oper.semAt_some

/-- The variable of the library's that Index, Cut and Split ask for holds a number. -/
def Env (w : World) : Prop := ∃ m : Int, w.cell? ⟨1, 0, none⟩ = some (.int .i64 m)
theorem Env.below {w w' : World} (h : Env w) (hb : Below w.heap.size w w') : Env w' := by
  obtain ⟨m, hm⟩ := h
  exact ⟨m, (hb.cell (World.block_lt_of_cell? _ _ hm)).trans hm⟩

/-- s is a name: a letter and up to nineteen letters and digits more. -/
structure IsName (s : ByteArray) : Prop where
  pos : 0 < s.size
  le : s.size ≤ 20
  first : letterB (s[0]'pos).toNat = true
  all : ∀ c, c ∈ s.data.toList → inNameB c.toNat = true

theorem blank_not_name (c : UInt8) (h : inNameB c.toNat = true) : blankB c.toNat = false := by
  unfold inNameB letterB digitB at h; unfold blankB
  simp at h ⊢; omega
theorem not_name_35 {l : List UInt8} (h : ∀ c, c ∈ l → inNameB c.toNat = true) : ∀ c, c ∈ l → c ≠ 35 := fun c hc e => by
  subst e; have := h _ hc; revert this; decide
theorem not_name_10 {l : List UInt8} (h : ∀ c, c ∈ l → inNameB c.toNat = true) : ∀ c, c ∈ l → c ≠ 10 := fun c hc e => by
  subst e; have := h _ hc; revert this; decide
theorem indexByte_none {l : List UInt8} {c : UInt8} (h : ∀ x, x ∈ l → x ≠ c) : Lib.indexByte l c = -1 := by
  induction l with
  | nil => rfl
  | cons b l ih =>
    have hb : (b == c) = false := by simpa using h b (by simp)
    simp [Lib.indexByte, hb, ih fun x hx => h x (by simp [hx])]
theorem cut_none {l : List UInt8} {c : UInt8} (h : ∀ x, x ∈ l → x ≠ c) : Lib.cut l [c] = (l, [], false) := by
  unfold Lib.cut; rw [Lib.index_one, indexByte_none h]; simp

theorem IsName.letterIn {s : ByteArray} (h : IsName s) : inNameB (s[0]'h.pos).toNat = true := by unfold inNameB; simp [h.first]
theorem takeWhile_eq_all {α : Type} {p : α → Bool} : ∀ {l : List α}, (∀ x, x ∈ l → p x = true) → l.takeWhile p = l
  | [], _ => rfl
  | a :: l, h => by rw [List.takeWhile_cons, h a (by simp), if_pos rfl, takeWhile_eq_all fun x hx => h x (by simp [hx])]
theorem IsName.span {s : ByteArray} (h : IsName s) : spanEnd inNameB s 0 = s.size := by
  unfold spanEnd
  rw [List.drop_zero, takeWhile_eq_all h.all]; simp
theorem IsName.blank0 {s : ByteArray} (h : IsName s) : spanEnd blankB s 0 = 0 := spanEnd_stop h.pos (blank_not_name _ h.letterIn)
theorem extract_all (s : ByteArray) : s.extract 0 s.size = s := by simp

set_option maxHeartbeats 400000 in
theorem each_any (s : ByteArray) (n : Int) (w : World) (hE : Env w) (hs : s.size ≤ 65536) (hno : ∀ c, c ∈ s.data.toList → c ≠ 35) :
    Calls Tryz.prog 53 #[.string s, .int .i64 n] w fun e w' =>
      e = .returned (.func (.func 58) #[] #[.pointer (some ⟨w.heap.size + 1, 0, none⟩), .pointer (some ⟨w.heap.size, 0, none⟩)]) ∧
      ∃ d, w' = ((w.alloc (.cells #[.int .i64 n] 3)).alloc (.cells #[.string s] 9)).drewN d := by
  obtain ⟨m, hm⟩ := hE
  have C := Tryz.strings_Cut s ⟨#[35]⟩ m (w.alloc (.cells #[.int .i64 n] 3)) (by omega) (by rw [World.cell?_alloc_old _ _ _ (Nat.ne_of_lt (World.block_lt_of_cell? _ _ hm))]; exact hm)
  rw [show (⟨#[35]⟩ : ByteArray).data.toList = [35] from rfl, cut_none hno] at C
  clear hm
  go_enter Tryz.func53, Tryz.ntmps53
  go_wp2_with (go_at_call 57; refine C.mono ?_; clear C; rintro e w' ⟨rfl, d, rfl⟩)
  go_ret
  exact ⟨rfl, d, rfl⟩

/-- The token that a line that is the name s has, on line n. -/
def lineTok (s : ByteArray) (n : Int) : Value := .agg #[.int .i64 1, .string s, .int .i64 0, .int .i64 n, .int .i64 1]

set_option maxHeartbeats 1000000 in
theorem each1_in (m : Nat) (Ts : List Nat) (Bs Bn l : Nat) (s : ByteArray) (n : Int) (J Jx : List Unit → World → Prop) (W : World)
    (hm : 1 ≤ m) (hN : IsName s) (hs : W.cell? ⟨Bs, 0, none⟩ = some (.string s)) (hn : W.cell? ⟨Bn, 0, none⟩ = some (.int .i64 n)) (hok : OwnedOk Ts W) (hos : ¬ Owned Ts W Bs) (hon : ¬ Owned Ts W Bn)
    (hJ : AbidesFrom W.heap.size J) (hY : ∀ pre x W1, J pre W1 → pre.length < 1 → YieldAt Fence.wide (m - 1) Tryz.prog l #[lineTok s n, .int .i64 0] W1 fun e W' =>
      (e = .returned (.bool true) ∧ J (pre ++ [x]) W' ∧ Keeps Ts W1 W') ∨ (e = .returned (.bool false) ∧ Jx (pre ++ [x]) W')) (h0 : J [] W) :
    CallsIn Fence.wide m Tryz.prog 58 #[.func (.yield l) #[] #[], .pointer (some ⟨Bs, 0, none⟩), .pointer (some ⟨Bn, 0, none⟩)] W fun e W' => (∃ v, e = .returned v) ∧
      ((∃ ys, ys = [()] ∧ J ys W') ∨ (∃ pre, pre <+: [()] ∧ Jx pre W')) := by
  have hle : s.size ≤ 65536 := by have := hN.le; omega
  have S0 : ∀ w, Calls Tryz.prog 59 #[.string s, .int .i64 0, .func (.func 60) #[] #[]] w fun e w' => e = .returned (.int .i64 0) ∧ w = w' := fun w => by
    have := span_isBlank s 0 w hle (Nat.zero_le _); rw [hN.blank0] at this; exact this
  have S1 : ∀ w, Calls Tryz.prog 59 #[.string s, .int .i64 s.size, .func (.func 60) #[] #[]] w fun e w' => e = .returned (.int .i64 s.size) ∧ w = w' := fun w => by
    have := span_isBlank s s.size w hle (Nat.le_refl _); rw [spanEnd_end (Nat.le_refl _)] at this; exact this
  have S2 : ∀ w, Calls Tryz.prog 61 #[.string s, .int .i64 0] w fun e w' => e = .returned (.tuple #[.agg #[.int .i64 1, .string s, .int .i64 0, .int .i64 0, .int .i64 1], .int .i64 0]) ∧ Below w.heap.size w w' := fun w => by
    have := first_letter s 0 s.size w hle hN.pos hN.first hN.span (by have := hN.le; omega); rw [extract_all] at this; exact this
  have hp := hN.pos
  clear hN
  refine callsIn_of_wp Tryz.func58 rfl trivial ?_ rfl
  simp only [Tryz.ntmps58, List.size_toArray, List.length_cons, List.length_nil, Nat.reduceAdd, Nat.reduceSub, Array.replicate_succ, Array.replicate_zero, List.push_toArray, List.append_toArray, List.nil_append, List.cons_append]
  gi_wp2_with (refine ⟨trivial, ?_⟩; gi_at_call 59; refine (callsIn_wide.2 (S0 _)).mono ?_; rintro e w' ⟨rfl, rfl⟩)
  gi_loopw [4] (fun i wr => (i = .int .i64 0 ∧ wr = W) ∨ (i = .int .i64 s.size ∧ J [()] wr ∧ wr.cell? ⟨Bs, 0, none⟩ = some (.string s))) (fun i _ => s.size - (intOf i).toNat)
  case atStart => exact .inl ⟨rfl, rfl⟩
  case round =>
    rcases hrel with ⟨rfl, rfl⟩ | ⟨rfl, hj, hs2⟩
    · have hYY : ∀ w1, Below wr.heap.size wr w1 →
          (∀ o, (w1.alloc o).cell? ⟨Bn, 0, none⟩ = some (.int .i64 n)) ∧
          YieldAt Fence.wide (m - 1) Tryz.prog l #[lineTok s n, .int .i64 0] (w1.alloc (.cells #[.int .i64 1, .string s, .int .i64 0, .int .i64 n, .int .i64 1] 117)) fun e W' =>
            (e = .returned (.bool true) ∧ J [()] W' ∧ W'.cell? ⟨Bs, 0, none⟩ = some (.string s) ∧ W'.cell? ⟨w1.heap.size, 1, none⟩ = some (.string s)) ∨ (e = .returned (.bool false) ∧ Jx [()] W') := fun w1 hb => by
        have hB2 : Below wr.heap.size wr (w1.alloc (.cells #[.int .i64 1, .string s, .int .i64 0, .int .i64 n, .int .i64 1] 117)) := hb.alloc hb.size _
        have hlt := World.block_lt_of_cell? _ _ hn
        have hlts := World.block_lt_of_cell? _ _ hs
        refine ⟨fun o => ?_, YieldAt.mono (hY [] () _ (abides_below hJ h0 hB2) (by simp)) fun e W' h => ?_⟩
        · exact ((hb.alloc hb.size o).cell (p := ⟨Bn, 0, none⟩) hlt).trans hn
        · rcases h with ⟨he, hj, hk⟩ | ⟨he, hx⟩
          · refine .inl ⟨he, hj, hk.cell (hok.below hB2) ((hB2.cell (p := ⟨Bs, 0, none⟩) hlts).trans hs) (fun h => hos ((owned_below hok hB2 _).1 h)), hk.cell (hok.below hB2) ?_ (fresh_not_owned hok hB2 hb.size)⟩
            unfold World.cell?; rw [World.alloc_heap_new]; rfl
          · exact .inr ⟨he, hx⟩
      unfold lineTok at hYY
      clear hY
      gi_wp2_with (first
        | (refine ⟨trivial, ?_⟩; gi_at_call 61; refine (callsIn_wide.2 (S2 _)).mono ?_; rintro e w1 ⟨rfl, hb⟩; obtain ⟨hc, hf⟩ := bcell hb; obtain ⟨hn1, fn, tmps, assign, body, hy, hR⟩ := hYY w1 hb; clear hYY)
        | (refine hR.mono ?_; clear hR; rintro e W2 (⟨rfl, hJ2, hs2, ht2⟩ | ⟨rfl, hx2⟩))
        | (refine ⟨trivial, ?_⟩; gi_at_call 59; refine (callsIn_wide.2 (S1 _)).mono ?_; rintro e w' ⟨rfl, rfl⟩))
      · exact ⟨.inr ⟨rfl, hJ2, hs2⟩, by simp [intOf]; omega⟩
      · refine bodyPost_ret (results_none rfl _ _ _) rfl ?_
        exact ⟨⟨_, rfl⟩, .inr ⟨[()], List.prefix_rfl, hx2⟩⟩
    · gi_wp2_with fail
      go_end0
      exact ⟨⟨_, rfl⟩, .inl ⟨[()], rfl, hj⟩⟩

/-- A line that is a name: its iterator tells one token. -/
theorem each1_stops (m : Nat) (Ts : List Nat) (Bs Bn : Nat) (s : ByteArray) (n : Int) (w : World)
    (hm : 1 ≤ m) (hN : IsName s) (hs : w.cell? ⟨Bs, 0, none⟩ = some (.string s)) (hn : w.cell? ⟨Bn, 0, none⟩ = some (.int .i64 n)) (hok : OwnedOk Ts w) (hos : ¬ Owned Ts w Bs) (hon : ¬ Owned Ts w Bn) :
    SeqStopsK Fence.wide m Tryz.prog 58 #[.pointer (some ⟨Bs, 0, none⟩), .pointer (some ⟨Bn, 0, none⟩)] (fun _ : Unit => #[lineTok s n, .int .i64 0]) (Keeps Ts) (fun ys => ys = [()]) (fun pre => pre <+: [()]) 1 w :=
  fun l J Jx W hW hJ _ hY h0 =>
    each1_in m Ts Bs Bn l s n J Jx W hm hN ((hW.cell (p := ⟨Bs, 0, none⟩) (World.block_lt_of_cell? _ _ hs)).trans hs) ((hW.cell (p := ⟨Bn, 0, none⟩) (World.block_lt_of_cell? _ _ hn)).trans hn)
      (hok.below hW) (fun h => hos ((owned_below hok hW _).1 h)) (fun h => hon ((owned_below hok hW _).1 h)) hJ hY h0
end Go.Proofs.YtgnnipnnnebpiaaGreatDoor
