/-
  virrun's Do and Arity: what they answer of any name, width and values.
-/
import Derived.Test.YtpekbaikbgcnmaaVrF
namespace Go.Proofs.Ytpekbaikbgcnmaa
open Go.RowKit Go.Maps
theorem Try.zeroOp (w : World) : (zeroValue 38).run Try.prog w = .ok (.agg #[.int .i64 0, .nilFunc]) w := by kernel_rfl
/-- What is looked up. -/
theorem OpsAt.hit {W : World} {B : Nat} (h : OpsAt W B 13) {s : ByteArray} (hs : s.size ≤ maxLen) {k : Nat} (hk : opNo s = some k) : k < 13 ∧ ∃ g cap, Enters g ∧ FnAt W k g cap ∧
    (Instr.lookup 32 (.map (some B)) (.string s) true).run Try.prog W = .ok (.tuple #[.agg #[.int .i64 (arityK k), .func (.func g) #[] cap], .bool true]) W ∧
    (Instr.lookup 32 (.map (some B)) (.string s) false).run Try.prog W = .ok (.agg #[.int .i64 (arityK k), .func (.func g) #[] cap]) W := by
  obtain ⟨D, hown, hR⟩ := h
  obtain ⟨hlt, he, _⟩ := List.findIdx?_eq_some_iff_getElem.1 hk
  have hk13 : k < 13 := hlt
  have he' : opNames[k]? = some s := by rw [List.getElem?_eq_getElem hlt, of_decide_eq_true he]
  obtain ⟨h1, v, h2, g, cap, rfl, h3, h4⟩ := hR.yes k s hk13 he'
  have hkey := WideMaps.keyOf_string_mk (P := Try.prog) Try.underlying9 hs
  refine ⟨hk13, g, cap, h3, h4, ?_, ?_⟩
  · obtain ⟨v, ps, hrun, hv⟩ := hown.look_ok Try.keyed Try.underlying32 (Try.zeroOp W) (show heldR _ = some (.held _, []) from rfl) hkey
    rw [show (Lit.string s.data.toList) = keyS s from rfl] at hrun hv
    rw [h1] at hrun
    rw [h2] at hv
    injection hv with hv
    injection hv with hv
    injection hv with hv
    rw [hrun, hv]
  · obtain ⟨v, ps, hrun, hv⟩ := hown.lookup Try.keyed Try.underlying32 (Try.zeroOp W) (show heldR _ = some (.held _, []) from rfl) hkey
    rw [show (Lit.string s.data.toList) = keyS s from rfl, h2] at hv
    injection hv with hv
    injection hv with hv
    injection hv with hv
    rw [hrun, hv]
theorem OpsAt.miss {W : World} {B : Nat} (h : OpsAt W B 13) {s : ByteArray} (hs : s.size ≤ maxLen) (hk : opNo s = none) :
    (Instr.lookup 32 (.map (some B)) (.string s) true).run Try.prog W = .ok (.tuple #[.agg #[.int .i64 0, .nilFunc], .bool false]) W ∧
    (Instr.lookup 32 (.map (some B)) (.string s) false).run Try.prog W = .ok (.agg #[.int .i64 0, .nilFunc]) W := by
  obtain ⟨D, hown, hR⟩ := h
  have hno : has D (keyS s) = false := hR.no s (fun hm => by
    have := List.findIdx?_eq_none_iff.1 hk s (List.mem_of_mem_take hm)
    exact absurd rfl (of_decide_eq_false this))
  have hkey := WideMaps.keyOf_string_mk (P := Try.prog) Try.underlying9 hs
  refine ⟨?_, ?_⟩
  · obtain ⟨v, ps, hrun, hv⟩ := hown.look_ok Try.keyed Try.underlying32 (Try.zeroOp W) (show heldR _ = some (.held _, []) from rfl) hkey
    rw [show (Lit.string s.data.toList) = keyS s from rfl] at hrun hv
    rw [hno] at hrun
    rw [atKey_of_not_has hno] at hv
    injection hv with hv
    injection hv with hv
    injection hv with hv
    rw [hrun, hv]
  · obtain ⟨v, ps, hrun, hv⟩ := hown.lookup Try.keyed Try.underlying32 (Try.zeroOp W) (show heldR _ = some (.held _, []) from rfl) hkey
    rw [show (Lit.string s.data.toList) = keyS s from rfl, atKey_of_not_has hno] at hv
    injection hv with hv
    injection hv with hv
    injection hv with hv
    rw [hrun, hv]
theorem Try.opField0 (x : Int) (f : Value) (w : World) : (Instr.field 38 (.agg #[.int .i64 x, f]) 0).run Try.prog w = .ok (.int .i64 x) w := by kernel_rfl
/-- Arity. -/
def arityS (s : ByteArray) : Int := match opNo s with | some k => (arityK k : Int) | none => 0
theorem vrArity (s : ByteArray) (hs : s.size ≤ maxLen) (w : World) : Calls Try.prog 9 #[.string s] w fun e w' => e = .returned (.int .i64 (arityS s)) ∧ Below w.heap.size w w' := by
  cases hk : opNo s with
  | some k =>
    have hr : arityS s = (arityK k : Int) := by unfold arityS; rw [hk]
    rw [hr]
    have hf := Try.opField0
    go_enter Try.func9, Try.ntmps9
    go_wp2_with (go_at_call 13; refine (vrAll _).mono ?_; rintro e W1 ⟨B, rfl, _, hA, hb⟩; obtain ⟨_, g, cap, _, _, _, hl⟩ := hA.hit hs hk)
    go_ret
    exact ⟨rfl, hb⟩
  | none =>
    have hr : arityS s = 0 := by unfold arityS; rw [hk]
    rw [hr]
    have hf := Try.opField0
    go_enter Try.func9, Try.ntmps9
    go_wp2_with (go_at_call 13; refine (vrAll _).mono ?_; rintro e W1 ⟨B, rfl, _, hA, hb⟩; obtain ⟨_, hl⟩ := hA.miss hs hk)
    go_ret
    exact ⟨rfl, hb⟩
theorem u64_rng (z : Int) : 0 ≤ IntKind.u64.wrap z ∧ IntKind.u64.wrap z < 18446744073709551616 := by rw [IntKind.wrap_u64]; omega
/-- Numbers in a row. -/
def IntsL (W : World) (a : Option Addr) (l : List Int) : Prop := ∀ (j : Nat) (x : Int), l[j]? = some x → ∃ b o, a = some ⟨b, o, none⟩ ∧ W.cell? ⟨b, o + j, none⟩ = some (.int .i64 x)
theorem cell_below {W W' : World} {p : Addr} {v : Value} (hb : Below W.heap.size W W') (h : W.cell? p = some v) : W'.cell? p = some v := (hb.cell (World.block_lt_of_cell? _ _ h)).trans h
theorem IntsL.below {W V : World} {a : Option Addr} {l : List Int} (h : IntsL W a l) (hb : Below W.heap.size W V) : IntsL V a l := fun j x hx => by
  obtain ⟨b, o, h1, h2⟩ := h j x hx
  exact ⟨b, o, h1, cell_below hb h2⟩
set_option maxHeartbeats 4000000
set_option maxRecDepth 100000
theorem vrDoNo {B : Nat} {s : ByteArray} {width : Int} {a : Option Addr} {n c : Nat} {l : List Int} {W : World} (hA : OpsAt W B 13) (hs : s.size ≤ maxLen) (hn : n = l.length) (hno : ∀ k, opNo s = some k → l.length ≠ arityK k) :
    Calls Try.prog 14 #[.map (some B), .string s, .int .i64 width, .slice a n c] W fun e w' => e = .returned (.tuple #[.int .i64 0, .bool false]) ∧ Below W.heap.size W w' := by
  cases hk : opNo s with
  | some k =>
    obtain ⟨_, g, cap, _, _, hl, _⟩ := hA.hit hs hk
    have hne := hno k hk
    rw [← hn] at hne
    clear hA hs hno hk hn
    generalize arityK k = q at *
    have hne2 : ¬ (n : Int) = q := by omega
    go_enter Try.func14, Try.ntmps14
    go_wp2
    go_ret2
    exact ⟨rfl, (Below.refl _ _).alloc (Nat.le_refl _) _⟩
  | none =>
    obtain ⟨hl, _⟩ := hA.miss hs hk
    go_enter Try.func14, Try.ntmps14
    go_wp2
    go_ret2
    exact ⟨rfl, (Below.refl _ _).alloc (Nat.le_refl _) _⟩
theorem vrDoOne {B : Nat} {s : ByteArray} {width x : Int} {b o c : Nat} {W : World} (hA : OpsAt W B 13) (hs : s.size ≤ maxLen) (hk : opNo s = some 12) (hc : W.cell? ⟨b, o, none⟩ = some (.int .i64 x)) :
    Calls Try.prog 14 #[.map (some B), .string s, .int .i64 width, .slice (some ⟨b, o, none⟩) 1 c] W fun e w' => e = .returned (.tuple #[.int .i64 (doS s width [x]).1, .bool (doS s width [x]).2]) ∧ Below W.heap.size W w' := by
  obtain ⟨_, g, cap, eg, hF, hl, _⟩ := hA.hit hs hk
  have hr := doS_fn hk (by decide) width [x] rfl
  have ha : (arityK 12 : Int) = 1 := rfl
  rw [ha] at hl
  rw [if_pos rfl, show [x].getD 0 0 = x from rfl] at hr
  rw [← hr, IntWalk.i64_left]
  clear hr ha hA hs hk
  replace hF := Lib.hid hF
  have hK : ∀ p q, Keep W ((W.alloc p).alloc q) := fun p q => .of_below (((Below.refl _ _).alloc (Nat.le_refl _) _).alloc (by simp) _)
  have hc2 : ∀ p q, ((W.alloc p).alloc q).cell? ⟨b, o, none⟩ = some (.int .i64 x) := fun p q => cell_below (((Below.refl _ _).alloc (Nat.le_refl _) _).alloc (by simp) _) hc
  go_enter Try.func14, Try.ntmps14
  go_wp2
  refine wp_loop_rounds 2 ?_
  rw [rounds_succ]
  go_wp2_with (go_at_call 31; refine (vrCut _ _ _).mono ?_; rintro e W1 ⟨rfl, rfl⟩)
  rw [rounds_succ]
  go_wp2_with (first | (go_at_fn g; refine (hF.out _ (IntKind.u64.wrap (cutS x width)) 0 (hK _ _) (u64_rng _).1 (u64_rng _).2 (by decide) (by decide)).mono ?_; rintro e W1 ⟨rfl, rfl⟩) | (go_at_call 31; refine (vrCut _ _ _).mono ?_; rintro e W1 ⟨rfl, rfl⟩))
  go_ret2
  exact ⟨rfl, ((Below.refl _ _).alloc (Nat.le_refl _) _).alloc (by simp) _⟩
theorem vrDoTwo {B : Nat} {s : ByteArray} {width x y : Int} {k : Nat} {b o c : Nat} {W : World} (hA : OpsAt W B 13) (hs : s.size ≤ maxLen) (hk : opNo s = some k) (h12 : k < 12) (hc : W.cell? ⟨b, o, none⟩ = some (.int .i64 x)) (hd : W.cell? ⟨b, o + 1, none⟩ = some (.int .i64 y)) :
    Calls Try.prog 14 #[.map (some B), .string s, .int .i64 width, .slice (some ⟨b, o, none⟩) 2 c] W fun e w' => e = .returned (.tuple #[.int .i64 (doS s width [x, y]).1, .bool (doS s width [x, y]).2]) ∧ Below W.heap.size W w' := by
  obtain ⟨_, g, cap, eg, hF, hl, _⟩ := hA.hit hs hk
  have ha0 : [x, y].length = arityK k := by unfold arityK; rw [if_neg (by omega)]; rfl
  have hr := doS_fn hk (by omega) width [x, y] ha0
  have ha : (arityK k : Int) = 2 := by rw [← ha0]; rfl
  rw [ha] at hl
  rw [if_neg (by omega), show [x, y].getD 0 0 = x from rfl, show [x, y].getD 1 0 = y from rfl] at hr
  rw [← hr, IntWalk.i64_left]
  clear hr ha ha0 hA hs hk h12
  replace hF := Lib.hid hF
  have hK : ∀ p q, Keep W ((W.alloc p).alloc q) := fun p q => .of_below (((Below.refl _ _).alloc (Nat.le_refl _) _).alloc (by simp) _)
  have hd2 : ∀ p q, ((W.alloc p).alloc q).cell? ⟨b, o + 1, none⟩ = some (.int .i64 y) := fun p q => cell_below (((Below.refl _ _).alloc (Nat.le_refl _) _).alloc (by simp) _) hd
  have hc2 : ∀ p q, ((W.alloc p).alloc q).cell? ⟨b, o, none⟩ = some (.int .i64 x) := fun p q => cell_below (((Below.refl _ _).alloc (Nat.le_refl _) _).alloc (by simp) _) hc
  go_enter Try.func14, Try.ntmps14
  go_wp2
  refine wp_loop_rounds 3 ?_
  rw [rounds_succ]
  go_wp2_with (go_at_call 31; refine (vrCut _ _ _).mono ?_; rintro e W1 ⟨rfl, rfl⟩)
  rw [rounds_succ]
  go_wp2_with (go_at_call 31; refine (vrCut _ _ _).mono ?_; rintro e W1 ⟨rfl, rfl⟩)
  rw [rounds_succ]
  go_wp2_with (first | (go_at_fn g; refine (hF.out _ (IntKind.u64.wrap (cutS x width)) (IntKind.u64.wrap (cutS y width)) (hK _ _) (u64_rng _).1 (u64_rng _).2 (u64_rng _).1 (u64_rng _).2).mono ?_; rintro e W1 ⟨rfl, rfl⟩) | (go_at_call 31; refine (vrCut _ _ _).mono ?_; rintro e W1 ⟨rfl, rfl⟩))
  go_ret2
  exact ⟨rfl, ((Below.refl _ _).alloc (Nat.le_refl _) _).alloc (by simp) _⟩
/-- Do of any values. -/
theorem vrDo {s : ByteArray} {width : Int} {a : Option Addr} {c : Nat} {l : List Int} {W : World} (hs : s.size ≤ maxLen) (hl : IntsL W a l) :
    Calls Try.prog 7 #[.string s, .int .i64 width, .slice a l.length c] W fun e w' => e = .returned (.tuple #[.int .i64 (doS s width l).1, .bool (doS s width l).2]) ∧ Below W.heap.size W w' := by
  have K : ∀ V B, Below W.heap.size W V → OpsAt V B 13 → Calls Try.prog 14 #[.map (some B), .string s, .int .i64 width, .slice a l.length c] V fun e w' => e = .returned (.tuple #[.int .i64 (doS s width l).1, .bool (doS s width l).2]) ∧ Below V.heap.size V w' := fun V B hb hA => by
    have hlV := hl.below hb
    by_cases hno : ∀ k, opNo s = some k → l.length ≠ arityK k
    · have e : doS s width l = (0, false) := by
        unfold doS doW
        cases hk : opNo s with
        | none => rfl
        | some k => simp only [if_neg (hno k hk)]
      rw [e]
      exact vrDoNo hA hs rfl hno
    · have hno' : ∃ k, opNo s = some k ∧ l.length = arityK k := Classical.byContradiction fun hn => hno fun k hk h => hn ⟨k, hk, h⟩
      obtain ⟨k, hk, hlen⟩ := hno'
      obtain ⟨hk13, _⟩ := hA.hit hs hk
      by_cases h12 : k = 12
      · subst h12
        match l, hlen, hlV with
        | [x], _, hlV =>
          obtain ⟨b, o, rfl, hc⟩ := hlV 0 x rfl
          exact vrDoOne hA hs hk hc
      · have h2 : arityK k = 2 := by unfold arityK; rw [if_neg h12]
        rw [h2] at hlen
        match l, hlen, hlV with
        | [x, y], _, hlV =>
          obtain ⟨b, o, rfl, hc⟩ := hlV 0 x rfl
          obtain ⟨b2, o2, he, hd⟩ := hlV 1 y rfl
          cases he
          exact vrDoTwo hA hs hk (by omega) hc hd
  generalize doS s width l = q at *
  clear hl
  generalize l.length = n at *
  replace K := Lib.hid K
  go_enter Try.func7, Try.ntmps7
  go_wp2_with (first | (go_at_call 13; refine (vrAll _).mono ?_; rintro e W1 ⟨B, rfl, _, hA, hb⟩; replace hA := Lib.hid hA) | (go_at_call 14; refine (K.out _ _ hb hA.out).mono ?_; rintro e W2 ⟨rfl, hb2⟩))
  go_ret2
  exact ⟨rfl, hb.trans (hb2.mono hb.size)⟩
end Go.Proofs.Ytpekbaikbgcnmaa
