/-
  vir's lines: the lines of a text, numbered from 1 on.
-/
import Derived.Test.YtfnfijgknjnccaaGreatDoorVwZ
namespace Go.Proofs.YtfnfijgknjnccaaGreatDoor
open Go.RowKit
attribute [local go_sem] Oper.semAt_some
/-- Lines with their numbers. -/
def enumN : Nat → List ByteArray → List (Nat × ByteArray)
  | _, [] => []
  | k, x :: r => (k + 1, x) :: enumN (k + 1) r
theorem enumN_snoc : ∀ (l : List ByteArray) (k : Nat) (x : ByteArray), enumN k (l ++ [x]) = enumN k l ++ [(k + l.length + 1, x)]
  | [], k, x => by simp [enumN]
  | a :: l, k, x => by
    have := enumN_snoc l (k + 1) x
    simp only [List.cons_append, enumN, this, List.length_cons]
    rw [show k + 1 + l.length + 1 = k + (l.length + 1) + 1 by omega]
theorem enumN_append : ∀ (l r : List ByteArray) (k : Nat), enumN k (l ++ r) = enumN k l ++ enumN (k + l.length) r
  | [], r, k => by simp [enumN]
  | a :: l, r, k => by
    have := enumN_append l r (k + 1)
    simp only [List.cons_append, enumN, this, List.length_cons]
    rw [show k + 1 + l.length = k + (l.length + 1) by omega]
theorem enumN_prefix {p l : List ByteArray} (h : p <+: l) : enumN 0 p <+: enumN 0 l := by
  obtain ⟨r, rfl⟩ := h
  rw [enumN_append]
  exact List.prefix_append _ _
theorem enumN_len : ∀ (l : List ByteArray) (k : Nat), (enumN k l).length = l.length
  | [], _ => rfl
  | _ :: l, k => by simp [enumN, enumN_len l]
def numEnc (x : Nat × ByteArray) : Array Value := #[.int .i64 x.1, .string x.2]
set_option maxHeartbeats 4000000
set_option maxRecDepth 100000
theorem strLines (s : ByteArray) (w : World) : Calls Tryz.prog 28 #[.string s] w fun e w' => e = .returned (.func (.func 53) #[] #[.pointer (some ⟨w.heap.size, 0, none⟩)]) ∧ w' = w.alloc (.cells #[.string s] 9) := by
  go_enter Tryz.func28, Tryz.ntmps28
  go_wp2
  go_ret
  exact ⟨rfl, rfl⟩
theorem virLines (s : ByteArray) (w : World) : Calls Tryz.prog 13 #[.string s] w fun e w' => e = .returned (.func (.func 27) #[] #[.pointer (some ⟨w.heap.size, 0, none⟩)]) ∧ w' = w.alloc (.cells #[.string s] 9) := by
  go_enter Tryz.func13, Tryz.ntmps13
  go_wp2
  go_ret
  exact ⟨rfl, rfl⟩
/-- The frame of a line's round. -/
def enumAct (l Bs b : Nat) (s x : ByteArray) : Act := { tmps := #[.func (.yield l) #[] #[], .pointer (some ⟨Bs, 0, none⟩), .pointer (some ⟨b, 0, none⟩), .pointer (some ⟨b + 1, 0, none⟩), .string x, .string s, .func (.func 53) #[] #[.pointer (some ⟨b + 1 + 1, 0, none⟩)], .string x, undef, undef, undef, undef, undef, undef, undef], defers := [] }
theorem enum_tells (q : Nat → TypeId → Prop) (n Bs : Nat) (hn : 4 ≤ n) (ls : List ByteArray) (w0 : World) (hbs : Cells w0 Bs 9 #[.string (txt (textOf ls))]) (hls : ∀ x, x ∈ ls → LineOk x) (hsz : (textOf ls).length ≤ 65536) (hq : ∀ b, w0.heap.size ≤ b → ¬ q b 9 ∧ ¬ q b 3 ∧ ¬ q b 65) :
    TellsO (fun _ => False) 5 q n Tryz.prog 27 #[.pointer (some ⟨Bs, 0, none⟩)] numEnc (enumN 0 ls) w0 := by
  intro l J W hW hJ hY hj0
  have hbW := hbs.below hW hbs.lt
  have c0 := fun o => cell_alloc o (hbW.cell (j := 0) (v := .string (txt (textOf ls))) rfl)
  have c1 := fun o p => cell_alloc p (cell_alloc o (hbW.cell (j := 0) (v := .string (txt (textOf ls))) rfl))
  replace hY := Lib.hid hY
  replace hJ := Lib.hid hJ
  clear hbs
  refine callsIn_of_wp_marks Tryz.func27 rfl trivial ?_ rfl
  simp only [Tryz.ntmps27, List.size_toArray, List.length_cons, List.length_nil, Nat.reduceAdd, Nat.reduceSub, Array.replicate_succ, Array.replicate_zero, List.push_toArray, List.append_toArray, List.nil_append, List.cons_append]
  gi_wp2_with (refine ⟨trivial, fun h => absurd h (by decide), ?_⟩; refine (callsIn_wide.2 (strLines _ _)).mono ?_; rintro e w' ⟨rfl, rfl⟩)
  have hB3 : Below W.heap.size W (((W.alloc (.cells #[.func (.yield l) #[] #[]] 65)).alloc (.cells #[.int .i64 0] 3)).alloc (.cells #[.string (txt (textOf ls))] 9)) :=
    (belowN.alloc (by simp) _).alloc (by simp; omega) _
  have hq0 : Cells (((W.alloc (.cells #[.func (.yield l) #[] #[]] 65)).alloc (.cells #[.int .i64 0] 3)).alloc (.cells #[.string (txt (textOf ls))] 9)) W.heap.size 65 #[.func (.yield l) #[] #[]] := ((Cells.new W _ _).alloc _).alloc _
  have hq1 : Cells (((W.alloc (.cells #[.func (.yield l) #[] #[]] 65)).alloc (.cells #[.int .i64 0] 3)).alloc (.cells #[.string (txt (textOf ls))] 9)) (W.heap.size + 1) 3 #[.int .i64 0] := by
    have := (Cells.new (W.alloc (.cells #[.func (.yield l) #[] #[]] 65)) 3 #[.int .i64 0]).alloc (.cells #[.string (txt (textOf ls))] 9)
    rw [World.size_alloc] at this; exact this
  have hq2 : Cells (((W.alloc (.cells #[.func (.yield l) #[] #[]] 65)).alloc (.cells #[.int .i64 0] 3)).alloc (.cells #[.string (txt (textOf ls))] 9)) (W.heap.size + 1 + 1) 9 #[.string (txt (textOf ls))] := by
    have := Cells.new ((W.alloc (.cells #[.func (.yield l) #[] #[]] 65)).alloc (.cells #[.int .i64 0] 3)) 9 #[.string (txt (textOf ls))]
    rw [World.size_alloc, World.size_alloc] at this; exact this
  have hz : (((W.alloc (.cells #[.func (.yield l) #[] #[]] 65)).alloc (.cells #[.int .i64 0] 3)).alloc (.cells #[.string (txt (textOf ls))] 9)).heap.size = W.heap.size + 3 := by simp
  generalize ((W.alloc (.cells #[.func (.yield l) #[] #[]] 65)).alloc (.cells #[.int .i64 0] 3)).alloc (.cells #[.string (txt (textOf ls))] 9) = W0 at hB3 hq0 hq1 hq2 hz ⊢
  clear c0 c1 hbW
  have hall := lines_tells (fun b t => q b t ∨ b = W.heap.size + 1) (n - 1) (W.heap.size + 1 + 1) ls W0 hq2 hls hsz (fun h => h.elim (hq _ (by have := hW.size; omega)).1 (fun e => by omega))
  have hwin : ∀ k, Win (fun k => k = W.heap.size + 1 + 1) W0.heap.size (2 + 0) k → Win (fun _ => False) W.heap.size 5 k := fun k hk => .inr (by
    rcases hk with h | h <;> omega)
  have hno : ∀ k, k < W.heap.size + 2 → ¬ Win (fun k => k = W.heap.size + 1 + 1) W0.heap.size (2 + 0) k := fun k hk h => by
    rcases h with h | h <;> omega
  refine range_only (S := fun k => k = W.heap.size + 1 + 1) (c := 0) (q := fun b t => q b t ∨ b = W.heap.size + 1) (n := n) (ps := #[7]) (w := W0) (gf := 53) (lb := #[.pointer (some ⟨W.heap.size + 1 + 1, 0, none⟩)]) (encs := fun x : ByteArray => #[.string x]) (E := ls) (by omega) rfl (enters_of Tryz.func53 (by kernel_rfl) rfl) hall (fun _ => rfl) (fun k hk => by omega)
    (fun pre A => J (enumN 0 pre) A ∧ Cells A W.heap.size 65 #[.func (.yield l) #[] #[]] ∧ Cells A (W.heap.size + 1) 3 #[.int .i64 pre.length])
    (fun pre A B ⟨h1, h2, h3⟩ ho => ⟨hJ.out _ A B h1 (ho.mono hwin), ho.cells h2 (hno _ (by omega)), ho.cells h3 (hno _ (by omega))⟩)
    ⟨hJ.out _ _ _ hj0 (Only.of_below hB3), hq0, hq1⟩
    (fun x a' => a' = enumAct l Bs W.heap.size (txt (textOf ls)) x) ?assign ?body ?done
  case assign =>
    intro l2 pre x A K _ hK
    gi_wp2
    rfl
  case body =>
    rintro l2 pre x a' A ⟨hj, hy, hn2⟩ hpre rfl hAz
    have hpl : pre.length + 1 ≤ 4294967296 := by
      have h1 := hpre.length_le
      have h2 : ls.length ≤ (textOf ls).length := by
        have : ∀ q : List ByteArray, (∀ y, y ∈ q → LineOk y) → q.length ≤ (textOf q).length := fun q => by
          induction q with
          | nil => intro _; exact Nat.zero_le _
          | cons a t ih =>
            intro h
            have h3 := (h a (by simp)).pos
            have h4 := ih (fun y hy => h y (by simp [hy]))
            have h5 : a.data.toList.length = a.size := by rw [Array.length_toList]; rfl
            rw [textOf_cons, List.length_append, List.length_cons]
            omega
        exact this ls hls
      simp at h1
      omega
    have y0 := hy.cell (j := 0) (v := .func (.yield l) #[] #[]) rfl
    have n0 := hn2.cell (j := 0) (v := .int .i64 pre.length) rfl
    have f0 := hn2.frozen 0
    have hi : IntKind.i64.wrap ((pre.length : Int) + 1) = (pre.length : Int) + 1 := IntWalk.i64_in _ (by omega)
    have hA1 : J (enumN 0 pre) (A.setCell ⟨W.heap.size + 1, 0, none⟩ (.int .i64 ((pre.length : Int) + 1))) := hJ.out _ _ _ hj (Only.set (.inr (by omega)))
    have hy1 : Cells (A.setCell ⟨W.heap.size + 1, 0, none⟩ (.int .i64 ((pre.length : Int) + 1))) W.heap.size 65 #[.func (.yield l) #[] #[]] := hy.other (by omega) _
    have hn1 : Cells (A.setCell ⟨W.heap.size + 1, 0, none⟩ (.int .i64 ((pre.length : Int) + 1))) (W.heap.size + 1) 3 #[.int .i64 ((pre.length : Int) + 1)] := hn2.set (j := 0) _
    have hsn : enumN 0 (pre ++ [x]) = enumN 0 pre ++ [(pre.length + 1, x)] := by rw [enumN_snoc, Nat.zero_add]
    have hYY := YieldAt.mono (yieldAt_any (m' := n - 1 - 1 - 1) (hY.out (enumN 0 pre) (pre.length + 1, x) _ hA1 (by rw [← hsn]; exact enumN_prefix hpre) (by rw [World.size_setCell]; omega))) (R' := fun e B => e = .returned (.bool true) ∧ J (enumN 0 (pre ++ [x])) B ∧ StaysQ (fun b t => q b t ∨ b = W.heap.size + 1) A B ∧ KeepsOthers A B ∧ Cells B W.heap.size 65 #[.func (.yield l) #[] #[]] ∧ Cells B (W.heap.size + 1) 3 #[.int .i64 ((pre.length : Int) + 1)]) fun e B ⟨h1, h2, h3, h4⟩ => ⟨h1, by rw [hsn]; exact h2, (StaysQ.of_set (fun _ => .inr rfl)).trans (h3.mono fun _ _ h => .inl h), (KeepsOthers.setCell _ _ _).trans h4, h3.block _ _ _ (hq _ hW.size).2.2 hy1, h3.block _ _ _ (hq _ (by have := hW.size; omega)).2.1 hn1⟩
    obtain ⟨fn, tmps, assign, body, hyy, hR⟩ := hYY
    unfold numEnc at hyy
    dsimp only at hyy
    rw [show ((pre.length + 1 : Nat) : Int) = (pre.length : Int) + 1 by omega] at hyy
    unfold enumAct
    clear hA1 hn1 hy1 hj hsn
    gi_wp2_with (refine ⟨fun h => absurd h (by decide), hR.mono ?_⟩)
    rintro e B ⟨rfl, hj3, hst3, hko3, hy3, hn3⟩
    gi_wp2_with fail
    exact ⟨hko3, hst3, hj3, hy3, by rw [List.length_append, List.length_singleton]; exact hn3⟩
  case done =>
    rintro D X hD ⟨hj, _, _⟩ hK
    subst hD
    have hjD := hJ.out _ _ (X.putObj W0.heap.size (.deferred none)) hj (Only.put (.inr (by omega)))
    gi_wp2
    refine ⟨by simp, .inl ⟨_, _, rfl, run_takeDeferred hK, ?_⟩⟩
    refine ⟨.tuple #[], ?_, ⟨_, rfl⟩, hjD⟩
    simp [results, Tryz.f27, go_sem]
end Go.Proofs.YtfnfijgknjnccaaGreatDoor
