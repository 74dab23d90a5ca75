/-
  The map of all operations is what it should be.
-/
import Derived.Test.YtpekbaikbgcnmaaVrE
namespace Go.Proofs.Ytpekbaikbgcnmaa
open Go.RowKit Go.Maps
theorem op_always {W : World} {k : Nat} {g : FuncId} {c : Nat} {t : TypeId} (h : W.heap[c]? = some (.cells #[.func (.func g) #[] #[]] t (0, 0))) (eg : Enters g) (hk : ∀ a b, (fnU k a b).2 = true) (ha : arityK k = 2)
    (K : ∀ (V : World) (a b : Int), 0 ≤ a → 0 ≤ b → b < 18446744073709551616 → Calls Try.prog g #[.int .u64 a, .int .u64 b] V fun e w' => e = .returned (.int .u64 (fnU k a b).1) ∧ V = w') :
    OpAt W (.agg #[.int .i64 2, .func (.func 32) #[] #[.pointer (some ⟨c, 0, none⟩)]]) k :=
  ⟨32, #[.pointer (some ⟨c, 0, none⟩)], by rw [ha]; rfl, enters_of Try.func32 (by kernel_rfl) rfl, fun V a b hV h0 _ h2 h3 => by
    rw [hk a b]
    exact alwaysFn0 (hV.cell h) eg (K V a b h0 h2 h3)⟩
theorem op_unless {W : World} {k : Nat} {g : FuncId} {c : Nat} {t : TypeId} (h : W.heap[c]? = some (.cells #[.func (.func g) #[] #[]] t (0, 0))) (eg : Enters g) (hz : ∀ a, fnU k a 0 = (0, false)) (hk : ∀ a b, ¬ b = 0 → (fnU k a b).2 = true) (ha : arityK k = 2)
    (K : ∀ (V : World) (a b : Int), 0 ≤ a → a < 18446744073709551616 → 0 < b → Calls Try.prog g #[.int .u64 a, .int .u64 b] V fun e w' => e = .returned (.int .u64 (fnU k a b).1) ∧ V = w') :
    OpAt W (.agg #[.int .i64 2, .func (.func 33) #[] #[.pointer (some ⟨c, 0, none⟩)]]) k :=
  ⟨33, #[.pointer (some ⟨c, 0, none⟩)], by rw [ha]; rfl, enters_of Try.func33 (by kernel_rfl) rfl, fun V a b hV h0 h1 h2 h3 => by
    by_cases hb : b = 0
    · subst hb
      rw [hz a]
      exact unlessNo
    · rw [hk a b hb]
      exact unlessFn (hV.cell h) eg hb (K V a b h0 h1 (by omega))⟩
theorem op_whether {W : World} {k : Nat} {g : FuncId} {c d : Nat} {t u : TypeId} (h : W.heap[c]? = some (.cells #[.func (.func 34) #[] #[.pointer (some ⟨d, 0, none⟩)]] t (0, 0))) (h' : W.heap[d]? = some (.cells #[.func (.func g) #[] #[]] u (0, 0))) (eg : Enters g) (f : Int → Int → Bool)
    (hk : ∀ a b, fnU k a b = (if f a b then 1 else 0, true)) (ha : arityK k = 2)
    (K : ∀ (V : World) (a b : Int), Calls Try.prog g #[.int .u64 a, .int .u64 b] V fun e w' => e = .returned (.bool (f a b)) ∧ V = w') :
    OpAt W (.agg #[.int .i64 2, .func (.func 32) #[] #[.pointer (some ⟨c, 0, none⟩)]]) k :=
  ⟨32, #[.pointer (some ⟨c, 0, none⟩)], by rw [ha]; rfl, enters_of Try.func32 (by kernel_rfl) rfl, fun V a b hV h0 _ h2 h3 => by
    rw [hk a b]
    exact alwaysFn1 (hV.cell h) (enters_of Try.func34 (by kernel_rfl) rfl) (whetherFn (hV.cell h') eg (K V a b))⟩
/-- What a call that makes an operation leaves. -/
def OpMade (w : World) (k : Nat) (e : Ending) (w' : World) : Prop := ∃ v, e = .returned v ∧ OpAt w' v k ∧ Below w.heap.size w w'

theorem mkAdd (w : World) : Calls Try.prog 15 #[.func (.func 16) #[] #[]] w (OpMade w 0) :=
  (alwaysMk _ _ w).mono fun _ _ ⟨_, h1, h2, _, _, h4⟩ => ⟨_, h1, op_always h4 (enters_of Try.func16 (by kernel_rfl) rfl) (fun _ _ => rfl) rfl (fun V a b _ _ _ => vrAdd a b V), h2⟩
theorem mkSub (w : World) : Calls Try.prog 15 #[.func (.func 17) #[] #[]] w (OpMade w 1) :=
  (alwaysMk _ _ w).mono fun _ _ ⟨_, h1, h2, _, _, h4⟩ => ⟨_, h1, op_always h4 (enters_of Try.func17 (by kernel_rfl) rfl) (fun _ _ => rfl) rfl (fun V a b _ _ _ => vrSub a b V), h2⟩
theorem mkMul (w : World) : Calls Try.prog 15 #[.func (.func 18) #[] #[]] w (OpMade w 2) :=
  (alwaysMk _ _ w).mono fun _ _ ⟨_, h1, h2, _, _, h4⟩ => ⟨_, h1, op_always h4 (enters_of Try.func18 (by kernel_rfl) rfl) (fun _ _ => rfl) rfl (fun V a b _ _ _ => vrMul a b V), h2⟩
theorem mkAnd (w : World) : Calls Try.prog 15 #[.func (.func 19) #[] #[]] w (OpMade w 3) :=
  (alwaysMk _ _ w).mono fun _ _ ⟨_, h1, h2, _, _, h4⟩ => ⟨_, h1, op_always h4 (enters_of Try.func19 (by kernel_rfl) rfl) (fun _ _ => rfl) rfl (fun V a b _ _ _ => vrAnd a b V), h2⟩
theorem mkOr (w : World) : Calls Try.prog 15 #[.func (.func 20) #[] #[]] w (OpMade w 4) :=
  (alwaysMk _ _ w).mono fun _ _ ⟨_, h1, h2, _, _, h4⟩ => ⟨_, h1, op_always h4 (enters_of Try.func20 (by kernel_rfl) rfl) (fun _ _ => rfl) rfl (fun V a b _ _ _ => vrOr a b V), h2⟩
theorem mkXor (w : World) : Calls Try.prog 15 #[.func (.func 21) #[] #[]] w (OpMade w 5) :=
  (alwaysMk _ _ w).mono fun _ _ ⟨_, h1, h2, _, _, h4⟩ => ⟨_, h1, op_always h4 (enters_of Try.func21 (by kernel_rfl) rfl) (fun _ _ => rfl) rfl (fun V a b _ _ _ => vrXor a b V), h2⟩
theorem mkShl (w : World) : Calls Try.prog 15 #[.func (.func 22) #[] #[]] w (OpMade w 6) :=
  (alwaysMk _ _ w).mono fun _ _ ⟨_, h1, h2, _, _, h4⟩ => ⟨_, h1, op_always h4 (enters_of Try.func22 (by kernel_rfl) rfl) (fun _ _ => rfl) rfl (fun V a b _ h2 h3 => vrShl a b h2 h3 V), h2⟩
theorem mkShr (w : World) : Calls Try.prog 15 #[.func (.func 23) #[] #[]] w (OpMade w 7) :=
  (alwaysMk _ _ w).mono fun _ _ ⟨_, h1, h2, _, _, h4⟩ => ⟨_, h1, op_always h4 (enters_of Try.func23 (by kernel_rfl) rfl) (fun _ _ => rfl) rfl (fun V a b _ h2 h3 => vrShr a b h2 h3 V), h2⟩
theorem mkDiv (w : World) : Calls Try.prog 24 #[.func (.func 25) #[] #[]] w (OpMade w 8) :=
  (unlessMk _ _ w).mono fun _ _ ⟨_, h1, h2, _, _, h4⟩ => ⟨_, h1, op_unless h4 (enters_of Try.func25 (by kernel_rfl) rfl) (fun _ => rfl) (fun a b hb => by show (if b = 0 then ((0 : Int), false) else _).2 = true; rw [if_neg hb]) rfl (fun V a b h0 h1 h2 => vrDiv a b h0 h1 h2 V), h2⟩
theorem mkRem (w : World) : Calls Try.prog 24 #[.func (.func 26) #[] #[]] w (OpMade w 9) :=
  (unlessMk _ _ w).mono fun _ _ ⟨_, h1, h2, _, _, h4⟩ => ⟨_, h1, op_unless h4 (enters_of Try.func26 (by kernel_rfl) rfl) (fun _ => rfl) (fun a b hb => by show (if b = 0 then ((0 : Int), false) else _).2 = true; rw [if_neg hb]) rfl (fun V a b h0 _ h2 => vrRem a b h0 h2 V), h2⟩
theorem mkLt (w : World) : Calls Try.prog 27 #[.func (.func 28) #[] #[]] w (OpMade w 10) :=
  (whetherMk _ w).mono fun _ _ ⟨_, _, h1, h2, _, _, ⟨_, h4⟩, _, h5⟩ => ⟨_, h1, op_whether h4 h5 (enters_of Try.func28 (by kernel_rfl) rfl) (fun a b => decide (a < b)) (fun a b => by show ((if a < b then (1 : Int) else 0), true) = _; simp) rfl (fun V a b => vrLt a b V), h2⟩
theorem mkEq (w : World) : Calls Try.prog 27 #[.func (.func 29) #[] #[]] w (OpMade w 11) :=
  (whetherMk _ w).mono fun _ _ ⟨_, _, h1, h2, _, _, ⟨_, h4⟩, _, h5⟩ => ⟨_, h1, op_whether h4 h5 (enters_of Try.func29 (by kernel_rfl) rfl) (fun a b => decide (a = b)) (fun a b => by show ((if a = b then (1 : Int) else 0), true) = _; simp) rfl (fun V a b => vrEq a b V), h2⟩
theorem mkNot (w : World) : OpAt w (.agg #[.int .i64 1, .func (.func 30) #[] #[]]) 12 :=
  ⟨30, #[], rfl, enters_of Try.func30 (by kernel_rfl) rfl, fun V a b _ _ _ _ _ => vrNot a b V⟩
set_option maxHeartbeats 8000000
set_option maxRecDepth 100000
theorem vrAll (w : World) : Calls Try.prog 13 #[] w fun e w' => ∃ B, e = .returned (.map (some B)) ∧ w.heap.size ≤ B ∧ OpsAt w' B 13 ∧ Below w.heap.size w w' := by
  have hmm := @run_makeMap Try.prog
  have hA : OpsAt (w.alloc (.map #[] 0)) w.heap.size 0 := ⟨_, World.ownsMap_made _ _ _ _, OpsR.nil _⟩
  have hbw : Below w.heap.size w (w.alloc (.map #[] 0)) := (Below.refl _ _).alloc (Nat.le_refl _) _
  replace hA := Lib.hid hA
  replace hbw := Lib.hid hbw
  go_enter Try.func13, Try.ntmps13
  go_wp2_with (first
    | (go_at_call 15; refine Calls.mono (mkAdd _) ?_; rintro e W1 ⟨v, rfl, hO, hb⟩; replace hA := Lib.hid (hA.out.below hb); replace hbw := Lib.hid (hbw.out.trans (hb.mono hbw.out.size)); replace hO := Lib.hid hO; clear hb)
    | (go_at_call 15; refine Calls.mono (mkSub _) ?_; rintro e W1 ⟨v, rfl, hO, hb⟩; replace hA := Lib.hid (hA.out.below hb); replace hbw := Lib.hid (hbw.out.trans (hb.mono hbw.out.size)); replace hO := Lib.hid hO; clear hb)
    | (go_at_call 15; refine Calls.mono (mkMul _) ?_; rintro e W1 ⟨v, rfl, hO, hb⟩; replace hA := Lib.hid (hA.out.below hb); replace hbw := Lib.hid (hbw.out.trans (hb.mono hbw.out.size)); replace hO := Lib.hid hO; clear hb)
    | (go_at_call 15; refine Calls.mono (mkAnd _) ?_; rintro e W1 ⟨v, rfl, hO, hb⟩; replace hA := Lib.hid (hA.out.below hb); replace hbw := Lib.hid (hbw.out.trans (hb.mono hbw.out.size)); replace hO := Lib.hid hO; clear hb)
    | (go_at_call 15; refine Calls.mono (mkOr _) ?_; rintro e W1 ⟨v, rfl, hO, hb⟩; replace hA := Lib.hid (hA.out.below hb); replace hbw := Lib.hid (hbw.out.trans (hb.mono hbw.out.size)); replace hO := Lib.hid hO; clear hb)
    | (go_at_call 15; refine Calls.mono (mkXor _) ?_; rintro e W1 ⟨v, rfl, hO, hb⟩; replace hA := Lib.hid (hA.out.below hb); replace hbw := Lib.hid (hbw.out.trans (hb.mono hbw.out.size)); replace hO := Lib.hid hO; clear hb)
    | (go_at_call 15; refine Calls.mono (mkShl _) ?_; rintro e W1 ⟨v, rfl, hO, hb⟩; replace hA := Lib.hid (hA.out.below hb); replace hbw := Lib.hid (hbw.out.trans (hb.mono hbw.out.size)); replace hO := Lib.hid hO; clear hb)
    | (go_at_call 15; refine Calls.mono (mkShr _) ?_; rintro e W1 ⟨v, rfl, hO, hb⟩; replace hA := Lib.hid (hA.out.below hb); replace hbw := Lib.hid (hbw.out.trans (hb.mono hbw.out.size)); replace hO := Lib.hid hO; clear hb)
    | (go_at_call 24; refine Calls.mono (mkDiv _) ?_; rintro e W1 ⟨v, rfl, hO, hb⟩; replace hA := Lib.hid (hA.out.below hb); replace hbw := Lib.hid (hbw.out.trans (hb.mono hbw.out.size)); replace hO := Lib.hid hO; clear hb)
    | (go_at_call 24; refine Calls.mono (mkRem _) ?_; rintro e W1 ⟨v, rfl, hO, hb⟩; replace hA := Lib.hid (hA.out.below hb); replace hbw := Lib.hid (hbw.out.trans (hb.mono hbw.out.size)); replace hO := Lib.hid hO; clear hb)
    | (go_at_call 27; refine Calls.mono (mkLt _) ?_; rintro e W1 ⟨v, rfl, hO, hb⟩; replace hA := Lib.hid (hA.out.below hb); replace hbw := Lib.hid (hbw.out.trans (hb.mono hbw.out.size)); replace hO := Lib.hid hO; clear hb)
    | (go_at_call 27; refine Calls.mono (mkEq _) ?_; rintro e W1 ⟨v, rfl, hO, hb⟩; replace hA := Lib.hid (hA.out.below hb); replace hbw := Lib.hid (hbw.out.trans (hb.mono hbw.out.size)); replace hO := Lib.hid hO; clear hb)
    | (refine wpList_insert_op _ hA.out hO.out (by decide) hbw.out (Nat.le_refl _) rfl _ _ _ rfl rfl rfl rfl ?_; clear hA hO hbw; intro W hA hbw; replace hA := Lib.hid hA; replace hbw := Lib.hid hbw)
    | (refine wpList_insert_op _ hA.out (mkNot _) (by decide) hbw.out (Nat.le_refl _) rfl _ _ _ rfl rfl rfl rfl ?_; clear hA hbw; intro W hA hbw; replace hA := Lib.hid hA; replace hbw := Lib.hid hbw))
  go_ret
  exact ⟨w.heap.size, rfl, Nat.le_refl _, hA.out, hbw.out⟩
end Go.Proofs.Ytpekbaikbgcnmaa
