/-
  MdcheckRoom answers true: the walk.
-/
import Derived.Test.YtanbjaohmhoohaaGreatDoorSmOne
import Derived.Deep.Cut
namespace Go.Proofs.YtanbjaohmhoohaaGreatDoor
open Go.RowKit

def MV.cells8 (m : MV) : Array Value := #[.string m.name, .slice m.regs.a m.regs.n m.regs.c, .slice m.classes.a m.classes.n m.classes.c, .slice m.ops.a m.ops.n m.ops.c, .slice m.args.a m.args.n m.args.c, .string m.result, .slice m.saved.a m.saved.n m.saved.c, .int .i64 m.slots]

/-- 'append' of any number of elements at a step of a region that draws. -/
theorem step_append_any {w : World} {ops : Array Oper} {o : Oper} {a : Act} {K : Act → World → Prop} {Q : Exit → Act → World → Prop} {E : Prop} (hgd : o.guard = none) (s x : Operand) (t : TypeId)
    (ho : o.op = .call { callee := .builtin .append, args := #[s, x], argTypes := #[t, t] })
    (base : Nat) (e : TypeId) (i : TypeInfo) (z : Value) (size bytes : Nat) (ht : Tryz.prog.underlying t = some (.slice e)) (hi : Tryz.prog.info? e = some i) (hz : i.zero = some z)
    (hsize : i.size = size) (hby : i.bytes = bytes) (hzs : z.cells.size = size) (hsz : 0 < size)
    (n : Nat) (xs : List Value) (v : Value) (hs : a.eval s = v) (hown : w.ownsRow base e size v n xs)
    (ad : Addr) (m c : Nat) (news : List Value) (hx : a.eval x = .slice (some ad) m c) (hl : news.length = m * size) (hnews : ∀ j u, news[j]? = some u → w.cell? (ad.add j) = some u) (h1 : ∀ u ∈ news, u.oneCell' = true)
    (h63 : n + m ≤ maxLen) (hbytes : (n + m) * bytes ≤ 140737488355328) (hbase : base ≤ w.heap.size) (r : Nat) (hr : n + m = r)
    (h : ∀ g cap w', w'.ownsRow base e size (.slice g r cap) r (xs ++ news) → w.grownBy w' v.ownBlock → K (a.put o.dst (.slice g r cap)) w') :
    if Region.wanted o (yielded ops a.tmps) = true then Oper.wp Tryz.prog o a w K Q else E := by
  have hw : Region.wanted o (yielded ops a.tmps) = true := by simp [Region.wanted, hgd]
  rw [if_pos hw]
  obtain ⟨v', w', hrun, h2, h3, _, _⟩ := run_append_own_at (P := Tryz.prog) w base t o.type e i z size bytes ht hi hz hsize hby hzs hsz v n xs hown ad m c news hl hnews h1 h63 hbytes hbase
  obtain ⟨g, cap, rfl⟩ := ownsRow_form h2
  rw [hr] at h2 hrun
  unfold Oper.wp execOp
  simp only [ho, resolve, invoke, builtin, Sem.run_bind, Sem.run_pure, Result.andThen_ok, List.map_toArray, List.map_cons, List.map_nil, hs, hx, hrun]
  exact h g cap w' h2 h3

set_option maxRecDepth 100000 in
set_option maxHeartbeats 8000000 in
theorem room_any (n c : Int) (w : World) (hE : Env w) : Calls Tryz.prog 8 #[.int .i64 n, .int .i64 c] w fun e w' => e = .returned (.bool true) ∧ Below w.heap.size w w' := by
  have A := mdAlive w hE
  by_cases h1 : n < 2
  · go_enter Tryz.func8, Tryz.ntmps8
    go_wp2_with (go_at_call 9; refine A.mono ?_; clear A; rintro e W1 ⟨rfl, hb1⟩)
    go_ret
    exact ⟨rfl, hb1⟩
  by_cases h2 : 40 < n
  · go_enter Tryz.func8, Tryz.ntmps8
    go_wp2_with (go_at_call 9; refine A.mono ?_; clear A; rintro e W1 ⟨rfl, hb1⟩)
    go_ret
    exact ⟨rfl, hb1⟩
  by_cases h3 : c < 0
  · go_enter Tryz.func8, Tryz.ntmps8
    go_wp2_with (go_at_call 9; refine A.mono ?_; clear A; rintro e W1 ⟨rfl, hb1⟩)
    go_ret
    exact ⟨rfl, hb1⟩
  by_cases h4 : n < c
  · go_enter Tryz.func8, Tryz.ntmps8
    go_wp2_with (go_at_call 9; refine A.mono ?_; clear A; rintro e W1 ⟨rfl, hb1⟩)
    go_ret
    exact ⟨rfl, hb1⟩
  obtain ⟨nn, rfl⟩ : ∃ k : Nat, n = k := ⟨n.toNat, by omega⟩
  obtain ⟨cc, rfl⟩ : ∃ k : Nat, c = k := ⟨c.toNat, by omega⟩
  have c0 : (0 : Int) ≤ cc := Int.natCast_nonneg _
  have S : ∀ W, Calls Tryz.prog 19 #[.int .i64 nn] W (SmallPost W nn) := fun W => small_any nn W (by omega)
  go_enter Tryz.func8, Tryz.ntmps8
  go_upto_region 5 with (first
    | (go_at_call 9; refine A.mono ?_; clear A; rintro e W1 ⟨rfl, hb1⟩)
    | (go_at_call 19; refine (S W1).mono ?_; clear S; rintro e W2 ⟨N, v, u, rfl, hS⟩; unfold smMV MV.val))
  obtain ⟨ua, un, uc⟩ := u
  obtain ⟨q, rfl⟩ : ∃ q, nn = q + 1 := ⟨nn - 1, by omega⟩
  obtain ⟨gS, cS, hu⟩ := ownsRow_succ hS.names
  dsimp only at hu
  injection hu with hu1 hu2 hu3
  subst hu1 hu2
  obtain rfl : cS = uc := hu3.symm
  have hM := hS.mem
  have hEb := hE.below (hb1.trans (hS.below.mono hb1.size))
  have hBW : Below w.heap.size w W2 := hb1.trans (hS.below.mono hb1.size)
  have hb3 : Below W2.heap.size W2 (W2.alloc (.cells (smMV v N).cells8 27)) := (Below.refl _ _).alloc (Nat.le_refl _) _
  have hm3 := Cells.new W2 27 (smMV v N).cells8
  have hN := hM.k.lt
  have hNw : w.heap.size ≤ N + 1 + 1 + 1 + 1 + 1 := by have := hS.base; have := hb1.size; omega
  change Code.wp _ _ _ _ (W2.alloc (.cells (smMV v N).cells8 27))
  have hM3 := hM.below hb3
  have hE3 := hEb.below hb3
  have hB3 := hBW.trans (hb3.mono hBW.size)
  have hsz : W2.heap.size < (W2.alloc (.cells (smMV v N).cells8 27)).heap.size := by simp
  replace hE := Lib.hid hE
  clear hS hM hEb hBW hb3 hb1
  generalize W2.alloc (.cells (smMV v N).cells8 27) = W3 at hM3 hE3 hB3 hm3 hsz ⊢
  generalize W2.heap.size = B at hm3 hsz hN ⊢
  have q0 : (0 : Int) < 1 := by decide
  have b2 := hm3.cell (j := 2) (v := .slice (some ⟨N, 0, none⟩) 1 1) rfl
  have b3 := hm3.cell (j := 3) (v := .slice (some ⟨N + 1 + 1 + 1 + 1 + 1, 0, none⟩) 3 3) rfl
  have k1 := hM3.k.cell (j := 1) (v := .slice (some ⟨gS, 0, none⟩) (q + 1) cS) rfl
  have o5 := hM3.o.cell (j := 5) (v := .slice none 0 0) rfl
  have f5 := hM3.o.frozen 5
  have hcap := hM3.names.2.1
  dsimp only at hcap
  have c1 : (cc : Int) ≤ cS := by omega
  have hBne : B ≠ N + 1 + 1 + 1 + 1 + 1 := fun e => by
    rw [e] at hm3
    have h2 := Option.some.inj ((show W3.heap[_]? = _ from hm3).symm.trans (show W3.heap[_]? = _ from hM3.o))
    injection h2 with _ ht _
    exact absurd ht (by decide)
  obtain ⟨j0, hj, hj0, hj1, hj2⟩ := info_parts Tryz.infoStrS
  have hcl : ∀ j x, ((sNames cc).map Value.string)[j]? = some x → W3.cell? ((⟨gS, 0, none⟩ : Addr).add j) = some x := fun j x hx => by
    rw [List.getElem?_map] at hx
    obtain ⟨y, hy, rfl⟩ := Option.map_eq_some_iff.1 hx
    have hjc : j < cc := by have := (List.getElem?_eq_some_iff.1 hy).1; rwa [sNames_length] at this
    rw [sNames_get hjc] at hy
    obtain ⟨b', o', e1, e2⟩ := hM3.names.2.2 j (sname j) (sNames_get (by omega))
    cases e1
    rw [Nat.zero_add] at e2
    cases hy
    have : ((⟨gS, 0, none⟩ : Addr).add j) = ⟨gS, j, none⟩ := by
      simp [Addr.add]; exact fun e => e.symm
    rw [this]; exact e2
  have hcn : ((sNames cc).map Value.string).length = cc * 1 := by simp [sNames]
  have hco : ∀ x ∈ (sNames cc).map Value.string, x.oneCell' = true := fun x hx => by
    obtain ⟨y, _, rfl⟩ := List.mem_map.1 hx; rfl
  replace hM3 := Lib.hid hM3
  replace hm3 := Lib.hid hm3
  replace hcl := Lib.hid hcl
  have hNB := hM3.out.o.lt
  go_upto_region 5 with fail
  go_cut [] from 8 (fun Wx => Below w.heap.size w Wx ∧ Cells Wx B 27 (smMV v N).cells8 ∧ ∃ cl : SlV, SmMem (q + 1) cc N v ⟨some ⟨gS, 0, none⟩, q + 1, cS⟩ cl Wx)
  case first =>
    go_region_law (refine step_append_any (by rfl) _ _ _ (by rfl) w.heap.size 9 j0 _ 1 16 Tryz.underlying25 hj hj0 hj1 hj2 rfl (by decide) 0 [] (.slice none 0 0) (by rfl) (World.ownsRow_nil _ _ _ _) ⟨gS, 0, none⟩ cc cS ((sNames cc).map Value.string) (by rfl) hcn (fun j x hx => hcl.out j x hx) hco (by unfold maxLen; omega) (by omega) (by simp; exact hB3.size) cc (by omega) ?_; intro g gcap W6 hown hgrow; have hb6 : Below W3.heap.size W3 W6 := ((Below.refl _ W3).drew).grown hgrow (by simp) (fun i e => by cases e); have o6 := cell_below hb6 o5; have b6 := cell_below hb6 b3; have f6 := (hM3.out.o.below hb6 hM3.out.o.lt).frozen 5)
    all_goals
      go_wp2_with fail
      go_meet
      case rel =>
        have hcl6 : StrsAt W6 ⟨g, cc, gcap⟩ (sNames cc) := StrsAt.of_row hown (by rw [sNames_length])
        exact ⟨(hB3.trans (hb6.mono hB3.size)).setCell (p := ⟨N + 1 + 1 + 1 + 1 + 1, 5, none⟩) hNw _, (hm3.out.below hb6 hm3.out.lt).other hBne _, ⟨g, cc, gcap⟩, hM3.out.clobber hb6 hcl6⟩
  case rest =>
    obtain ⟨hB4, hm4, cl, hM4⟩ := hcut
    have hEc := hE.out.below hB4
    have hq1 : 1 ≤ q + 1 := by omega
    have hq64 : q + 1 ≤ 64 := by omega
    have hcq : cc ≤ q + 1 := by omega
    obtain ⟨x, hx⟩ : ∃ x : Int, (if cc < q + 1 ∧ 2 ≤ q + 1 then (0 : Int) else 11) = x := ⟨_, rfl⟩
    obtain ⟨y, hy⟩ : ∃ y : Bool, decide (cc < q + 1 ∧ 2 ≤ q + 1) = y := ⟨_, rfl⟩
    have hz : decide (2 ≤ q + 1) = true := decide_eq_true (by omega)
    have C : Calls Tryz.prog 11 #[(smMV v N).val] wc fun e w' => e = .returned (.int .i64 x) ∧ Below wc.heap.size wc w' := by rw [← hx]; exact check_small hM4 hEc hq1 hq64 hcq
    have F : ∀ W, Below wc.heap.size wc W → Calls Tryz.prog 17 #[(smMV v N).val, .int .i64 0] W fun e w' => e = .returned (.bool y) ∧ Below W.heap.size W w' := fun W hb => by rw [← hy]; exact fits_small (hM4.below hb) (hEc.below hb) hq1 hq64 hcq
    have P : ∀ W, Below wc.heap.size wc W → Calls Tryz.prog 18 #[(smMV v N).val, .int .i64 0, .int .i64 0] W fun e w' => e = .returned (.bool true) ∧ Below W.heap.size W w' := fun W hb => by rw [← hz]; exact pair_small (hM4.below hb) (hEc.below hb) hq1 hq64 hcq
    have cells : ∀ W, Below wc.heap.size wc W → W.cell? ⟨B, 0, none⟩ = some (.string ⟨#[109]⟩) ∧ W.cell? ⟨B, 1, none⟩ = some (.slice v.a v.n v.c) ∧ W.cell? ⟨B, 2, none⟩ = some (.slice (some ⟨N, 0, none⟩) 1 1) ∧ W.cell? ⟨B, 3, none⟩ = some (.slice (some ⟨N + 1 + 1 + 1 + 1 + 1, 0, none⟩) 3 3) ∧ W.cell? ⟨B, 4, none⟩ = some (.slice (some ⟨N + 1 + 1 + 1 + 1 + 1 + 1, 0, none⟩) 1 1) ∧ W.cell? ⟨B, 5, none⟩ = some (.string ⟨#[114, 48, 48]⟩) ∧ W.cell? ⟨B, 6, none⟩ = some (.slice none 0 0) ∧ W.cell? ⟨B, 7, none⟩ = some (.int .i64 100) := fun W hb => by
      have hmW := hm4.below hb hm4.lt
      exact ⟨hmW.cell rfl, hmW.cell rfl, hmW.cell rfl, hmW.cell rfl, hmW.cell rfl, hmW.cell rfl, hmW.cell rfl, hmW.cell rfl⟩
    obtain ⟨m0, m1, m2, m3, m4, m5, m6, m7⟩ := cells wc (Below.refl _ _)
    unfold smMV MV.val at C F P
    replace hM4 := Lib.hid hM4
    replace hm4 := Lib.hid hm4
    clear b2 b3 k1 o5 f5
    by_cases hcn : cc = q + 1
    · obtain rfl : x = 11 := by rw [← hx]; exact if_neg (by omega)
      obtain rfl : y = false := by rw [← hy]; exact decide_eq_false (by omega)
      subst hcn
      clear hx hy hz
      go_wp2_with (first
        | (go_at_call 11; refine C.mono ?_; clear C; rintro e W5 ⟨rfl, hb5⟩; obtain ⟨n0, n1, n2, n3, n4, n5, n6, n7⟩ := cells W5 hb5; have F5 := F W5 hb5; clear F)
        | (go_at_call 13; refine (num_any _ _).mono ?_; rintro e W6 ⟨rfl, rfl⟩)
        | (go_at_call 17; refine F5.mono ?_; clear F5; rintro e W7 ⟨rfl, hb7⟩; have hb7' := hb5.trans (hb7.mono hb5.size); obtain ⟨o0, o1, o2, o3, o4, o5, o6, o7⟩ := cells W7 hb7'; have P7 := P W7 hb7'; clear P)
        | (go_at_call 18; refine P7.mono ?_; clear P7; rintro e W8 ⟨rfl, hb8⟩))
      go_ret
      exact ⟨rfl, hB4.trans ((hb7'.trans (hb8.mono hb7'.size)).mono hB4.size)⟩
    · obtain rfl : x = 0 := by rw [← hx]; exact if_pos (by omega)
      obtain rfl : y = true := by rw [← hy]; exact decide_eq_true (by omega)
      clear hx hy hz
      go_wp2_with (first
        | (go_at_call 11; refine C.mono ?_; clear C; rintro e W5 ⟨rfl, hb5⟩; obtain ⟨n0, n1, n2, n3, n4, n5, n6, n7⟩ := cells W5 hb5; have F5 := F W5 hb5; clear F)
        | (go_at_call 13; refine (num_any _ _).mono ?_; rintro e W6 ⟨rfl, rfl⟩)
        | (go_at_call 17; refine F5.mono ?_; clear F5; rintro e W7 ⟨rfl, hb7⟩; have hb7' := hb5.trans (hb7.mono hb5.size); obtain ⟨o0, o1, o2, o3, o4, o5, o6, o7⟩ := cells W7 hb7'; have P7 := P W7 hb7'; clear P)
        | (go_at_call 18; refine P7.mono ?_; clear P7; rintro e W8 ⟨rfl, hb8⟩))
      go_ret
      exact ⟨rfl, hB4.trans ((hb7'.trans (hb8.mono hb7'.size)).mono hB4.size)⟩
end Go.Proofs.YtanbjaohmhoohaaGreatDoor
