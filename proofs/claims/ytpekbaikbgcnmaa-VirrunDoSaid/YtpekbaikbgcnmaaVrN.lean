/-
  VirrunDo: its walk.
-/
import Derived.Test.YtpekbaikbgcnmaaVrK
import Derived.Deep.AppendLies
import Derived.OwnWalk
import Derived.Maps.AppendAt
namespace Go.Proofs.Ytpekbaikbgcnmaa
open Go.RowKit Go.Maps
attribute [-go_sem] Builtin.append_
theorem addr_add (b o j : Nat) : (⟨b, o, none⟩ : Addr).add j = ⟨b, o + j, none⟩ := by
  unfold Addr.add; split <;> simp_all
theorem ownsRow_form {W : World} {base : Nat} {e : TypeId} {size : Nat} {v : Value} {k : Nat} {xs : List Value} (h : W.ownsRow base e size v k xs) : ∃ a cap, v = .slice a k cap := by
  rcases h.2 with ⟨rfl, h0⟩ | ⟨g, cap, _, rfl, _⟩
  · exact ⟨none, 0, by rw [h0]⟩
  · exact ⟨_, cap, rfl⟩
theorem run_append_new {P : Program} (w : World) (t ty e : TypeId) (i : TypeInfo) (z : Value) (size bytes : Nat) (ht : P.underlying t = some (.slice e)) (hi : P.info? e = some i) (hz : i.zero = some z) (hsize : i.size = size) (hby : i.bytes = bytes) (hzs : z.cells.size = size) (hsz : 0 < size)
    (sa : Option Addr) (n c : Nat) (news : List Value) (hl : news.length = n * size) (hc : ∀ j u, news[j]? = some u → ∃ b o, sa = some ⟨b, o, none⟩ ∧ w.cell? ⟨b, o + j, none⟩ = some u) (h1 : ∀ u ∈ news, u.oneCell' = true) (hn : n ≤ 100000) (hb : bytes ≤ 1000) :
    ∃ a c' w', (Builtin.append_ #[t, t] ty #[.slice none 0 0, .slice sa n c]).run P w = .ok (.slice a n c') w' ∧ w'.ownsRow w.heap.size e size (.slice a n c') n news ∧ w.grownBy w' none := by
  cases sa with
  | none =>
    have hn0 : n = 0 := by
      rcases Nat.eq_zero_or_pos n with h | h
      · exact h
      · exfalso
        have hp : 0 < news.length := by rw [hl]; exact Nat.mul_pos h hsz
        obtain ⟨b, o, h2, _⟩ := hc 0 news[0] (List.getElem?_eq_getElem hp)
        cases h2
    subst hn0
    have h0 : news = [] := List.length_eq_zero_iff.1 (by rw [hl, Nat.zero_mul])
    subst h0
    exact ⟨none, 0, w, by simp [Builtin.append_, run_underlying ht, sizeOf, typeInfo, zeroValue, hi, hz, Builtin.lenOf, Builtin.firstCells], World.ownsRow_nil _ _ _ _, ⟨rfl, rfl, rfl, Nat.le_refl _, fun _ _ _ => rfl⟩⟩
  | some ad =>
    have hbytes : (0 + n) * bytes ≤ 140737488355328 := by
      have : (0 + n) * bytes ≤ 100000 * 1000 := Nat.mul_le_mul (by omega) hb
      omega
    obtain ⟨v', w', hr, h2, h3, _, _⟩ := run_append_own_at (P := P) w w.heap.size t ty e i z size bytes ht hi hz hsize hby hzs hsz (.slice none 0 0) 0 [] (World.ownsRow_nil _ _ _ _) ad n c news hl (fun j u hu => by
      obtain ⟨b, o, h2, h3⟩ := hc j u hu
      injection h2 with h2
      subst h2
      rw [addr_add]; exact h3) h1 (by unfold maxLen; omega) hbytes (Nat.le_refl _)
    rw [Nat.zero_add, List.nil_append] at h2
    obtain ⟨a, cap, rfl⟩ := ownsRow_form h2
    exact ⟨a, cap, w', hr, h2, h3⟩
theorem intsL_row {W : World} {base : Nat} {e : TypeId} {a : Option Addr} {c : Nat} {l : List Int} (h : W.ownsRow base e 1 (.slice a l.length c) l.length (l.map (Value.int .i64))) : IntsL W a l := fun j x hx => by
  have hj : j < l.length := (List.getElem?_eq_some_iff.1 hx).1
  rcases h.2 with ⟨_, h0⟩ | ⟨g, cap, cur, hv, _⟩
  · omega
  · injection hv with ha _ _
    subst ha
    refine ⟨g, 0, rfl, ?_⟩
    rw [Nat.zero_add, h.cellAt j (by omega), List.getElem?_map, hx]
    rfl
theorem Try.infoInt : (Try.prog.info? 3).map (fun i => (i.zero, i.size, i.bytes)) = some (some (.int .i64 0), 1, 8) := by kernel_rfl
set_option maxHeartbeats 4000000
set_option maxRecDepth 100000
theorem do_any {s : ByteArray} {width : Int} {a : Option Addr} {c : Nat} {l : List Int} (w : World) (hl : IntsL w a l) (hr : ∀ x, x ∈ l → InR x) :
    Calls Try.prog 3 #[.string s, .int .i64 width, .slice a l.length c] w fun e w' => e = .returned (.bool true) ∧ Below w.heap.size w w' := by
  have hB := Lib.hid (Below.refl w.heap.size w)
  by_cases h1 : 1000 < s.size
  · have h1' : (1000 : Int) < s.size := by omega
    generalize l.length = n at *
    go_enter Try.func3, Try.ntmps3
    go_wp2_with (go_at_call 6; refine (vrAlive _).mono ?_; rintro e W1 ⟨rfl, hb⟩; replace hB := Lib.hid (hB.out.trans (hb.mono hB.out.size)); clear hb)
    go_ret
    exact ⟨rfl, hB.out⟩
  by_cases h2 : 100 < l.length
  · have h1' : (s.size : Int) ≤ 1000 := by omega
    have h2' : (100 : Int) < l.length := by omega
    generalize l.length = n at *
    go_enter Try.func3, Try.ntmps3
    go_wp2_with (go_at_call 6; refine (vrAlive _).mono ?_; rintro e W1 ⟨rfl, hb⟩; replace hB := Lib.hid (hB.out.trans (hb.mono hB.out.size)); clear hb)
    go_ret
    exact ⟨rfl, hB.out⟩
  have h1' : (s.size : Int) ≤ 1000 := by omega
  have h2' : (l.length : Int) ≤ 100 := by omega
  have hs : s.size ≤ maxLen := by unfold maxLen; omega
  obtain ⟨i0, hi, hz0, hz1, hz2⟩ := info_parts Try.infoInt
  have KA : ∀ V, Below w.heap.size w V → ∃ a' c' V', (Builtin.append_ #[22, 22] 22 #[.slice none 0 0, .slice a l.length c]).run Try.prog V = .ok (.slice a' l.length c') V' ∧ IntsL V' a' l ∧ Below V.heap.size V V' := fun V hb => by
    obtain ⟨a', c', V', r1, r2, r3⟩ := run_append_new (P := Try.prog) V 22 22 3 i0 _ 1 8 Try.underlying22 hi hz0 hz1 hz2 rfl (by decide) a l.length c (l.map (Value.int .i64)) (by rw [List.length_map, Nat.mul_one]) (fun j u hu => by
      rw [List.getElem?_map] at hu
      cases hx : l[j]? with
      | none => rw [hx] at hu; cases hu
      | some x =>
        rw [hx] at hu
        cases hu
        exact hl.below hb j x hx) (fun u hu => by obtain ⟨x, _, rfl⟩ := List.mem_map.1 hu; rfl) (by omega) (by decide)
    exact ⟨a', c', V', r1, intsL_row r2, (Below.refl _ _).grown r3 (Nat.le_refl _) (fun _ h => by cases h)⟩
  have KR : ∀ V, Below w.heap.size w V → Calls Try.prog 8 #[.string s, .int .i64 width, .slice a l.length c] V fun e w' => e = .returned (.tuple #[.int .i64 (doS s width l).1, .bool (doS s width l).2]) ∧ V = w' := fun V hb => refDo (hl.below hb) hr
  have KD : ∀ V a' c', IntsL V a' l → Calls Try.prog 7 #[.string s, .int .i64 width, .slice a' l.length c'] V fun e w' => e = .returned (.tuple #[.int .i64 (doS s width l).1, .bool (doS s width l).2]) ∧ Below V.heap.size V w' := fun V a' c' h => vrDo hs h
  have KV := fun V => vrArity s hs V
  have KW := fun V => refArity s V
  clear hl hr h1 h2 hi hz0 hz1 hz2
  replace KA := Lib.hid KA
  replace KR := Lib.hid KR
  replace KD := Lib.hid KD
  generalize doS s width l = q at *
  generalize arityS s = ar at *
  go_enter Try.func3, Try.ntmps3
  go_wp2_with (first
    | (go_at_call 6; refine (vrAlive _).mono ?_; rintro e W1 ⟨rfl, hb⟩; replace hB := Lib.hid (hB.out.trans (hb.mono hB.out.size)); clear hb; obtain ⟨a', c', V', hrun, hI, hbV⟩ := KA.out _ hB.out; replace hI := Lib.hid hI; replace hB := Lib.hid (hB.out.trans (hbV.mono hB.out.size)); clear hbV)
    | (go_at_call 7; refine (KD.out _ _ _ hI.out).mono ?_; rintro e W2 ⟨rfl, hb⟩; replace hB := Lib.hid (hB.out.trans (hb.mono hB.out.size)); clear hb)
    | (go_at_call 8; refine (KR.out _ hB.out).mono ?_; rintro e W3 ⟨rfl, rfl⟩)
    | (go_at_call 9; refine (KV _).mono ?_; rintro e W4 ⟨rfl, hb⟩; replace hB := Lib.hid (hB.out.trans (hb.mono hB.out.size)); clear hb)
    | (go_at_call 10; refine (KW _).mono ?_; rintro e W5 ⟨rfl, rfl⟩))
  go_ret
  exact ⟨rfl, hB.out⟩
end Go.Proofs.Ytpekbaikbgcnmaa
