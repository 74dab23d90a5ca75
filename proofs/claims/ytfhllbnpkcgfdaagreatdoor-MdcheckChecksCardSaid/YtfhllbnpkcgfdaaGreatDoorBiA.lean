/-
  The law's bound on descriptions: how long a list of names is.
-/
import Derived.Test.YtfhllbnpkcgfdaaGreatDoorMdOne
namespace Go.Proofs.YtfhllbnpkcgfdaaGreatDoor
open Go.RowKit
/-- Texts none of which is longer than memory. -/
def Fit47 (l : List ByteArray) : Prop := l.length ≤ 140737488355328 ∧ ∀ x, x ∈ l → x.size ≤ 140737488355328
/-- How long a list of names is, n of it counted so far. -/
def longFrom : List ByteArray → Nat → Nat
  | [], n => n
  | x :: r, n => if 5000 < n then n else longFrom r (n + x.size / 8)
theorem longFrom_ge : ∀ (l : List ByteArray) (n : Nat), n ≤ longFrom l n
  | [], _ => Nat.le_refl _
  | x :: r, n => by
    unfold longFrom
    split
    · exact Nat.le_refl _
    · have := longFrom_ge r (n + x.size / 8); omega
theorem longFrom_le : ∀ {l : List ByteArray} {n : Nat}, (∀ x, x ∈ l → x.size ≤ 140737488355328) → n ≤ 281474976710656 → longFrom l n ≤ 281474976710656
  | [], _, _, h => h
  | x :: r, n, hf, h => by
    unfold longFrom
    split
    · exact h
    · have := hf x List.mem_cons_self
      exact longFrom_le (fun y hy => hf y (List.mem_cons_of_mem _ hy)) (by omega)
theorem longFrom_at (l : List ByteArray) (k : Nat) (x : ByteArray) (hx : l[k]? = some x) (n : Nat) : longFrom (l.drop k) n = if 5000 < n then n else longFrom (l.drop (k + 1)) (n + x.size / 8) := by
  obtain ⟨hk, rfl⟩ := List.getElem?_eq_some_iff.1 hx
  rw [List.drop_eq_getElem_cons hk]; rfl
set_option maxRecDepth 100000 in
set_option maxHeartbeats 1600000 in
theorem lawLong (s : SlV) (l : List ByteArray) (w : World) (hl : StrsAt w s l) (hf : Fit47 l) :
    Calls Tryz.prog 17 #[.slice s.a s.n s.c] w fun e w' => e = .returned (.int .i64 (longFrom l l.length)) ∧ w' = w := by
  obtain ⟨a, n, c⟩ := s
  obtain ⟨hn, hc, hl⟩ := hl
  dsimp only at hn hc hl ⊢
  subst hn
  obtain ⟨hf1, hf2⟩ := hf
  obtain ⟨z, hz⟩ : ∃ z, z = longFrom l l.length := ⟨_, rfl⟩
  rw [← hz]
  replace hz := Lib.hid hz
  replace hl := Lib.hid hl
  replace hf2 := Lib.hid hf2
  go_enter Tryz.func17, Tryz.ntmps17
  go_wp2_with fail
  go_loop [3, 4] (fun m i => ∃ (k m' : Nat), k ≤ l.length ∧ i = .int .i64 k ∧ m = .int .i64 m' ∧ Hid (z = longFrom (l.drop k) m') ∧ m' ≤ 281474976710656) (fun _ i => l.length - (intOf i).toNat)
  case atStart => exact ⟨0, l.length, Nat.zero_le _, rfl, rfl, hz, by omega⟩
  case round =>
    obtain ⟨k, m', hk, rfl, rfl, hm1, hm2⟩ := hrel
    by_cases hlt : k < l.length
    · obtain ⟨x, hx⟩ : ∃ x, l[k]? = some x := ⟨l[k], by rw [List.getElem?_eq_getElem hlt]⟩
      have hat := Lib.hid (longFrom_at l k x hx m')
      by_cases hm : (m' : Int) ≤ 5000
      · obtain ⟨b, o, rfl, hcell⟩ := hl.out k x hx
        have hsz := hf2.out x (List.mem_of_getElem? hx)
        obtain ⟨q, hq⟩ : ∃ q : Nat, q = x.size / 8 := ⟨_, rfl⟩
        have hqb : q ≤ 17592186044416 := by omega
        have hq1 : ((x.size : Int)) / 8 = q := by omega
        have hq2 : IntKind.i64.wrap ((x.size : Int).tdiv 8) = q := by rw [Int.tdiv_eq_ediv_of_nonneg (by omega), hq1]; exact IntWalk.i64_in _ (by omega)
        have hq3 : IntKind.i64.wrap ((m' : Int) + q) = (m' : Int) + q := IntWalk.i64_in _ (by omega)
        have hm3 : Hid (z = longFrom (l.drop (k + 1)) (m' + q)) := Lib.hid (by rw [hm1.out, hat.out, if_neg (by omega), hq])
        replace hq1 := Lib.hid hq1
        replace hq := Lib.hid hq
        replace hx := Lib.hid hx
        clear hm1 hat
        go_wp2_with fail
        go_round
        case rel =>
          have hq1 := hq1.out
          exact ⟨k + 1, m' + q, by omega, by go_num, by go_num, hm3, by omega⟩
        case measure => simp [intOf]; omega
      · have hz2 : Hid (z = m') := Lib.hid (by rw [hm1.out, hat.out, if_pos (by omega)])
        replace hx := Lib.hid hx
        clear hm1 hat
        go_wp2_with fail
        go_ret
        exact ⟨ret_int (by rw [hz2.out]), rfl⟩
    · have hz2 : Hid (z = m') := Lib.hid (by rw [hm1.out, List.drop_eq_nil_of_le (by omega)]; rfl)
      clear hm1
      go_wp2_with fail
      go_ret
      exact ⟨ret_int (by rw [hz2.out]), rfl⟩
end Go.Proofs.YtfhllbnpkcgfdaaGreatDoor
