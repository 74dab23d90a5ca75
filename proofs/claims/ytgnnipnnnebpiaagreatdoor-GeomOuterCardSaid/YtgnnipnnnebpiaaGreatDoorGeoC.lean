/-
  geom's 'laps' over the registers ahead: none of which laps.
-/
import Derived.Test.YtgnnipnnnebpiaaGreatDoorGeoB
import Derived.LoopTactic
namespace Go.Proofs.YtgnnipnnnebpiaaGreatDoor
open Go.RowKit

/-- A register as it lies in memory: its name, its width, where it begins, the slice of those within it. -/
structure RegD where
  name : ByteArray
  wd : Int
  at_ : Int
  sv : Value

def RegAt (W : World) (b o : Nat) (r : RegD) : Prop :=
  W.cell? ⟨b, o, none⟩ = some (.string r.name) ∧ W.cell? ⟨b, o + 1, none⟩ = some (.int .i64 r.wd) ∧ W.cell? ⟨b, o + 2, none⟩ = some (.int .i64 r.at_) ∧ W.cell? ⟨b, o + 3, none⟩ = some r.sv
def RegsAt (W : World) (b o : Nat) (l : List RegD) : Prop := ∀ i r, l[i]? = some r → RegAt W b (o + i * 4) r

theorem RegAt.below {W W' : World} {b o : Nat} {r : RegD} (h : RegAt W b o r) (hb : Below W.heap.size W W') : RegAt W' b o r :=
  ⟨cell_below hb h.1, cell_below hb h.2.1, cell_below hb h.2.2.1, cell_below hb h.2.2.2⟩
theorem RegsAt.below {W W' : World} {b o : Nat} {l : List RegD} (h : RegsAt W b o l) (hb : Below W.heap.size W W') : RegsAt W' b o l := fun i r hr => (h i r hr).below hb

/-- A register of a kind that the arithmetic is told for. -/
def RegD.small (r : RegD) : Prop := 0 ≤ r.at_ ∧ r.at_ ≤ 500 ∧ 1 ≤ r.wd ∧ r.wd ≤ 1000

set_option maxRecDepth 100000 in
set_option maxHeartbeats 1600000 in
theorem indexFunc_no (bs bp b off n cap : Nat) (root aAt aW pAt pW : Int) (l : List RegD) (w : World) (hn : l.length = n) (hsz : n ≤ 200) (hl : RegsAt w b off l)
    (c0 : w.cell? ⟨bs, 5, none⟩ = some (.int .i64 root)) (c1 : w.cell? ⟨bs, 6, none⟩ = some (.int .i64 aAt)) (c2 : w.cell? ⟨bs, 7, none⟩ = some (.int .i64 aW))
    (c3 : w.cell? ⟨bp, 0, none⟩ = some (.int .i64 root)) (c4 : w.cell? ⟨bp, 1, none⟩ = some (.int .i64 pAt)) (c5 : w.cell? ⟨bp, 2, none⟩ = some (.int .i64 pW))
    (h1 : 0 ≤ aAt) (h2 : aAt ≤ 500) (h7 : 0 ≤ pAt) (h8 : pAt ≤ 1000) (h9 : 1 ≤ pW) (h10 : pW ≤ 1000) (hr : ∀ r, r ∈ l → r.small ∧ lapB (aAt + r.at_) r.wd pAt pW = false) :
    Calls Tryz.prog 46 #[.slice (some ⟨b, off, none⟩) n cap, .func (.func 35) #[] #[.pointer (some ⟨bs, 0, none⟩), .pointer (some ⟨bp, 0, none⟩)]] w fun e w' =>
      e = .returned (.int .i64 (-1)) ∧ Below w.heap.size w w' := by
  go_enter Tryz.func46, Tryz.ntmps46
  go_wp2
  go_loopw [8] (fun i wr => ∃ k : Nat, k ≤ n ∧ i = .int .i64 k ∧ Below w.heap.size w wr) (fun i _ => n - (intOf i).toNat)
  case atStart => exact ⟨0, Nat.zero_le _, rfl, Below.refl _ _⟩
  case round =>
    obtain ⟨k, hk, rfl, hB⟩ := hrel
    by_cases hlt : k < n
    · obtain ⟨r, hr1⟩ : ∃ r, l[k]? = some r := ⟨l[k], by rw [List.getElem?_eq_getElem (by omega)]⟩
      obtain ⟨hs, hlp⟩ := hr r (List.mem_of_getElem? hr1)
      obtain ⟨hs1, hs2, hs3, hs4⟩ := hs
      obtain ⟨d0, d1, d2, d3⟩ := (hl k r hr1).below hB
      have C := laps1_no bs bp root aAt aW pAt pW r.wd r.at_ r.name r.sv wr (cell_below hB c0) (cell_below hB c1) (cell_below hB c2) (cell_below hB c3) (cell_below hB c4) (cell_below hB c5) h1 h2 hs1 hs2 hs3 hs4 h7 h8 h9 h10 hlp
      clear c0 c1 c2 c3 c4 c5 hr1 hl hr hlp
      go_wp2_with (go_at_call 35; refine C.mono ?_; clear C; rintro e W1 ⟨rfl, hb⟩)
      exact ⟨⟨k + 1, by omega, by go_num, hB.trans (hb.mono hB.size)⟩, by simp [intOf]; omega⟩
    · go_wp2_with fail
      go_ret
      exact ⟨rfl, hB⟩

set_option maxHeartbeats 400000 in
theorem indexFunc_nil (f : Value) (w : World) :
    Calls Tryz.prog 46 #[.slice none 0 0, f] w fun e w' => e = .returned (.int .i64 (-1)) ∧ w = w' := by
  go_enter Tryz.func46, Tryz.ntmps46
  go_wp2
  refine wp_loop_rounds 1 ?_
  rw [rounds_succ]
  go_wp2
  go_ret
  exact ⟨rfl, rfl⟩

/-- The slice of the registers ahead. -/
def AheadIs (W : World) (av : Value) (l : List RegD) : Prop :=
  (av = .slice none 0 0 ∧ l = []) ∨ ∃ b off cap, av = .slice (some ⟨b, off, none⟩) l.length cap ∧ RegsAt W b off l
theorem AheadIs.below {W W' : World} {av : Value} {l : List RegD} (h : AheadIs W av l) (hb : Below W.heap.size W W') : AheadIs W' av l := by
  rcases h with h | ⟨b, off, cap, h, hr⟩
  · exact .inl h
  · exact .inr ⟨b, off, cap, h, hr.below hb⟩

set_option maxHeartbeats 400000 in
theorem containsFunc_no (bs bp : Nat) (root aAt aW pAt pW : Int) (av : Value) (l : List RegD) (w : World) (hsz : l.length ≤ 200) (hl : AheadIs w av l)
    (c0 : w.cell? ⟨bs, 5, none⟩ = some (.int .i64 root)) (c1 : w.cell? ⟨bs, 6, none⟩ = some (.int .i64 aAt)) (c2 : w.cell? ⟨bs, 7, none⟩ = some (.int .i64 aW))
    (c3 : w.cell? ⟨bp, 0, none⟩ = some (.int .i64 root)) (c4 : w.cell? ⟨bp, 1, none⟩ = some (.int .i64 pAt)) (c5 : w.cell? ⟨bp, 2, none⟩ = some (.int .i64 pW))
    (h1 : 0 ≤ aAt) (h2 : aAt ≤ 500) (h7 : 0 ≤ pAt) (h8 : pAt ≤ 1000) (h9 : 1 ≤ pW) (h10 : pW ≤ 1000) (hr : ∀ r, r ∈ l → r.small ∧ lapB (aAt + r.at_) r.wd pAt pW = false) :
    Calls Tryz.prog 34 #[av, .func (.func 35) #[] #[.pointer (some ⟨bs, 0, none⟩), .pointer (some ⟨bp, 0, none⟩)]] w fun e w' =>
      e = .returned (.bool false) ∧ Below w.heap.size w w' := by
  have C : Calls Tryz.prog 46 #[av, .func (.func 35) #[] #[.pointer (some ⟨bs, 0, none⟩), .pointer (some ⟨bp, 0, none⟩)]] w fun e w' => e = .returned (.int .i64 (-1)) ∧ Below w.heap.size w w' := by
    rcases hl with ⟨rfl, rfl⟩ | ⟨b, off, cap, rfl, hl⟩
    · exact (indexFunc_nil _ w).mono fun e w' ⟨he, hw⟩ => ⟨he, hw ▸ Below.refl _ _⟩
    · exact indexFunc_no bs bp b off l.length cap root aAt aW pAt pW l w rfl hsz hl c0 c1 c2 c3 c4 c5 h1 h2 h7 h8 h9 h10 hr
  clear hl c0 c1 c2 c3 c4 c5 hr
  go_enter Tryz.func34, Tryz.ntmps34
  go_wp2_with (go_at_call 46; refine C.mono ?_; clear C; rintro e W1 ⟨rfl, hb⟩)
  go_ret
  exact ⟨rfl, hb⟩

set_option maxRecDepth 100000 in
set_option maxHeartbeats 800000 in
theorem laps_no (nm : ByteArray) (wd at_ deep root aAt aW : Int) (sv av : Value) (l : List RegD) (w : World) (hsz : l.length ≤ 200) (hl : AheadIs w av l)
    (h1 : 0 ≤ aAt) (h2 : aAt ≤ 500) (h3 : 0 ≤ at_) (h4 : at_ ≤ 500) (h9 : 1 ≤ wd) (h10 : wd ≤ 1000) (hr : ∀ r, r ∈ l → r.small ∧ lapB (aAt + r.at_) r.wd (aAt + at_) wd = false) :
    Calls Tryz.prog 26 #[.agg #[.string nm, .int .i64 wd, .int .i64 at_, sv, .int .i64 deep, .int .i64 root, .int .i64 aAt, .int .i64 aW, av]] w fun e w' =>
      e = .returned (.bool false) ∧ Below w.heap.size w w' := by
  have C1 := fun W => in_any root aAt aW wd at_ nm sv W h1 (by omega) h3 (by omega)
  have C2 : ∀ W W1, Below w.heap.size w W → Below W.heap.size W W1 → W = w.alloc (.cells #[.string nm, .int .i64 wd, .int .i64 at_, sv, .int .i64 deep, .int .i64 root, .int .i64 aAt, .int .i64 aW, av] 51) →
      (W1.alloc (.cells #[.int .i64 root, .int .i64 (aAt + at_), .int .i64 wd] 34)).cell? ⟨w.heap.size, 8, none⟩ = some av ∧
      Calls Tryz.prog 34 #[av, .func (.func 35) #[] #[.pointer (some ⟨w.heap.size, 0, none⟩), .pointer (some ⟨W1.heap.size, 0, none⟩)]]
        (W1.alloc (.cells #[.int .i64 root, .int .i64 (aAt + at_), .int .i64 wd] 34)) fun e w' => e = .returned (.bool false) ∧ Below (W1.alloc (.cells #[.int .i64 root, .int .i64 (aAt + at_), .int .i64 wd] 34)).heap.size (W1.alloc (.cells #[.int .i64 root, .int .i64 (aAt + at_), .int .i64 wd] 34)) w' := by
    intro W W1 hW hb e
    have hW1 := hb.alloc hb.size (.cells #[.int .i64 root, .int .i64 (aAt + at_), .int .i64 wd] 34)
    have hs : Cells W w.heap.size 51 #[.string nm, .int .i64 wd, .int .i64 at_, sv, .int .i64 deep, .int .i64 root, .int .i64 aAt, .int .i64 aW, av] := by rw [e]; exact Cells.new _ _ _
    have hs1 := hs.below hW1 hs.lt
    have hp := Cells.new W1 34 #[.int .i64 root, .int .i64 (aAt + at_), .int .i64 wd]
    refine ⟨hs1.cell rfl, ?_⟩
    exact containsFunc_no _ _ root aAt aW (aAt + at_) wd av l _ hsz ((hl.below hW).below hW1) (hs1.cell rfl) (hs1.cell rfl) (hs1.cell rfl) (hp.cell rfl) (hp.cell rfl) (hp.cell rfl) h1 h2 (by omega) (by omega) h9 h10 hr
  clear hl hr
  have hmf : ∀ (fn : Fn) (first cap : Array Value) (w : World), (Instr.makeFunc fn first cap).run Tryz.prog w = .ok (.func fn first cap) w := fun _ _ _ _ => rfl
  go_enter Tryz.func26, Tryz.ntmps26
  go_wp2_with (first
    | (go_at_call 28; refine (C1 _).mono ?_; clear C1; rintro e W1 ⟨rfl, hb⟩; obtain ⟨hav, C3⟩ := C2 _ W1 ((Below.refl _ _).alloc (Nat.le_refl _) _) hb rfl; clear C2; obtain ⟨hc, hf⟩ := bcell hb)
    | (go_at_call 34; refine C3.mono ?_; clear C3; rintro e W2 ⟨rfl, hb2⟩))
  go_ret
  exact ⟨rfl, (((Below.refl _ _).alloc (Nat.le_refl _) _).trans ((hb.alloc hb.size _).mono (by simp))).trans (hb2.mono (by have := hb.size; simp at this ⊢; omega))⟩
end Go.Proofs.YtgnnipnnnebpiaaGreatDoor
