/-
  GeomChain: registers each within the one ahead, as a tree in memory; what Places tells of them.
-/
import Derived.Test.YtpcdfficlheopaaGreatDoorRowC
namespace Go.Proofs.YtpcdfficlheopaaGreatDoor
open Go.RowKit Go.Shelf

def digs : ByteArray := ⟨#[48, 49, 50, 51, 52]⟩
def xname (k : Nat) : ByteArray := ⟨#[120]⟩ ++ digs.extract k (k + 1)
def x5 : ByteArray := ⟨#[120, 53]⟩
/-- The name of the register that holds those at the numbers d. -/
def nmOf (k : Nat) : List Int → ByteArray
  | [] => x5
  | _ :: _ => xname k
def wdOf : List Int → Int
  | [] => 1
  | a :: r => wdOf r + a + 1
def sumOf : List Int → Int
  | [] => 0
  | a :: r => sumOf r + a
def Small10 (d : List Int) : Prop := ∀ a, a ∈ d → 0 ≤ a ∧ a ≤ 10
theorem Small10.tail {a : Int} {d : List Int} (h : Small10 (a :: d)) : Small10 d := fun x hx => h x (by simp [hx])
theorem wdOf_bounds : ∀ {d : List Int}, Small10 d → 1 ≤ wdOf d ∧ wdOf d ≤ 1 + 11 * (d.length : Int)
  | [], _ => by simp [wdOf]
  | a :: r, h => by
    have h1 := wdOf_bounds h.tail
    have h2 := h a (by simp)
    simp only [wdOf, List.length_cons]; omega
theorem sumOf_bounds : ∀ {d : List Int}, Small10 d → 0 ≤ sumOf d ∧ sumOf d ≤ 10 * (d.length : Int)
  | [], _ => by simp [sumOf]
  | a :: r, h => by
    have h1 := sumOf_bounds h.tail
    have h2 := h a (by simp)
    simp only [sumOf, List.length_cons]; omega

/-- sv is the slice of the registers within the k-th, all of them from block lo on. -/
def ChainAt (W : World) (lo : Nat) : Nat → List Int → Value → Prop
  | _, [], sv => sv = .slice none 0 0
  | k, a :: r, sv => ∃ B sv', sv = .slice (some ⟨B, 0, none⟩) 1 1 ∧ lo ≤ B ∧ B < W.heap.size ∧ RegAt W B 0 ⟨nmOf (k + 1) r, wdOf r, a, sv'⟩ ∧ ChainAt W lo (k + 1) r sv'
theorem ChainAt.keep {W W' : World} {lo : Nat} (hs : W.heap.size ≤ W'.heap.size) (hc : ∀ b j v, lo ≤ b → W.cell? ⟨b, j, none⟩ = some v → W'.cell? ⟨b, j, none⟩ = some v) : ∀ {d : List Int} {k : Nat} {sv : Value}, ChainAt W lo k d sv → ChainAt W' lo k d sv
  | [], _, _, h => h
  | _ :: _, _, _, ⟨B, sv', e, h1, h2, h3, h4⟩ => ⟨B, sv', e, h1, by omega, regAt_of h3 (fun j v => hc B j v h1), ChainAt.keep hs hc h4⟩
theorem ChainAt.form {W : World} {lo k : Nat} : ∀ {d : List Int} {sv : Value}, ChainAt W lo k d sv → ∃ a n c, sv = .slice a n c
  | [], _, h => ⟨_, _, _, h⟩
  | _ :: _, _, ⟨_, _, e, _⟩ => ⟨_, _, _, e⟩

/-- The same as a tree. -/
def ChainL : Nat → List Int → RegL → Prop
  | _, [], L => L = .nil
  | k, a :: r, L => ∃ sv' subs, L = .cons (nmOf (k + 1) r) (wdOf r) a sv' subs .nil ∧ ChainL (k + 1) r subs
theorem ChainAt.tree {W : World} {lo : Nat} : ∀ {d : List Int} {k : Nat} {sv : Value}, ChainAt W lo k d sv → ∃ L, ChainL k d L ∧ SliceIs W.heap.size W sv L
  | [], _, _, h => ⟨.nil, rfl, .inl ⟨h, rfl⟩⟩
  | a :: r, k, _, ⟨B, sv', rfl, _, h2, h3, h4⟩ => by
    obtain ⟨L, hL, hs⟩ := ChainAt.tree h4
    exact ⟨.cons (nmOf (k + 1) r) (wdOf r) a sv' L .nil, ⟨sv', L, rfl, hL⟩, .inr ⟨B, 0, 1, rfl, Nat.le_refl _, by simp [RegL.length], h2, h3, trivial, hs⟩⟩

theorem nm_ok (k : Nat) (d : List Int) (h : d ≠ [] → k < 5) : IsName (nmOf k d) ∧ NotWord (nmOf k d) := by
  have h5 : ∀ k : Fin 5, decide (0 < (xname k).size ∧ (xname k).size ≤ 20) = true ∧ letterB ((xname k).data.toList.headD 0).toNat = true ∧ ((xname k).data.toList.all fun c => inNameB c.toNat) = true ∧ (words.all fun x => !((xname k).toList == x)) = true := by decide +kernel
  cases d with
  | nil =>
    show IsName x5 ∧ NotWord x5
    exact ⟨isName_of (by decide) (by decide) (by decide), notWord_of (by decide +kernel)⟩
  | cons a r =>
    obtain ⟨h1, h2, h3, h4⟩ := h5 ⟨k, h (by simp)⟩
    exact ⟨isName_of h1 h2 h3, notWord_of h4⟩

theorem chain_sound : ∀ (d : List Int) (k : Nat) (L : RegL) (deep aAt aW : Int), ChainL k d L → Small10 d → k + d.length ≤ 5 → deep + d.length ≤ 7 → 0 ≤ aAt → aAt + 10 * (d.length : Int) ≤ 500 → wdOf d ≤ aW → aW ≤ 1000 → SoundIn deep aAt aW [] L
  | [], _, L, _, _, _, h, _, _, _, _, _, _, _ => by rw [show L = .nil from h]; exact trivial
  | a :: r, k, L, deep, aAt, aW, h, hs, hk, hd, h0, h1, hw, hW => by
    obtain ⟨sv', subs, rfl, hc⟩ := h
    have ha := hs a (by simp)
    have hb := wdOf_bounds hs.tail
    simp only [List.length_cons, wdOf] at hk hd h1 hw
    obtain ⟨n1, n2⟩ := nm_ok (k + 1) r (fun hr => by
      have : 0 < r.length := List.length_pos_iff.2 hr
      omega)
    refine ⟨lap_none n1 n2 ⟨by omega, h0, by omega, ha.1, by omega, hb.1, by omega, hW, by omega⟩, ?_, trivial⟩
    exact chain_sound r (k + 1) subs (deep + 1) (aAt + a) (wdOf r) hc hs.tail (by omega) (by omega) (by omega) (by omega) (Int.le_refl _) (by omega)
theorem chain_small : ∀ (d : List Int) (k : Nat) (L : RegL), ChainL k d L → Small10 d → d.length ≤ 5 → L.small
  | [], _, L, h, _, _ => by rw [show L = .nil from h]; exact trivial
  | a :: r, k, L, h, hs, hk => by
    obtain ⟨sv', subs, rfl, hc⟩ := h
    have ha := hs a (by simp)
    have hb := wdOf_bounds hs.tail
    simp only [List.length_cons] at hk
    exact ⟨⟨ha.1, by omega, hb.1, by omega⟩, chain_small r (k + 1) subs hc hs.tail (by omega), trivial⟩
theorem chain_height : ∀ (d : List Int) (k : Nat) (L : RegL), ChainL k d L → L.height ≤ d.length
  | [], _, L, h => by rw [show L = .nil from h]; exact Nat.le_refl _
  | a :: r, k, L, h => by
    obtain ⟨sv', subs, rfl, hc⟩ := h
    have := chain_height r (k + 1) subs hc
    simp only [RegL.height, List.length_cons]; omega

/-- What is told of the k-th register, which begins at at_, and of those within it. -/
def said : Nat → Int → List Int → List (ByteArray × Int × Int × Int)
  | _, at_, [] => [(x5, 0, at_, 1)]
  | k, at_, a :: r => (xname k, 0, at_, wdOf (a :: r)) :: said (k + 1) (at_ + a) r
theorem chain_said : ∀ (d : List Int) (k : Nat) (L : RegL) (deep at_ aW : Int) (sv : Value) (i : Nat), ChainL k d L →
    (nmOf k d, (0 : Int), at_, wdOf d) :: (spotsIn deep 0 at_ aW sv i L).map (fun x => (x.name, x.place)) = said k at_ d
  | [], _, L, _, _, _, _, _, h => by rw [show L = .nil from h]; rfl
  | a :: r, k, L, deep, at_, aW, sv, i, h => by
    obtain ⟨sv', subs, rfl, hc⟩ := h
    have := chain_said r (k + 1) subs (deep + 1) (at_ + a) (wdOf r) sv' 0 hc
    simp only [spotsIn, List.append_nil, List.map_cons, said, nmOf]
    refine List.cons_eq_cons.2 ⟨rfl, ?_⟩
    rw [← this]; rfl
theorem said_length : ∀ (d : List Int) (k : Nat) (at_ : Int), (said k at_ d).length = d.length + 1
  | [], _, _ => rfl
  | a :: r, k, at_ => by simp [said, said_length r (k + 1) (at_ + a)]
theorem said_last : ∀ (d : List Int) (k : Nat) (at_ : Int), (said k at_ d)[d.length]? = some (x5, 0, at_ + sumOf d, 1)
  | [], _, at_ => by simp [said, sumOf]
  | a :: r, k, at_ => by
    simp only [said, List.length_cons, List.getElem?_cons_succ, sumOf]
    rw [said_last r (k + 1) (at_ + a)]
    congr 4; omega
theorem said_first : ∀ (d : List Int) (k : Nat) (at_ : Int), ((said k at_ d)[0]?).map (·.2) = some (0, at_, wdOf d)
  | [], _, _ => rfl
  | _ :: _, _, _ => rfl
def namesOf : Nat → Nat → List ByteArray
  | _, 0 => [x5]
  | k, n + 1 => xname k :: namesOf (k + 1) n
theorem said_names : ∀ (d : List Int) (k : Nat) (at_ : Int), (said k at_ d).map (·.1) = namesOf k d.length
  | [], _, _ => rfl
  | a :: r, k, at_ => by simp [said, namesOf, said_names r (k + 1) (at_ + a)]
theorem names_nodup (n : Nat) (h : n ≤ 5) : (namesOf 0 n).Nodup := by
  have h6 : ∀ n : Fin 6, (namesOf 0 n).Nodup := by decide +kernel
  exact h6 ⟨n, by omega⟩

set_option maxHeartbeats 1000000 in
theorem chain_places (d : List Int) (w : World) (hE : Env w) (B lo : Nat) (sv : Value) (h5 : d.length ≤ 5) (hs : Small10 d)
    (hR : Cells w B 26 #[.string (nmOf 0 d), .int .i64 (wdOf d), .int .i64 0, sv]) (hC : ChainAt w lo 0 d sv) :
    Calls Tryz.prog 7 #[.slice (some ⟨B, 0, none⟩) 1 1] w fun e W' => ∃ nV q qc, e = .returned (.tuple #[nV, .slice (some ⟨q, 0, none⟩) (d.length + 1) qc, .int .i64 0]) ∧
      (W'.cell? ⟨q, 0, none⟩ = some (.int .i64 0) ∧ W'.cell? ⟨q, 1, none⟩ = some (.int .i64 0) ∧ W'.cell? ⟨q, 2, none⟩ = some (.int .i64 (wdOf d))) ∧
      (W'.cell? ⟨q, d.length * 3, none⟩ = some (.int .i64 0) ∧ W'.cell? ⟨q, d.length * 3 + 1, none⟩ = some (.int .i64 (sumOf d)) ∧ W'.cell? ⟨q, d.length * 3 + 2, none⟩ = some (.int .i64 1)) ∧ Below w.heap.size w W' := by
  obtain ⟨L, hL, hsl⟩ := hC.tree
  have hb := wdOf_bounds hs
  have hh := chain_height d 0 L hL
  obtain ⟨n1, n2⟩ := nm_ok 0 d (fun _ => by decide)
  have hH : HoldsAt w.heap.size w B 0 (.cons (nmOf 0 d) (wdOf d) 0 sv L .nil) := ⟨hR.lt, ⟨hR.cell rfl, hR.cell rfl, hR.cell rfl, hR.cell rfl⟩, trivial, hsl⟩
  have hsp : (spotsOut 0 (.cons (nmOf 0 d) (wdOf d) 0 sv L .nil)).map (fun x => (x.name, x.place)) = said 0 0 d := by
    rw [← chain_said d 0 L (1 + 1) 0 (wdOf d) sv 0 hL]
    simp only [spotsOut, List.append_nil, List.map_cons]
    rfl
  have hE1 : (spotsOut 0 (.cons (nmOf 0 d) (wdOf d) 0 sv L .nil)).map Spot.place = (said 0 0 d).map (·.2) := by rw [← hsp, List.map_map]; rfl
  have hE2 : (spotsOut 0 (.cons (nmOf 0 d) (wdOf d) 0 sv L .nil)).map (·.name) = namesOf 0 d.length := by rw [← said_names d 0 0, ← hsp, List.map_map]; rfl
  have hE3 : (spotsOut 0 (.cons (nmOf 0 d) (wdOf d) 0 sv L .nil)).length = d.length + 1 := by rw [← said_length d 0 0, ← hsp, List.length_map]
  have P := places_ok B 0 1 (.cons (nmOf 0 d) (wdOf d) 0 sv L .nil) w hE hH
    ⟨⟨by decide, by decide, hb.1, by omega⟩, chain_small d 0 L hL hs h5, trivial⟩ (by simp only [RegL.height]; omega) (by simp only [RegL.length]; omega)
    (fine_out hH ⟨lap_none n1 n2 ⟨by decide, by decide, by decide, by decide, by decide, hb.1, by omega, by omega, by omega⟩, chain_sound d 0 L (1 + 1) (0 + 0) (wdOf d) hL hs (by omega) (by omega) (by decide) (by omega) (Int.le_refl _) (by omega), trivial⟩
      (by rw [hE2]; exact names_nodup _ h5) (by rw [hE3]; omega))
  refine P.mono ?_
  rintro e W' ⟨nV, pV, rfl, _, hp, hB⟩
  rw [hE1, hE3] at hp
  obtain ⟨q, qc, rfl⟩ := ownsRow_succ hp
  have g0 : ((said 0 0 d).map (·.2))[0]? = some (0, 0, wdOf d) := by rw [List.getElem?_map]; exact said_first d 0 0
  have g1 : ((said 0 0 d).map (·.2))[d.length]? = some (0, sumOf d, 1) := by rw [List.getElem?_map, said_last]; simp
  obtain ⟨a0, a1, a2⟩ := placeCells_get g0
  obtain ⟨b0, b1, b2⟩ := placeCells_get g1
  exact ⟨nV, q, qc, rfl, ⟨ownsRow_cell hp a0, ownsRow_cell hp a1, ownsRow_cell hp a2⟩, ⟨ownsRow_cell hp b0, ownsRow_cell hp b1, ownsRow_cell hp b2⟩, hB⟩
end Go.Proofs.YtpcdfficlheopaaGreatDoor
