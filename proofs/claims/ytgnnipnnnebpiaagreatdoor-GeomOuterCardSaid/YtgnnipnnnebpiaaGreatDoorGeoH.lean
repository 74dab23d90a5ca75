/-
  The registers of the document's example: where they lie; that Places tells them.
-/
import Derived.Test.YtgnnipnnnebpiaaGreatDoorGeoG
namespace Go.Proofs.YtgnnipnnnebpiaaGreatDoor
open Go.RowKit Go.Shelf

/-- The registers of a list, without those within them. -/
def regsOf : RegL → List RegD
  | .nil => []
  | .cons nm wd at_ sv _ rest => ⟨nm, wd, at_, sv⟩ :: regsOf rest
theorem regsOf_length : ∀ L : RegL, (regsOf L).length = L.length
  | .nil => rfl
  | .cons _ _ _ _ _ rest => by simp [regsOf, RegL.length, regsOf_length rest]
theorem HoldsAt.regs {n₀ : Nat} {W : World} {b : Nat} : ∀ {L : RegL} {o : Nat}, HoldsAt n₀ W b o L → RegsAt W b o (regsOf L)
  | .nil, _, _ => fun i r h => by simp [regsOf] at h
  | .cons nm wd at_ sv subs rest, o, ⟨_, hr, hrest, _⟩ => fun i r h => by
    cases i with
    | zero =>
      have : r = ⟨nm, wd, at_, sv⟩ := by simpa [regsOf] using h.symm
      subst this; simpa using hr
    | succ i =>
      have h2 := HoldsAt.regs hrest i r (by simpa [regsOf] using h)
      rw [show o + (i + 1) * 4 = o + 4 + i * 4 by omega]; exact h2
theorem RegsAt.take {W : World} {b o : Nat} {l : List RegD} (h : RegsAt W b o l) (i : Nat) : RegsAt W b o (l.take i) := fun j r hj => h j r (by
  rw [List.getElem?_take] at hj; split at hj
  · exact hj
  · cases hj)
theorem ahead_of {n₀ : Nat} {W : World} {sv : Value} {subs : RegL} (h : SliceIs n₀ W sv subs) (i : Nat) (hi : i ≤ subs.length) : AheadIs W (headOf sv i) ((regsOf subs).take i) := by
  rcases h with ⟨rfl, rfl⟩ | ⟨b, o, c, rfl, _, _, hh⟩
  · exact .inl ⟨rfl, by simp [regsOf]⟩
  · refine .inr ⟨b, o, c, ?_, (HoldsAt.regs hh).take i⟩
    rw [List.length_take, regsOf_length, Nat.min_eq_left hi]; rfl
/-- What comes ahead of an element of a list is so many of its elements. -/
theorem prefix_at {α : Type} {pre E : List α} {x : α} (h : pre ++ [x] <+: E) : ∃ i, pre = E.take i ∧ E[i]? = some x := by
  obtain ⟨t, rfl⟩ := h
  exact ⟨pre.length, by simp, by simp⟩

/-- The registers of the example, whose four arrays lie from block n on. -/
def raxL (n : Nat) : RegL :=
  .cons ⟨#[114, 97, 120]⟩ 64 0 (.slice (some ⟨n + 2, 0, none⟩) 1 1)
    (.cons ⟨#[101, 97, 120]⟩ 32 0 (.slice (some ⟨n + 1, 0, none⟩) 1 1)
      (.cons ⟨#[97, 120]⟩ 16 0 (.slice (some ⟨n, 0, none⟩) 2 2)
        (.cons ⟨#[97, 108]⟩ 8 0 (.slice none 0 0) .nil (.cons ⟨#[97, 104]⟩ 8 8 (.slice none 0 0) .nil .nil)) .nil) .nil) .nil

set_option maxRecDepth 100000 in
set_option maxHeartbeats 1000000 in
theorem rax_any (w : World) : Calls Tryz.prog 11 #[] w fun e w' => e = .returned (.slice (some ⟨w.heap.size + 3, 0, none⟩) 1 1) ∧ Below w.heap.size w w' ∧ HoldsAt w'.heap.size w' (w.heap.size + 3) 0 (raxL w.heap.size) := by
  go_enter Tryz.func11, Tryz.ntmps11
  go_wp2
  go_ret
  have c0 : Cells ((((w.alloc (.cells #[.string ⟨#[97, 108]⟩, .int .i64 8, .int .i64 0, .slice none 0 0, .string ⟨#[97, 104]⟩, .int .i64 8, .int .i64 8, .slice none 0 0] 26)).alloc (.cells #[.string ⟨#[97, 120]⟩, .int .i64 16, .int .i64 0, .slice (some ⟨w.heap.size, 0, none⟩) 2 2] 26)).alloc (.cells #[.string ⟨#[101, 97, 120]⟩, .int .i64 32, .int .i64 0, .slice (some ⟨w.heap.size + 1, 0, none⟩) 1 1] 26)).alloc (.cells #[.string ⟨#[114, 97, 120]⟩, .int .i64 64, .int .i64 0, .slice (some ⟨w.heap.size + 1 + 1, 0, none⟩) 1 1] 26)) w.heap.size 26 #[.string ⟨#[97, 108]⟩, .int .i64 8, .int .i64 0, .slice none 0 0, .string ⟨#[97, 104]⟩, .int .i64 8, .int .i64 8, .slice none 0 0] := (((Cells.new _ _ _).alloc _).alloc _).alloc _
  have c1 : Cells ((((w.alloc (.cells #[.string ⟨#[97, 108]⟩, .int .i64 8, .int .i64 0, .slice none 0 0, .string ⟨#[97, 104]⟩, .int .i64 8, .int .i64 8, .slice none 0 0] 26)).alloc (.cells #[.string ⟨#[97, 120]⟩, .int .i64 16, .int .i64 0, .slice (some ⟨w.heap.size, 0, none⟩) 2 2] 26)).alloc (.cells #[.string ⟨#[101, 97, 120]⟩, .int .i64 32, .int .i64 0, .slice (some ⟨w.heap.size + 1, 0, none⟩) 1 1] 26)).alloc (.cells #[.string ⟨#[114, 97, 120]⟩, .int .i64 64, .int .i64 0, .slice (some ⟨w.heap.size + 1 + 1, 0, none⟩) 1 1] 26)) (w.heap.size + 1) 26 #[.string ⟨#[97, 120]⟩, .int .i64 16, .int .i64 0, .slice (some ⟨w.heap.size, 0, none⟩) 2 2] := by
    have := Cells.new (w.alloc (.cells #[.string ⟨#[97, 108]⟩, .int .i64 8, .int .i64 0, .slice none 0 0, .string ⟨#[97, 104]⟩, .int .i64 8, .int .i64 8, .slice none 0 0] 26)) 26 #[.string ⟨#[97, 120]⟩, .int .i64 16, .int .i64 0, .slice (some ⟨w.heap.size, 0, none⟩) 2 2]
    rw [World.size_alloc] at this; exact (this.alloc _).alloc _
  have c2 : Cells ((((w.alloc (.cells #[.string ⟨#[97, 108]⟩, .int .i64 8, .int .i64 0, .slice none 0 0, .string ⟨#[97, 104]⟩, .int .i64 8, .int .i64 8, .slice none 0 0] 26)).alloc (.cells #[.string ⟨#[97, 120]⟩, .int .i64 16, .int .i64 0, .slice (some ⟨w.heap.size, 0, none⟩) 2 2] 26)).alloc (.cells #[.string ⟨#[101, 97, 120]⟩, .int .i64 32, .int .i64 0, .slice (some ⟨w.heap.size + 1, 0, none⟩) 1 1] 26)).alloc (.cells #[.string ⟨#[114, 97, 120]⟩, .int .i64 64, .int .i64 0, .slice (some ⟨w.heap.size + 1 + 1, 0, none⟩) 1 1] 26)) (w.heap.size + 2) 26 #[.string ⟨#[101, 97, 120]⟩, .int .i64 32, .int .i64 0, .slice (some ⟨w.heap.size + 1, 0, none⟩) 1 1] := by
    have := Cells.new ((w.alloc (.cells #[.string ⟨#[97, 108]⟩, .int .i64 8, .int .i64 0, .slice none 0 0, .string ⟨#[97, 104]⟩, .int .i64 8, .int .i64 8, .slice none 0 0] 26)).alloc (.cells #[.string ⟨#[97, 120]⟩, .int .i64 16, .int .i64 0, .slice (some ⟨w.heap.size, 0, none⟩) 2 2] 26)) 26 #[.string ⟨#[101, 97, 120]⟩, .int .i64 32, .int .i64 0, .slice (some ⟨w.heap.size + 1, 0, none⟩) 1 1]
    simp only [World.size_alloc] at this; exact this.alloc _
  have c3 : Cells ((((w.alloc (.cells #[.string ⟨#[97, 108]⟩, .int .i64 8, .int .i64 0, .slice none 0 0, .string ⟨#[97, 104]⟩, .int .i64 8, .int .i64 8, .slice none 0 0] 26)).alloc (.cells #[.string ⟨#[97, 120]⟩, .int .i64 16, .int .i64 0, .slice (some ⟨w.heap.size, 0, none⟩) 2 2] 26)).alloc (.cells #[.string ⟨#[101, 97, 120]⟩, .int .i64 32, .int .i64 0, .slice (some ⟨w.heap.size + 1, 0, none⟩) 1 1] 26)).alloc (.cells #[.string ⟨#[114, 97, 120]⟩, .int .i64 64, .int .i64 0, .slice (some ⟨w.heap.size + 1 + 1, 0, none⟩) 1 1] 26)) (w.heap.size + 3) 26 #[.string ⟨#[114, 97, 120]⟩, .int .i64 64, .int .i64 0, .slice (some ⟨w.heap.size + 1 + 1, 0, none⟩) 1 1] := by
    have := Cells.new (((w.alloc (.cells #[.string ⟨#[97, 108]⟩, .int .i64 8, .int .i64 0, .slice none 0 0, .string ⟨#[97, 104]⟩, .int .i64 8, .int .i64 8, .slice none 0 0] 26)).alloc (.cells #[.string ⟨#[97, 120]⟩, .int .i64 16, .int .i64 0, .slice (some ⟨w.heap.size, 0, none⟩) 2 2] 26)).alloc (.cells #[.string ⟨#[101, 97, 120]⟩, .int .i64 32, .int .i64 0, .slice (some ⟨w.heap.size + 1, 0, none⟩) 1 1] 26)) 26 #[.string ⟨#[114, 97, 120]⟩, .int .i64 64, .int .i64 0, .slice (some ⟨w.heap.size + 1 + 1, 0, none⟩) 1 1]
    simp only [World.size_alloc] at this; exact this
  refine ⟨rfl, ((((Below.refl _ _).alloc (Nat.le_refl _) _).alloc (by simp) _).alloc (by simp; omega) _).alloc (by simp; omega) _, ?_⟩
  generalize ((((w.alloc (.cells #[.string ⟨#[97, 108]⟩, .int .i64 8, .int .i64 0, .slice none 0 0, .string ⟨#[97, 104]⟩, .int .i64 8, .int .i64 8, .slice none 0 0] 26)).alloc (.cells #[.string ⟨#[97, 120]⟩, .int .i64 16, .int .i64 0, .slice (some ⟨w.heap.size, 0, none⟩) 2 2] 26)).alloc (.cells #[.string ⟨#[101, 97, 120]⟩, .int .i64 32, .int .i64 0, .slice (some ⟨w.heap.size + 1, 0, none⟩) 1 1] 26)).alloc (.cells #[.string ⟨#[114, 97, 120]⟩, .int .i64 64, .int .i64 0, .slice (some ⟨w.heap.size + 1 + 1, 0, none⟩) 1 1] 26)) = U at c0 c1 c2 c3 ⊢
  exact ⟨c3.lt, ⟨c3.cell rfl, c3.cell rfl, c3.cell rfl, c3.cell rfl⟩, trivial, .inr ⟨w.heap.size + 2, 0, 1, rfl, Nat.le_refl _, by simp [RegL.length],
    c2.lt, ⟨c2.cell rfl, c2.cell rfl, c2.cell rfl, c2.cell rfl⟩, trivial, .inr ⟨w.heap.size + 1, 0, 1, rfl, Nat.le_refl _, by simp [RegL.length],
    c1.lt, ⟨c1.cell rfl, c1.cell rfl, c1.cell rfl, c1.cell rfl⟩, trivial, .inr ⟨w.heap.size, 0, 2, rfl, Nat.le_refl _, by simp [RegL.length],
    c0.lt, ⟨c0.cell rfl, c0.cell rfl, c0.cell rfl, c0.cell rfl⟩, ⟨c0.lt, ⟨c0.cell rfl, c0.cell rfl, c0.cell rfl, c0.cell rfl⟩, trivial, .inl ⟨rfl, rfl⟩⟩, .inl ⟨rfl, rfl⟩⟩⟩⟩⟩

theorem isName_of {s : ByteArray} (h : decide (0 < s.size ∧ s.size ≤ 20) = true) (hf : letterB (s.data.toList.headD 0).toNat = true) (ha : (s.data.toList.all fun c => inNameB c.toNat) = true) : IsName s := by
  have hh := of_decide_eq_true h
  refine ⟨hh.1, hh.2, ?_, fun c hc => List.all_eq_true.1 ha c hc⟩
  have hd : s.data.toList.headD 0 = s[0]'hh.1 := by
    have := drop_at s 0 hh.1
    rw [List.drop_zero] at this
    rw [this]; rfl
  rw [← hd]; exact hf
theorem notWord_of {s : ByteArray} (h : (words.all fun x => !(s.toList == x)) = true) : NotWord s := fun x hx => by
  have := List.all_eq_true.1 h x hx
  simpa using this

/-- What is asked of a register by itself, and of it and those ahead of it. -/
structure Sound1 (deep aAt aW : Int) (ahead : List RegD) (nm : ByteArray) (wd at_ : Int) : Prop where
  name : IsName nm
  word : NotWord nm
  deep : deep ≤ 6
  a0 : 0 ≤ aAt
  a1 : aAt ≤ 500
  b0 : 0 ≤ at_
  b1 : at_ ≤ 64
  w0 : 1 ≤ wd
  w1 : wd ≤ 64
  c1 : aW ≤ 1000
  fits : at_ + wd ≤ aW
  few : ahead.length ≤ 200
  ahead : ∀ r, r ∈ ahead → r.small ∧ lapB (aAt + r.at_) r.wd (aAt + at_) wd = false
/-- A list of registers within one all of which can be. -/
def SoundIn (deep aAt aW : Int) (ahead : List RegD) : RegL → Prop
  | .nil => True
  | .cons nm wd at_ sv subs rest => Sound1 deep aAt aW ahead nm wd at_ ∧ SoundIn (deep + 1) (aAt + at_) wd [] subs ∧ SoundIn deep aAt aW (ahead ++ [⟨nm, wd, at_, sv⟩]) rest
/-- A list of outer registers all of which can be. -/
def SoundOut : RegL → Prop
  | .nil => True
  | .cons nm wd at_ _ subs rest => Sound1 1 0 wd [] nm wd at_ ∧ SoundIn (1 + 1) (0 + at_) wd [] subs ∧ SoundOut rest

/-- What is asked of a spot but that its name is new, and that it is not one too many. -/
def Local (w : World) (x : Spot) : Prop :=
  ((∃ a n c, x.sv = .slice a n c) ∧ ∃ a n c, x.av = .slice a n c) ∧ ∃ l, Sound1 x.deep x.aAt x.aW l x.name x.wd x.at_ ∧ AheadIs w x.av l

theorem slice_form {n₀ : Nat} {W : World} {sv : Value} {subs : RegL} (h : SliceIs n₀ W sv subs) : ∃ a n c, sv = .slice a n c := by
  rcases h with ⟨h, _⟩ | ⟨b2, o2, c2, h, _⟩
  · exact ⟨_, _, _, h⟩
  · exact ⟨_, _, _, h⟩
theorem ahead_form {W : World} {v : Value} {l : List RegD} (h : AheadIs W v l) : ∃ a n c, v = .slice a n c := by
  rcases h with ⟨h, _⟩ | ⟨b, o, c, h, _⟩
  · exact ⟨_, _, _, h⟩
  · exact ⟨_, _, _, h⟩

theorem local_in {n₀ : Nat} {w : World} : ∀ (L : RegL) (b o : Nat) (deep root aAt aW : Int) (sv : Value) (i : Nat) (ahead : List RegD), HoldsAt n₀ w b o L → SoundIn deep aAt aW ahead L →
    (∀ j, j ≤ L.length → AheadIs w (headOf sv (i + j)) (ahead ++ (regsOf L).take j)) → ∀ x, x ∈ spotsIn deep root aAt aW sv i L → Local w x
  | .nil, _, _, _, _, _, _, _, _, _, _, _, _, x, hx => by simp [spotsIn] at hx
  | .cons nm wd at_ v subs rest, b, o, deep, root, aAt, aW, sv, i, ahead, ⟨_, _, hrest, hs⟩, ⟨h1, h2, h3⟩, ha, x, hx => by
    have hs' : SliceIs n₀ w v subs := hs
    rcases List.mem_cons.1 hx with rfl | hx
    · have h0 := ha 0 (Nat.zero_le _)
      simp only [Nat.add_zero, List.take_zero, List.append_nil] at h0
      exact ⟨⟨slice_form hs', ahead_form h0⟩, ahead, h1, h0⟩
    · rcases List.mem_append.1 hx with hx | hx
      · rcases hs with ⟨_, rfl⟩ | ⟨b', o', c', _, _, _, hh⟩
        · simp [spotsIn] at hx
        · exact local_in subs b' o' (deep + 1) root (aAt + at_) wd v 0 [] hh h2 (fun j hj => by
            rw [Nat.zero_add, List.nil_append]; exact ahead_of hs' j hj) x hx
      · refine local_in rest b (o + 4) deep root aAt aW sv (i + 1) (ahead ++ [⟨nm, wd, at_, v⟩]) hrest h3 (fun j hj => ?_) x hx
        have := ha (j + 1) (by simp only [RegL.length]; omega)
        rw [show i + (j + 1) = i + 1 + j by omega] at this
        simpa [regsOf] using this

theorem local_out {n₀ : Nat} {w : World} : ∀ (L : RegL) (b o i : Nat), HoldsAt n₀ w b o L → SoundOut L → ∀ x, x ∈ spotsOut i L → Local w x
  | .nil, _, _, _, _, _, x, hx => by simp [spotsOut] at hx
  | .cons nm wd at_ v subs rest, b, o, i, ⟨_, _, hrest, hs⟩, ⟨h1, h2, h3⟩, x, hx => by
    have hs' : SliceIs n₀ w v subs := hs
    rcases List.mem_append.1 hx with hx | hx
    · rcases List.mem_cons.1 hx with rfl | hx
      · exact ⟨⟨slice_form hs', ⟨_, _, _, rfl⟩⟩, [], h1, .inl ⟨rfl, rfl⟩⟩
      · rcases hs with ⟨_, rfl⟩ | ⟨b', o', c', _, _, _, hh⟩
        · simp [spotsIn] at hx
        · exact local_in subs b' o' (1 + 1) i (0 + at_) wd v 0 [] hh h2 (fun j hj => by
            rw [Nat.zero_add, List.nil_append]; exact ahead_of hs' j hj) x hx
    · exact local_out rest b (o + 4) (i + 1) hrest h3 x hx

/-- All that Places asks of a list of outer registers that lies in memory, none of whose names stands twice. -/
theorem fine_out {w : World} {b o : Nat} {L : RegL} (hL : HoldsAt w.heap.size w b o L) (hs : SoundOut L) (hnd : ((spotsOut 0 L).map (·.name)).Nodup) (hlen : (spotsOut 0 L).length ≤ 200) : ∀ pre x, pre ++ [x] <+: spotsOut 0 L → Fine w pre x := by
  intro pre x h
  have hmem : x ∈ spotsOut 0 L := h.subset (by simp)
  obtain ⟨hv, l, h1, hal⟩ := local_out L b o 0 hL hs x hmem
  have hpl : pre.length + 1 ≤ (spotsOut 0 L).length := by have := h.length_le; simpa using this
  refine ⟨h1.name, h1.word, ?_, by omega, h1.deep, h1.a0, h1.a1, h1.b0, by have := h1.b1; omega, h1.w0, h1.w1, h1.c1, h1.fits, hv, l, h1.few, hal, h1.ahead⟩
  obtain ⟨t, ht⟩ := h
  rw [← ht] at hnd
  intro hc
  rw [List.map_append, List.map_append, List.append_assoc] at hnd
  have := (List.nodup_append.1 hnd).2.2 x.name hc x.name (by simp)
  exact this rfl
end Go.Proofs.YtgnnipnnnebpiaaGreatDoor
