/-
  vir's forms.
-/
import Derived.Test.YtfnfijgknjnccaaGreatDoorVwL
import Derived.Deep.MidRow
namespace Go.Proofs.YtfnfijgknjnccaaGreatDoor
open Go.RowKit Go.Sort
/-- The forms. -/
def formsV : List FormV := [⟨1, ⟨#[68, 32, 61, 32, 99, 111, 110, 115, 116, 32, 78]⟩, 0, 0⟩,
  ⟨2, ⟨#[68, 32, 61, 32, 99, 111, 112, 121, 32, 65]⟩, 0, 0⟩,
  ⟨3, ⟨#[68, 32, 61, 32, 79, 80]⟩, 1, 2⟩,
  ⟨4, ⟨#[68, 32, 61, 32, 108, 111, 97, 100, 32, 65]⟩, 0, 0⟩,
  ⟨5, ⟨#[115, 116, 111, 114, 101, 32, 65, 32, 66]⟩, 0, 0⟩,
  ⟨6, ⟨#[99, 97, 108, 108, 32, 78, 65, 77, 69]⟩, 0, 65536⟩,
  ⟨6, ⟨#[68, 32, 61, 32, 99, 97, 108, 108, 32, 78, 65, 77, 69]⟩, 0, 65536⟩,
  ⟨7, ⟨#[98, 114, 32, 65, 32, 84, 32, 70]⟩, 0, 0⟩,
  ⟨8, ⟨#[106, 117, 109, 112, 32, 84]⟩, 0, 0⟩,
  ⟨9, ⟨#[114, 101, 116, 32, 65]⟩, 0, 0⟩]
def formCells : List Value := [.int .i64 1, .string ⟨#[68, 32, 61, 32, 99, 111, 110, 115, 116, 32, 78]⟩, .int .i64 0, .int .i64 0, .int .i64 2, .string ⟨#[68, 32, 61, 32, 99, 111, 112, 121, 32, 65]⟩, .int .i64 0, .int .i64 0, .int .i64 3, .string ⟨#[68, 32, 61, 32, 79, 80]⟩, .int .i64 1, .int .i64 2, .int .i64 4, .string ⟨#[68, 32, 61, 32, 108, 111, 97, 100, 32, 65]⟩, .int .i64 0, .int .i64 0, .int .i64 5, .string ⟨#[115, 116, 111, 114, 101, 32, 65, 32, 66]⟩, .int .i64 0, .int .i64 0, .int .i64 6, .string ⟨#[99, 97, 108, 108, 32, 78, 65, 77, 69]⟩, .int .i64 0, .int .i64 65536, .int .i64 6, .string ⟨#[68, 32, 61, 32, 99, 97, 108, 108, 32, 78, 65, 77, 69]⟩, .int .i64 0, .int .i64 65536, .int .i64 7, .string ⟨#[98, 114, 32, 65, 32, 84, 32, 70]⟩, .int .i64 0, .int .i64 0, .int .i64 8, .string ⟨#[106, 117, 109, 112, 32, 84]⟩, .int .i64 0, .int .i64 0, .int .i64 9, .string ⟨#[114, 101, 116, 32, 65]⟩, .int .i64 0, .int .i64 0]
set_option maxRecDepth 100000 in
theorem formsA_index : ∀ (j : Nat) (f : FormV), formsV[j]? = some f → ∀ w, (Instr.index 90 (.agg formCells.toArray) (.int .i64 j)).run Tryz.prog w = .ok f.v w := fun j f h w => by
  have hj : j < 10 := (List.getElem?_eq_some_iff.1 h).1
  have h10 : j = 0 ∨ j = 1 ∨ j = 2 ∨ j = 3 ∨ j = 4 ∨ j = 5 ∨ j = 6 ∨ j = 7 ∨ j = 8 ∨ j = 9 := by omega
  rcases h10 with rfl | rfl | rfl | rfl | rfl | rfl | rfl | rfl | rfl | rfl <;> (cases h; show (_ : Result _) = _; kernel_rfl)
theorem forms_parts : formsV.map (fun f => partsOf f.line) = [[⟨#[68]⟩, ⟨#[61]⟩, ⟨#[99, 111, 110, 115, 116]⟩, ⟨#[78]⟩], [⟨#[68]⟩, ⟨#[61]⟩, ⟨#[99, 111, 112, 121]⟩, ⟨#[65]⟩], [⟨#[68]⟩, ⟨#[61]⟩, ⟨#[79, 80]⟩], [⟨#[68]⟩, ⟨#[61]⟩, ⟨#[108, 111, 97, 100]⟩, ⟨#[65]⟩], [⟨#[115, 116, 111, 114, 101]⟩, ⟨#[65]⟩, ⟨#[66]⟩], [⟨#[99, 97, 108, 108]⟩, ⟨#[78, 65, 77, 69]⟩], [⟨#[68]⟩, ⟨#[61]⟩, ⟨#[99, 97, 108, 108]⟩, ⟨#[78, 65, 77, 69]⟩], [⟨#[98, 114]⟩, ⟨#[65]⟩, ⟨#[84]⟩, ⟨#[70]⟩], [⟨#[106, 117, 109, 112]⟩, ⟨#[84]⟩], [⟨#[114, 101, 116]⟩, ⟨#[65]⟩]] := by decide +kernel
theorem forms_ascii : ∀ f, f ∈ formsV → f.line.size ≤ 20 ∧ (f.line.data.toList.all fun b => decide (b.toNat < 128)) = true := by decide +kernel
/-- What stands in the program's variables, the forms among it. -/
structure EnvF (w : World) : Prop where
  env : EnvV w
  forms : ∀ (i : Nat) v, formCells[i]? = some v → w.cell? ⟨0, i, none⟩ = some v
theorem EnvF.below {w V : World} (h : EnvF w) (hb : Below w.heap.size w V) : EnvF V := ⟨h.env.below hb, fun i v hv => cell_below hb (h.forms i v hv)⟩
theorem EnvF.range {w : World} (h : EnvF w) : w.rangeAt 0 0 formCells := fun j v hv => by
  rw [Nat.zero_add]
  exact h.forms j v hv
theorem forms_name : ∀ f, f ∈ formsV → (∀ p, p ∈ partsOf f.line → p.toList = [78, 65, 77, 69] → f.k = 6) ∧ (∀ p, p ∈ partsOf f.line → p.toList = [79, 80] → f.k = 3) ∧ (∀ p, p ∈ partsOf f.line → p.size ≤ 20) ∧ (partsOf f.line).length ≤ 20 ∧ 1 ≤ (partsOf f.line).length := by decide +kernel
theorem forms_asc (f : FormV) (h : f ∈ formsV) : Ascii f.line := by
  obtain ⟨h1, h2⟩ := forms_ascii f h
  refine ⟨by omega, fun j b hb => ?_⟩
  rw [List.all_eq_true] at h2
  exact of_decide_eq_true (h2 b (List.mem_of_getElem? hb))
/-- What is asked of an instruction. -/
structure InsOk (x : InsV) (L : List Int) : Prop where
  nums : InsIn x
  args : ∀ y, y ∈ L → 0 ≤ y ∧ y ≤ 99999
  few : L.length ≤ 16
  nm : x.nm.size ≤ 65536
  name : x.k = 6 → IsName x.nm
  op : x.k = 3 → opBad x.nm = false → IsName x.nm
theorem putX_nm {x : InsV} {p : ByteArray} (h : p.toList = [78, 65, 77, 69] ∨ p.toList = [79, 80]) : putX x p = x.nm := by
  have e : placeI p = none := by
    unfold placeI
    rcases h with h | h <;> rw [h] <;> rfl
  unfold putX
  rw [e]
  rcases h with h | h <;> rw [h] <;> rfl
theorem putX_size {x : InsV} {L : List Int} (h : InsOk x L) (p : ByteArray) (hp : p.size ≤ 20) : (putX x p).size ≤ 65536 := by
  unfold putX
  split
  · rename_i i _
    have := wordN_size (x.num i) (h.nums.num i).1 (h.nums.num i).2
    omega
  · split
    · exact h.nm
    · omega
theorem args_in {x : InsV} {L : List Int} (h : InsOk x L) : ∀ y, y ∈ L → In64 y := fun y hy => by
  have := h.args y hy
  unfold In64
  omega
theorem numB_word (y : Int) (h : 0 ≤ y ∧ y ≤ 99999) : numB (wordN y) = true := by
  unfold numB
  rw [intV_word y (by unfold In64; omega)]
  simp [h.1, h.2]
theorem words_size {f : FormV} (hf : f ∈ formsV) {x : InsV} {L : List Int} (h : InsOk x L) : ∀ y, y ∈ wordsX (partsOf f.line) x L → y.size ≤ 65536 := fun y hy => by
  rcases List.mem_append.1 hy with hy | hy
  · obtain ⟨p, hp, rfl⟩ := List.mem_map.1 hy
    exact putX_size h p ((forms_name f hf).2.2.1 p hp)
  · obtain ⟨n, hn, rfl⟩ := List.mem_map.1 hy
    have h2 := args_in h n hn
    have := wordN_size n h2.1 h2.2
    omega
theorem words_len (P : List ByteArray) (x : InsV) (L : List Int) : (wordsX P x L).length = P.length + L.length := by simp [wordsX]
theorem words_drop (P : List ByteArray) (x : InsV) (L : List Int) : (wordsX P x L).drop P.length = L.map wordN := by
  unfold wordsX
  rw [List.drop_left' (by simp)]
theorem words_intV {x : InsV} {L : List Int} (h : InsOk x L) : (L.map wordN).map intV = L := by
  rw [List.map_map]
  conv => rhs; rw [← List.map_id L]
  apply List.map_congr_left
  intro y hy
  exact intV_word y (args_in h y hy)
theorem words_zip {P : List ByteArray} {x : InsV} {L : List Int} {j : Nat} {p : ByteArray × ByteArray} (h : (P.zip (wordsX P x L))[j]? = some p) : p.1 ∈ P ∧ p.2 = putX x p.1 := by
  rw [List.getElem?_zip_eq_some] at h
  obtain ⟨h1, h2⟩ := h
  refine ⟨List.mem_of_getElem? h1, ?_⟩
  have hj := (List.getElem?_eq_some_iff.1 h1).1
  unfold wordsX at h2
  rw [List.getElem?_append_left (by simpa using hj), List.getElem?_map, h1] at h2
  injection h2 with h2
  exact h2.symm
end Go.Proofs.YtfnfijgknjnccaaGreatDoor
