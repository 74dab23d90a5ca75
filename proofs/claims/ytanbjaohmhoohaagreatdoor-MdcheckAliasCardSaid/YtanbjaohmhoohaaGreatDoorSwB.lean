/-
  MdcheckSmall: what Check says of a plain machine in which one thing is wrong: operations, the convention, room.
-/
import Derived.Test.YtanbjaohmhoohaaGreatDoorSwA
namespace Go.Proofs.YtanbjaohmhoohaaGreatDoor
open Go.RowKit

theorem idx_one {a b : OpD} (h : eqB a.name b.name = false) : idxP (fun x : OpD => eqB x.name b.name) [a] = -1 := by
  unfold idxP; simp [List.findIdx?_cons, h]
theorem idx_two {a b c : OpD} (h1 : eqB a.name c.name = false) (h2 : eqB b.name c.name = false) : idxP (fun x : OpD => eqB x.name c.name) [a, b] = -1 := by
  unfold idxP; simp [List.findIdx?_cons, h1, h2]
theorem ops_new {a b c : OpD} (h1 : eqB a.name b.name = false) (h2 : eqB a.name c.name = false) (h3 : eqB b.name c.name = false) :
    ∀ (i : Nat) (o : OpD), [a, b, c][i]? = some o → idxP (fun x : OpD => eqB x.name o.name) ([a, b, c].take i) = -1 := by
  intro i o hi
  match i, hi with
  | 0, hi => rfl
  | 1, hi => cases hi; exact idx_one h1
  | 2, hi => cases hi; exact idx_two h2 h3
  | i + 3, hi => simp at hi
theorem nm12 : eqB (opAdd 0).name opNot.name = false := by decide +kernel
theorem nm13 : eqB (opAdd 0).name opDiv.name = false := by decide +kernel
theorem nm23 : eqB opNot.name opDiv.name = false := by decide +kernel
theorem nmm1 : eqB nmMove opNot.name = false := by decide +kernel
theorem nmm2 : eqB nmMove opDiv.name = false := by decide +kernel
theorem nmm3 : eqB (opAdd 0).name nmMove = false := by decide +kernel
theorem nmm4 : eqB opNot.name nmMove = false := by decide +kernel

/-- Three operations of the names add, not, div, all but the last told by what they are wrong in. -/
def opW (o : OpD) (nm : ByteArray) : OpD := ⟨nm, o.d, o.uses, o.tie, o.clob⟩
def opU (us : List OperD) : OpD := ⟨⟨#[97, 100, 100]⟩, opG, us, -1, []⟩
def opT (t : Int) : OpD := ⟨⟨#[110, 111, 116]⟩, opG, [opG], t, []⟩
def opC (n : Nat) : OpD := ⟨⟨#[100, 105, 118]⟩, opG, [opG, opG], -1, sNames n⟩
def fixR1 : OperD := ⟨nmG, nmR1⟩
theorem ar_add' : arityN (opAdd 0).name ≠ 0 := by decide +kernel
theorem ar_not' : arityN opNot.name ≠ 0 := by decide +kernel
theorem ar_div' : arityN opDiv.name ≠ 0 := by decide +kernel

section
variable {n : Nat} {l : List ByteArray} {rest : List ClassD}
theorem std_ops (h1 : 1 ≤ n) (hl : l ≠ []) : opsS (sNames n) (plN n) (⟨nmG, l⟩ :: rest) [opAdd 0, opNot, opDiv] = 0 := by
  rw [opsS3, opErr_ok ar_add' rfl (std_fine h1 hl _ (by simp [stdOps])), opErr_ok ar_not' (idx_one nm12) (std_fine h1 hl _ (by simp [stdOps])), opErr_ok ar_div' (idx_two nm13 nm23) (std_fine h1 hl _ (by simp [stdOps]))]; rfl
/-- 5: an operation of no name. -/
theorem sw5a : opsS (sNames n) (plN n) (⟨nmG, l⟩ :: rest) [opW (opAdd 0) nmMove, opNot, opDiv] = 5 := by
  rw [opsS3, opErr_none (o := opW (opAdd 0) nmMove) ar_move]; rfl
theorem sw5b (h1 : 1 ≤ n) (hl : l ≠ []) : opsS (sNames n) (plN n) (⟨nmG, l⟩ :: rest) [opAdd 0, opW opNot nmMove, opDiv] = 5 := by
  rw [opsS3, opErr_ok ar_add' rfl (std_fine h1 hl _ (by simp [stdOps])), opErr_none (o := opW opNot nmMove) ar_move]; rfl
theorem sw5c (h1 : 1 ≤ n) (hl : l ≠ []) : opsS (sNames n) (plN n) (⟨nmG, l⟩ :: rest) [opAdd 0, opNot, opW opDiv nmMove] = 5 := by
  rw [opsS3, opErr_ok ar_add' rfl (std_fine h1 hl _ (by simp [stdOps])), opErr_ok ar_not' (idx_one nm12) (std_fine h1 hl _ (by simp [stdOps])), opErr_none (o := opW opDiv nmMove) ar_move]; rfl
/-- 6: too few uses. -/
theorem few_bad : opFine (sNames n) (plN n) (⟨nmG, l⟩ :: rest) (opU [opG]) = false := by
  unfold opFine
  have : decide ((opU [opG]).uses.length = arityN (opU [opG]).name) = false := decide_eq_false (by decide +kernel)
  rw [this]; rfl
theorem sw6 : opsS (sNames n) (plN n) (⟨nmG, l⟩ :: rest) [opU [opG], opNot, opDiv] = 9 := by
  rw [opsS3, opErr_bad (o := opU [opG]) ar_add' rfl few_bad]; rfl
/-- 7: a tie to a use that there is not. -/
theorem tie_bad : opFine (sNames n) (plN n) (⟨nmG, l⟩ :: rest) (opT 1) = false := by
  unfold opFine
  have : tieFine (opT 1) = false := by decide +kernel
  rw [this]; simp
theorem sw7 (h1 : 1 ≤ n) (hl : l ≠ []) : opsS (sNames n) (plN n) (⟨nmG, l⟩ :: rest) [opAdd 0, opT 1, opDiv] = 9 := by
  rw [opsS3, opErr_ok ar_add' rfl (std_fine h1 hl _ (by simp [stdOps])), opErr_bad (o := opT 1) ar_not' (idx_one nm12) tie_bad]; rfl
end

section
variable {n : Nat}
theorem inN0 (h1 : 1 ≤ n) : InN n [0] := fun x hx => by
  obtain rfl : x = 0 := by simpa using hx
  omega
theorem convNo (args saved : List ByteArray) (res : ByteArray) (sl : Int) (h : regN (sNames n) res = -1 ∨ 1000 < sl ∨ apartB (plN n) (regsL (sNames n) args) = false ∨ apartB (plN n) (regsL (sNames n) saved ++ [regN (sNames n) res]) = false) : convFine (sNames n) (plN n) args res saved sl = false := by
  unfold convFine
  rcases h with h | h | h | h
  · rw [h]; simp
  · rw [decide_eq_false (show ¬ sl ≤ 1000 by omega)]; simp
  · rw [h]; simp
  · rw [h]; simp
/-- 8: no Result. -/
theorem sw8 (hn : n ≤ 64) : convFine (sNames n) (plN n) [nmR] ⟨#[]⟩ [] 100 = false := convNo _ _ _ _ (.inl (regN_miss hn (by decide +kernel)))
/-- 9: an argument's register twice. -/
theorem sw9 (h2 : 2 ≤ n) (hn : n ≤ 64) : convFine (sNames n) (plN n) [nmR, nmR1, nmR] nmR [] 100 = false := convNo _ _ _ _ (.inr (.inr (.inl (by
  have : regsL (sNames n) [nmR, nmR1, nmR] = [0, 1, 0] := by unfold regsL; simp [regN_nmR (show 1 ≤ n by omega) hn, regN_nmR1 h2 hn]
  rw [this]
  show apartFrom (plN n) [] [0, 1, 0] = false
  rw [apartFrom_pl [0, 1, 0] [] (fun x hx => by
    have : x = 0 ∨ x = 1 ∨ x = 0 := by simpa using hx
    omega) (fun x hx => by cases hx)]; rfl))))
/-- 10: the Result's register is saved. -/
theorem sw10 (h1 : 1 ≤ n) (hn : n ≤ 64) : convFine (sNames n) (plN n) [nmR] nmR [nmR] 100 = false := convNo _ _ _ _ (.inr (.inr (.inr (by
  have : regsL (sNames n) [nmR] ++ [regN (sNames n) nmR] = [0, 0] := by unfold regsL; simp [regN_nmR h1 hn]
  rw [this]
  show apartFrom (plN n) [] [0, 0] = false
  rw [apartFrom_pl [0, 0] [] (fun x hx => by
    have : x = 0 := by simpa using hx
    omega) (fun x hx => by cases hx)]; rfl))))
/-- 11: too many slots. -/
theorem sw11 : convFine (sNames n) (plN n) [nmR] nmR [] 1001 = false := convNo _ _ _ _ (.inr (.inl (by decide)))

/-- 12: two uses that must be one register. -/
theorem ch12 (h2 : 2 ≤ n) (hn : n ≤ 64) : choiceS (sNames n) [clG n] fixR1 = [1] := by
  have h := regN_nmR1 h2 hn
  have := choice_fix (sNames n) (sNames n) [] nmR1 (by decide +kernel) (by rw [h, regsL_names hn (Nat.le_refl _), List.contains_iff_mem]; exact nums_mem.2 (by omega))
  rw [h] at this; exact this
theorem fine12 (h2 : 2 ≤ n) (hn : n ≤ 64) : opFine (sNames n) (plN n) [clG n] (opU [fixR1, fixR1]) = true := by
  refine opFine_of (by omega) ar_add.symm rfl rfl rfl fun u hu => ?_
  have : u = opG ∨ u = fixR1 := by
    rcases hu with h | h
    · exact .inl h
    · exact .inr (by simpa [opU] using h)
  rcases this with rfl | rfl
  · rw [choice_g hn]
    exact ⟨nums_ne (by omega), fun x hx => by have := nums_mem.1 hx; omega⟩
  · rw [ch12 h2 hn]
    exact ⟨by simp, fun x hx => by obtain rfl : x = 1 := by simpa using hx
                                   omega⟩
theorem ops12 (h2 : 2 ≤ n) (hn : n ≤ 64) : opsS (sNames n) (plN n) [clG n] [opU [fixR1, fixR1], opNot, opDiv] = 0 := by
  have hl := sNames_ne (n := n) (by omega)
  have h1 : 1 ≤ n := by omega
  have e1 : opErr (sNames n) (plN n) [clG n] [] (opU [fixR1, fixR1]) = 0 := opErr_ok ar_add' rfl (fine12 h2 hn)
  have e2 : opErr (sNames n) (plN n) [clG n] [opU [fixR1, fixR1]] opNot = 0 := opErr_ok ar_not' (idx_one nm12) (std_fine (rest := []) h1 hl _ (by simp [stdOps]))
  have e3 : opErr (sNames n) (plN n) [clG n] [opU [fixR1, fixR1], opNot] opDiv = 0 := opErr_ok ar_div' (idx_two nm13 nm23) (std_fine (rest := []) h1 hl _ (by simp [stdOps]))
  rw [opsS3, e1, e2, e3]; rfl
theorem room12 (h2 : 2 ≤ n) (hn : n ≤ 64) : roomFine (plN n) (clsOf (sNames n) [clG n]) ([opU [fixR1, fixR1], opNot, opDiv].map (opR (sNames n) [clG n])) = false := by
  have e : opR (sNames n) [clG n] (opU [fixR1, fixR1]) = ⟨nums n, [[1], [1]], -1, nums 0⟩ := by
    show OpR.mk (choiceS _ _ opG) [choiceS _ _ fixR1, choiceS _ _ fixR1] (-1) (regsL (sNames n) []) = _
    rw [choice_g hn, ch12 h2 hn]; rfl
  have i1 : InN n [1] := fun x hx => by
    obtain rfl : x = 1 := by simpa using hx
    omega
  have f : fitsB (plN n) (opR (sNames n) [clG n] (opU [fixR1, fixR1])) = false := by
    rw [e, fits_g (Nat.zero_le _), together_two i1 i1]; simp
  unfold roomFine
  simp only [List.map_cons, List.all_cons, f, Bool.false_and]

/-- 13: the class is without the first register. -/
theorem tail_names : ∀ n : Nat, regsL (sNames n) (sNames n).tail = (regsL (sNames n) (sNames n)).tail := fun n => by unfold regsL; rw [List.map_tail]
theorem cls13 (h2 : 2 ≤ n) (hn : n ≤ 64) : classesS (fun _ => true) (sNames n) (plN n) [⟨nmG, (sNames n).tail⟩] = 0 := by
  rw [classesS_one hn]
  refine if_pos ?_
  have e := tail_names n
  rw [regsL_names hn (Nat.le_refl _)] at e
  have hsub : (nums n).tail.Sublist (nums n) := List.tail_sublist _
  have hmem : ∀ x, x ∈ (nums n).tail → 0 ≤ x ∧ x < n := fun x hx => nums_mem.1 (hsub.subset hx)
  have hlen : (sNames n).tail.length = n - 1 := by rw [List.length_tail, sNames_length]
  have h3 : ((nums n).tail).contains (-1) = false := by
    have : ¬ (-1 : Int) ∈ (nums n).tail := fun h => by have := hmem _ h; omega
    simpa using this
  have h4 : twiceFrom [] (nums n).tail = false := twiceFrom_false _ _ (by simpa using hsub.nodup (nums_nodup n))
  have h5 : (sNames n).tail ≠ [] := fun e => by rw [e] at hlen; simp at hlen; omega
  unfold classFine regsOk
  dsimp only
  rw [e, h3, h4, oneWidth8 (by omega) (fun x hx => by have := hmem x hx; omega), decide_eq_true (show (sNames n).tail.length ≤ 64 by omega), decide_eq_false h5]; rfl
theorem tail_ne (h2 : 2 ≤ n) : (sNames n).tail ≠ [] := fun e => by
  have hlen : (sNames n).tail.length = n - 1 := by rw [List.length_tail, sNames_length]
  rw [e] at hlen; simp at hlen; omega
theorem homes13 (h1 : 1 ≤ n) (hn : n ≤ 64) : homesFine (clsOf (sNames n) [⟨nmG, (sNames n).tail⟩]) (regsL (sNames n) [nmR] ++ [regN (sNames n) nmR]) = false := by
  have e := tail_names n
  rw [regsL_names hn (Nat.le_refl _)] at e
  have e2 : clsOf (sNames n) [⟨nmG, (sNames n).tail⟩] = [(nums n).tail] := by show [regsL _ _] = _; rw [e]
  obtain ⟨m, rfl⟩ : ∃ m, n = m + 1 := ⟨n - 1, by omega⟩
  have hnum : nums (m + 1) = 0 :: (nums (m + 1)).tail := by
    unfold nums
    rw [List.range_succ_eq_map]; rfl
  have hnd := nums_nodup (m + 1)
  rw [hnum] at hnd
  have h0 : ¬ (0 : Int) ∈ (nums (m + 1)).tail := (List.nodup_cons.1 hnd).1
  rw [e2]
  unfold homesFine regsL
  simp only [List.map_cons, List.map_nil, regN_nmR h1 hn]
  simp [h0]

/-- 14: a class of one register has no room for two. -/
theorem homes14 (h2 : 2 ≤ n) (hn : n ≤ 64) : homesFine (clsOf (sNames n) [clG n, ⟨nmH, [nmR1]⟩]) (regsL (sNames n) [nmR] ++ [regN (sNames n) nmR]) = true := by
  have e2 : clsOf (sNames n) [clG n, ⟨nmH, [nmR1]⟩] = [nums n, [1]] := by
    show [regsL _ (sNames n), regsL _ [nmR1]] = _
    rw [regsL_names hn (Nat.le_refl _)]; unfold regsL; simp [regN_nmR1 h2 hn]
  rw [e2]
  have : (0 : Int) ∈ nums n := nums_mem.2 (by omega)
  unfold homesFine regsL
  simp only [List.map_cons, List.map_nil, regN_nmR (show 1 ≤ n by omega) hn]
  simp [this]
theorem room14 (h2 : 2 ≤ n) (hn : n ≤ 64) (ops : List OpR) : roomFine (plN n) (clsOf (sNames n) [clG n, ⟨nmH, [nmR1]⟩]) ops = false := by
  have e2 : clsOf (sNames n) [clG n, ⟨nmH, [nmR1]⟩] = [nums n, [1]] := by
    show [regsL _ (sNames n), regsL _ [nmR1]] = _
    rw [regsL_names hn (Nat.le_refl _)]; unfold regsL; simp [regN_nmR1 h2 hn]
  have i1 : InN n [1] := fun x hx => by
    obtain rfl : x = 1 := by simpa using hx
    omega
  have e3 : pairsFrom (plN n) [[1]] = false := by
    show ([[1]].all (fun b => togetherB (plN n) [[1], b]) && true) = false
    simp [together_two i1 i1]
  unfold roomFine
  rw [e2]
  have : pairsFrom (plN n) [nums n, [1]] = false := by
    show (([nums n, [1]].all fun b => togetherB (plN n) [nums n, b]) && pairsFrom (plN n) [[1]]) = false
    rw [e3, Bool.and_false]
  rw [this, Bool.and_false]

/-- 15: all is destroyed. -/
theorem fine15 (h1 : 1 ≤ n) (hn : n ≤ 64) : opFine (sNames n) (plN n) [clG n] (opC n) = true :=
  fine_std h1 (sNames_ne h1) ar_div.symm rfl (regsOk_names hn (Nat.le_refl _) hn) (by show twiceFrom [] (regsL (sNames n) (sNames n)) = false; rw [regsL_names hn (Nat.le_refl _)]; exact twice_nums n) rfl (fun u hu => by simpa [opC] using hu)
theorem ops15 (h1 : 1 ≤ n) (hn : n ≤ 64) : opsS (sNames n) (plN n) [clG n] [opAdd 0, opNot, opC n] = 0 := by
  have hl := sNames_ne h1
  have e1 : opErr (sNames n) (plN n) [clG n] [] (opAdd 0) = 0 := opErr_ok ar_add' rfl (std_fine (rest := []) h1 hl _ (by simp [stdOps]))
  have e2 : opErr (sNames n) (plN n) [clG n] [opAdd 0] opNot = 0 := opErr_ok ar_not' (idx_one nm12) (std_fine (rest := []) h1 hl _ (by simp [stdOps]))
  have e3 : opErr (sNames n) (plN n) [clG n] [opAdd 0, opNot] (opC n) = 0 := opErr_ok ar_div' (idx_two nm13 nm23) (fine15 h1 hn)
  rw [opsS3, e1, e2, e3]; rfl
theorem room15 (hn : n ≤ 64) (cls : List (List Int)) : roomFine (plN n) cls ([opAdd 0, opNot, opC n].map (opR (sNames n) [clG n])) = false := by
  have e : opR (sNames n) [clG n] (opC n) = ⟨nums n, [nums n, nums n], -1, nums n⟩ := by
    show OpR.mk (choiceS _ _ opG) [choiceS _ _ opG, choiceS _ _ opG] (-1) (regsL (sNames n) (sNames n)) = _
    rw [choice_g hn, regsL_names hn (Nat.le_refl _)]
  have f : fitsB (plN n) (opR (sNames n) [clG n] (opC n)) = false := by
    rw [e, fits_g (Nat.le_refl _), decide_eq_false (Nat.lt_irrefl n)]; rfl
  unfold roomFine
  simp only [List.map_cons, List.all_cons, f, Bool.false_and, Bool.and_false]
end
end Go.Proofs.YtanbjaohmhoohaaGreatDoor
