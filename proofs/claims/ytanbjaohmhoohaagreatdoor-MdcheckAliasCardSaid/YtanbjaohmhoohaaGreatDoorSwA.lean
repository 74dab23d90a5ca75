/-
  MdcheckSmall: what Check says of a plain machine in which one thing is wrong, as plain facts of lists.
-/
import Derived.Test.YtanbjaohmhoohaaGreatDoorFiA
namespace Go.Proofs.YtanbjaohmhoohaaGreatDoor
open Go.RowKit

theorem plc8 {n : Nat} (h1 : 1 ≤ n) {x : Int} (h : -1 ≤ x ∧ x < n) : (plc (plN n) x).2.2 = 8 := by
  by_cases h0 : 0 ≤ x
  · rw [plc_at ⟨h0, h.2⟩]
  · obtain rfl : x = -1 := by omega
    have : plc (plN n) (-1) = plc (plN n) 0 := rfl
    rw [this, plc_at ⟨Int.le_refl _, by omega⟩]
theorem oneWidth8 {n : Nat} (h1 : 1 ≤ n) {l : List Int} (h : ∀ x, x ∈ l → -1 ≤ x ∧ x < n) : oneWidthB (plN n) l = true := by
  unfold oneWidthB
  rw [Bool.not_eq_true', List.any_eq_false]
  intro x hx
  have h0 : -1 ≤ l.headD 0 ∧ l.headD 0 < n := by
    cases l with
    | nil => cases hx
    | cons a r => exact h a (by simp)
  rw [plc8 h1 (h x hx), plc8 h1 h0]; simp
theorem regsL_range (n : Nat) (l : List ByteArray) : ∀ x, x ∈ regsL (sNames n) l → -1 ≤ x ∧ x < n := fun x hx => by
  obtain ⟨s, _, rfl⟩ := List.mem_map.1 hx
  have := regN_range (sNames n) s
  rwa [sNames_length] at this
theorem opFine_of {n : Nat} (h1 : 1 ≤ n) {cs : List ClassD} {o : OpD} (har : o.uses.length = arityN o.name) (ht : tieFine o = true) (hc : regsOk (sNames n) o.clob 64 = true) (hc2 : twiceFrom [] (regsL (sNames n) o.clob) = false)
    (hL : ∀ u, u = o.d ∨ u ∈ o.uses → choiceS (sNames n) cs u ≠ [] ∧ ∀ x, x ∈ choiceS (sNames n) cs u → -1 ≤ x ∧ x < n) : opFine (sNames n) (plN n) cs o = true := by
  unfold opFine
  have e5 : (o.uses.all fun u => !decide (choiceS (sNames n) cs u = [])) = true := List.all_eq_true.2 fun u hu => by simp [(hL u (.inr hu)).1]
  have e6 : oneWidthB (plN n) (choiceS (sNames n) cs o.d ++ (o.uses.map (choiceS (sNames n) cs)).flatten) = true := oneWidth8 h1 fun x hx => by
    rcases List.mem_append.1 hx with h | h
    · exact (hL o.d (.inl rfl)).2 x h
    · obtain ⟨l, hl, hxl⟩ := List.mem_flatten.1 h
      obtain ⟨u, hu, rfl⟩ := List.mem_map.1 hl
      exact (hL u (.inr hu)).2 x hxl
  rw [decide_eq_true har, ht, hc, hc2, e5, e6, decide_eq_false (hL o.d (.inl rfl)).1]; rfl
theorem findG (l : List ByteArray) (rest : List ClassD) : (ClassD.mk nmG l :: rest).findIdx? (fun x => eqB x.name nmG) = some 0 := by
  have : eqB nmG nmG = true := decide_eq_true rfl
  simp [List.findIdx?_cons, this]
theorem choice_first (ns l : List ByteArray) (rest : List ClassD) : choiceS ns (⟨nmG, l⟩ :: rest) opG = regsL ns l := by
  unfold choiceS
  rw [show opG.cls = nmG from rfl, findG]
  dsimp only
  rw [if_pos (by decide +kernel : (opG.fix.toList == []) = true)]; rfl
theorem choice_fix (ns l : List ByteArray) (rest : List ClassD) (r : ByteArray) (hr : (r.toList == []) = false) (hin : (regsL ns l).contains (regN ns r) = true) : choiceS ns (⟨nmG, l⟩ :: rest) ⟨nmG, r⟩ = [regN ns r] := by
  unfold choiceS
  rw [findG]
  dsimp only
  have e : (clsOf ns (⟨nmG, l⟩ :: rest)).getD 0 [] = regsL ns l := rfl
  rw [hr, e, if_neg (by simp), if_pos hin]
def stdOps : List OpD := [opAdd 0, opNot, opDiv]
theorem clob0 (n : Nat) : regsOk (sNames n) [] 64 = true ∧ twiceFrom [] (regsL (sNames n) []) = false := ⟨rfl, rfl⟩
theorem choice_std {n : Nat} {l : List ByteArray} {rest : List ClassD} (hl : l ≠ []) : choiceS (sNames n) (⟨nmG, l⟩ :: rest) opG ≠ [] ∧ ∀ x, x ∈ choiceS (sNames n) (⟨nmG, l⟩ :: rest) opG → -1 ≤ x ∧ x < n := by
  rw [choice_first]
  exact ⟨fun e => hl (List.map_eq_nil_iff.1 e), regsL_range n l⟩
/-- An operation all of whose operands are asked for by the class alone. -/
theorem fine_std {n : Nat} (h1 : 1 ≤ n) {l : List ByteArray} {rest : List ClassD} (hl : l ≠ []) {o : OpD} (har : o.uses.length = arityN o.name) (ht : tieFine o = true) (hc : regsOk (sNames n) o.clob 64 = true) (hc2 : twiceFrom [] (regsL (sNames n) o.clob) = false) (hd : o.d = opG) (hu : ∀ u, u ∈ o.uses → u = opG) :
    opFine (sNames n) (plN n) (⟨nmG, l⟩ :: rest) o = true :=
  opFine_of h1 har ht hc hc2 fun u h => by
    have : u = opG := by
      rcases h with h | h
      · rw [h, hd]
      · exact hu u h
    rw [this]; exact choice_std hl
theorem std_fine {n : Nat} (h1 : 1 ≤ n) {l : List ByteArray} {rest : List ClassD} (hl : l ≠ []) (o : OpD) (ho : o ∈ stdOps) : opFine (sNames n) (plN n) (⟨nmG, l⟩ :: rest) o = true := by
  have : o = opAdd 0 ∨ o = opNot ∨ o = opDiv := by simpa [stdOps] using ho
  rcases this with rfl | rfl | rfl
  · exact fine_std h1 hl ar_add.symm rfl rfl rfl rfl (fun u hu => by simpa [opAdd] using hu)
  · exact fine_std h1 hl ar_not.symm rfl rfl rfl rfl (fun u hu => by simpa [opNot] using hu)
  · exact fine_std h1 hl ar_div.symm rfl rfl rfl rfl (fun u hu => by simpa [opDiv] using hu)

theorem opsS3 (ns : List ByteArray) (ps : List Plc) (cs : List ClassD) (a b c : OpD) : opsS ns ps cs [a, b, c] = if opErr ns ps cs [] a = 0 then (if opErr ns ps cs [a] b = 0 then (if opErr ns ps cs [a, b] c = 0 then 0 else opErr ns ps cs [a, b] c) else opErr ns ps cs [a] b) else opErr ns ps cs [] a := by
  unfold opsS
  rw [if_neg (by simp)]
  rfl
theorem opErr_ok {ns : List ByteArray} {ps : List Plc} {cs : List ClassD} {pre : List OpD} {o : OpD} (ha : arityN o.name ≠ 0) (hi : idxP (fun x : OpD => eqB x.name o.name) pre = -1) (hf : opFine ns ps cs o = true) : opErr ns ps cs pre o = 0 := by
  unfold opErr; rw [hi, hf, decide_eq_false ha]; rfl
theorem opErr_bad {ns : List ByteArray} {ps : List Plc} {cs : List ClassD} {pre : List OpD} {o : OpD} (ha : arityN o.name ≠ 0) (hi : idxP (fun x : OpD => eqB x.name o.name) pre = -1) (hf : opFine ns ps cs o = false) : opErr ns ps cs pre o = 9 := by
  unfold opErr; rw [hi, hf, decide_eq_false ha]; rfl
theorem opErr_none {ns : List ByteArray} {ps : List Plc} {cs : List ClassD} {pre : List OpD} {o : OpD} (ha : arityN o.name = 0) : opErr ns ps cs pre o = 5 := by
  unfold opErr; rw [decide_eq_true ha, Bool.true_or]; rfl

section
variable {d : MachD} {ns : List ByteArray} {ps : List Plc}
theorem checkS_cls (hne : ns ≠ []) (h : classesS (fun _ => true) ns ps d.classes ≠ 0) : checkS (fun _ => true) d 0 ns ps = classesS (fun _ => true) ns ps d.classes := by
  unfold checkS; rw [if_neg (by simp), if_neg (by simp), if_neg hne, if_pos h]
theorem checkS_ops (hne : ns ≠ []) (h : classesS (fun _ => true) ns ps d.classes = 0) (h2 : opsS ns ps d.classes d.ops ≠ 0) : checkS (fun _ => true) d 0 ns ps = opsS ns ps d.classes d.ops := by
  unfold checkS; rw [if_neg (by simp), if_neg (by simp), if_neg hne, if_neg (by simp [h]), if_pos h2]
theorem checkS_conv (hne : ns ≠ []) (h : classesS (fun _ => true) ns ps d.classes = 0) (h2 : opsS ns ps d.classes d.ops = 0) (h3 : convFine ns ps d.args d.result d.saved d.slots = false) : checkS (fun _ => true) d 0 ns ps = 10 := by
  unfold checkS; rw [if_neg (by simp), if_neg (by simp), if_neg hne, if_neg (by simp [h]), if_neg (by simp [h2]), if_pos h3]
theorem checkS_homes (hne : ns ≠ []) (h : classesS (fun _ => true) ns ps d.classes = 0) (h2 : opsS ns ps d.classes d.ops = 0) (h3 : convFine ns ps d.args d.result d.saved d.slots = true) (h4 : homesFine (clsOf ns d.classes) (regsL ns d.args ++ [regN ns d.result]) = false) : checkS (fun _ => true) d 0 ns ps = 10 := by
  unfold checkS; rw [if_neg (by simp), if_neg (by simp), if_neg hne, if_neg (by simp [h]), if_neg (by simp [h2]), if_neg (by simp [h3]), if_pos h4]
theorem checkS_room (hne : ns ≠ []) (h : classesS (fun _ => true) ns ps d.classes = 0) (h2 : opsS ns ps d.classes d.ops = 0) (h3 : convFine ns ps d.args d.result d.saved d.slots = true) (h4 : homesFine (clsOf ns d.classes) (regsL ns d.args ++ [regN ns d.result]) = true) (h5 : roomFine ps (clsOf ns d.classes) (d.ops.map (opR ns d.classes)) = false) : checkS (fun _ => true) d 0 ns ps = 11 := by
  unfold checkS; rw [if_neg (by simp), if_neg (by simp), if_neg hne, if_neg (by simp [h]), if_neg (by simp [h2]), if_neg (by simp [h3]), if_neg (by simp [h4]), if_pos h5]
end

section
variable {n : Nat}
theorem sNames_ne (h1 : 1 ≤ n) : sNames n ≠ [] := fun e => by have := sNames_length n; rw [e] at this; simp at this; omega
theorem classErr_g {pre : List ClassD} {l : List ByteArray} (hn : n ≤ 64) (hp : pre = []) : classErr (fun _ => true) (sNames n) (plN n) pre ⟨nmG, l⟩ = if classFine (sNames n) (plN n) ⟨nmG, l⟩ = true then 0 else 8 := by
  subst hp
  unfold classErr
  rw [show idxP (fun x : ClassD => eqB x.name (ClassD.mk nmG l).name) [] = -1 from rfl, show regN (sNames n) (ClassD.mk nmG l).name = -1 from regN_nmG hn]
  rfl
theorem regN_nmH (hn : n ≤ 64) : regN (sNames n) nmH = -1 := regN_miss hn (by decide +kernel)
theorem idx_hg (l : List ByteArray) : idxP (fun y : ClassD => eqB y.name nmH) [⟨nmG, l⟩] = -1 := by
  have : eqB nmG nmH = false := by decide +kernel
  unfold idxP; simp [List.findIdx?_cons, this]
theorem classErr_h {l l2 : List ByteArray} (hn : n ≤ 64) : classErr (fun _ => true) (sNames n) (plN n) [⟨nmG, l⟩] ⟨nmH, l2⟩ = if classFine (sNames n) (plN n) ⟨nmH, l2⟩ = true then 0 else 8 := by
  unfold classErr
  rw [show idxP (fun x : ClassD => eqB x.name (ClassD.mk nmH l2).name) [⟨nmG, l⟩] = -1 from idx_hg l, show regN (sNames n) (ClassD.mk nmH l2).name = -1 from regN_nmH hn]
  rfl
theorem classesS_one {l : List ByteArray} (hn : n ≤ 64) : classesS (fun _ => true) (sNames n) (plN n) [⟨nmG, l⟩] = if classFine (sNames n) (plN n) ⟨nmG, l⟩ = true then 0 else 8 := by
  unfold classesS
  rw [if_neg (by simp)]
  show (if classErr (fun _ => true) (sNames n) (plN n) [] ⟨nmG, l⟩ = 0 then 0 else classErr (fun _ => true) (sNames n) (plN n) [] ⟨nmG, l⟩) = _
  rw [classErr_g hn rfl]
  split <;> rfl
theorem classesS_two {l2 : List ByteArray} (h1 : 1 ≤ n) (hn : n ≤ 64) : classesS (fun _ => true) (sNames n) (plN n) [clG n, ⟨nmH, l2⟩] = if classFine (sNames n) (plN n) ⟨nmH, l2⟩ = true then 0 else 8 := by
  unfold classesS
  rw [if_neg (by simp)]
  show (if classErr (fun _ => true) (sNames n) (plN n) [] (clG n) = 0 then (if classErr (fun _ => true) (sNames n) (plN n) [clG n] ⟨nmH, l2⟩ = 0 then 0 else classErr (fun _ => true) (sNames n) (plN n) [clG n] ⟨nmH, l2⟩) else classErr (fun _ => true) (sNames n) (plN n) [] (clG n)) = _
  have e1 : classErr (fun _ => true) (sNames n) (plN n) [] (clG n) = 0 := by
    rw [show clG n = ⟨nmG, sNames n⟩ from rfl, classErr_g hn rfl]; exact if_pos (classFine_g h1 hn)
  rw [e1, show clG n = ⟨nmG, sNames n⟩ from rfl, classErr_h hn]
  simp only [if_true]
  split <;> rfl

def nmNo : ByteArray := ⟨#[110, 111, 116, 104, 105, 110, 103]⟩
def nmMove : ByteArray := ⟨#[109, 111, 118, 101]⟩
theorem ar_move : arityN nmMove = 0 := by decide +kernel
theorem regN_no (hn : n ≤ 64) : regN (sNames n) nmNo = -1 := regN_miss hn (by decide +kernel)
theorem nmR1_eq : nmR1 = sname 1 := by decide +kernel
theorem regN_nmR1 (h1 : 2 ≤ n) (hn : n ≤ 64) : regN (sNames n) nmR1 = 1 := by rw [nmR1_eq]; exact regN_sname hn (by omega)

/-- 3: a class has a register that there is not. -/
theorem sw3 (hn : n ≤ 64) {k : Nat} (hk : k < n) : classesS (fun _ => true) (sNames n) (plN n) [⟨nmG, (sNames n).set k nmNo⟩] = 8 := by
  rw [classesS_one hn]
  refine if_neg ?_
  have : (regsL (sNames n) ((sNames n).set k nmNo)).contains (-1) = true := by
    rw [List.contains_iff_mem]
    refine List.mem_map.2 ⟨nmNo, ?_, regN_no hn⟩
    exact List.mem_set (by rw [sNames_length]; exact hk) _
  unfold classFine regsOk
  rw [this]
  simp
/-- 4: a class has a register twice. -/
theorem sw4 (h1 : 1 ≤ n) (hn : n ≤ 64) : classesS (fun _ => true) (sNames n) (plN n) [clG n, ⟨nmH, [nmR, nmR]⟩] = 8 := by
  rw [classesS_two h1 hn]
  refine if_neg ?_
  have : regsL (sNames n) [nmR, nmR] = [0, 0] := by unfold regsL; simp [regN_nmR h1 hn]
  unfold classFine
  rw [this]
  simp [twiceFrom]
/-- A second class of one register. -/
theorem cls_h (h2 : 2 ≤ n) (hn : n ≤ 64) : classesS (fun _ => true) (sNames n) (plN n) [clG n, ⟨nmH, [nmR1]⟩] = 0 := by
  rw [classesS_two (by omega) hn]
  refine if_pos ?_
  have : regsL (sNames n) [nmR1] = [1] := by unfold regsL; simp [regN_nmR1 h2 hn]
  unfold classFine regsOk
  rw [this, oneWidth8 (by omega) (fun x hx => by obtain rfl : x = 1 := by simpa using hx
                                                 omega)]
  simp [twiceFrom]
end
end Go.Proofs.YtanbjaohmhoohaaGreatDoor
