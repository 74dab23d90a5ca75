/-
  vir: the instructions of VirWords, of every kind (text only).
-/
import Derived.Test.YtfnfijgknjnccaaGreatDoorVyA
namespace Go.Proofs.YtfnfijgknjnccaaGreatDoor
open Go.RowKit Go.Sort
set_option maxRecDepth 100000
set_option maxHeartbeats 1000000
theorem getX_A (x : InsV) (s : ByteArray) : getX x ⟨#[65]⟩ s = { x with a := intV s } := by
  unfold getX
  rw [if_neg (by decide +kernel), if_neg (by decide +kernel), if_neg (by decide +kernel), if_neg (by decide +kernel), if_pos (by decide +kernel)]
theorem getX_B (x : InsV) (s : ByteArray) : getX x ⟨#[66]⟩ s = { x with b := intV s } := by
  unfold getX
  rw [if_neg (by decide +kernel), if_neg (by decide +kernel), if_neg (by decide +kernel), if_neg (by decide +kernel), if_neg (by decide +kernel), if_pos (by decide +kernel)]
theorem getX_T (x : InsV) (s : ByteArray) : getX x ⟨#[84]⟩ s = { x with t := intV s } := by
  unfold getX
  rw [if_neg (by decide +kernel), if_neg (by decide +kernel), if_neg (by decide +kernel), if_neg (by decide +kernel), if_neg (by decide +kernel), if_neg (by decide +kernel), if_pos (by decide +kernel)]
theorem getX_F (x : InsV) (s : ByteArray) : getX x ⟨#[70]⟩ s = { x with f := intV s } := by
  unfold getX
  rw [if_neg (by decide +kernel), if_neg (by decide +kernel), if_neg (by decide +kernel), if_neg (by decide +kernel), if_neg (by decide +kernel), if_neg (by decide +kernel), if_neg (by decide +kernel), if_pos (by decide +kernel)]
theorem getX_NAME (x : InsV) (s : ByteArray) : getX x ⟨#[78, 65, 77, 69]⟩ s = { x with nm := s } := by
  unfold getX
  rw [if_neg (by decide +kernel), if_pos (by decide +kernel)]
theorem getX_OP (x : InsV) (s : ByteArray) : getX x ⟨#[79, 80]⟩ s = { x with nm := if opBad s then ⟨#[]⟩ else s } := by
  unfold getX
  rw [if_neg (by decide +kernel), if_neg (by decide +kernel), if_pos (by decide +kernel)]
theorem getX_l0 (x : InsV) (s : ByteArray) : getX x ⟨#[61]⟩ s = x := getX_self (by decide +kernel)
theorem putX_l0 (x : InsV) : putX x ⟨#[61]⟩ = ⟨#[61]⟩ := putX_self (by decide +kernel) (by decide +kernel)
theorem getX_l1 (x : InsV) (s : ByteArray) : getX x ⟨#[99, 111, 110, 115, 116]⟩ s = x := getX_self (by decide +kernel)
theorem putX_l1 (x : InsV) : putX x ⟨#[99, 111, 110, 115, 116]⟩ = ⟨#[99, 111, 110, 115, 116]⟩ := putX_self (by decide +kernel) (by decide +kernel)
theorem getX_l2 (x : InsV) (s : ByteArray) : getX x ⟨#[99, 111, 112, 121]⟩ s = x := getX_self (by decide +kernel)
theorem putX_l2 (x : InsV) : putX x ⟨#[99, 111, 112, 121]⟩ = ⟨#[99, 111, 112, 121]⟩ := putX_self (by decide +kernel) (by decide +kernel)
theorem getX_l3 (x : InsV) (s : ByteArray) : getX x ⟨#[108, 111, 97, 100]⟩ s = x := getX_self (by decide +kernel)
theorem putX_l3 (x : InsV) : putX x ⟨#[108, 111, 97, 100]⟩ = ⟨#[108, 111, 97, 100]⟩ := putX_self (by decide +kernel) (by decide +kernel)
theorem getX_l4 (x : InsV) (s : ByteArray) : getX x ⟨#[115, 116, 111, 114, 101]⟩ s = x := getX_self (by decide +kernel)
theorem putX_l4 (x : InsV) : putX x ⟨#[115, 116, 111, 114, 101]⟩ = ⟨#[115, 116, 111, 114, 101]⟩ := putX_self (by decide +kernel) (by decide +kernel)
theorem getX_l5 (x : InsV) (s : ByteArray) : getX x ⟨#[99, 97, 108, 108]⟩ s = x := getX_self (by decide +kernel)
theorem putX_l5 (x : InsV) : putX x ⟨#[99, 97, 108, 108]⟩ = ⟨#[99, 97, 108, 108]⟩ := putX_self (by decide +kernel) (by decide +kernel)
theorem getX_l6 (x : InsV) (s : ByteArray) : getX x ⟨#[98, 114]⟩ s = x := getX_self (by decide +kernel)
theorem putX_l6 (x : InsV) : putX x ⟨#[98, 114]⟩ = ⟨#[98, 114]⟩ := putX_self (by decide +kernel) (by decide +kernel)
theorem getX_l7 (x : InsV) (s : ByteArray) : getX x ⟨#[106, 117, 109, 112]⟩ s = x := getX_self (by decide +kernel)
theorem putX_l7 (x : InsV) : putX x ⟨#[106, 117, 109, 112]⟩ = ⟨#[106, 117, 109, 112]⟩ := putX_self (by decide +kernel) (by decide +kernel)
theorem getX_l8 (x : InsV) (s : ByteArray) : getX x ⟨#[114, 101, 116]⟩ s = x := getX_self (by decide +kernel)
theorem putX_l8 (x : InsV) : putX x ⟨#[114, 101, 116]⟩ = ⟨#[114, 101, 116]⟩ := putX_self (by decide +kernel) (by decide +kernel)
theorem putX_D (x : InsV) : putX x ⟨#[68]⟩ = wordN x.d := putX_at (i := 1) (by decide +kernel)
theorem putX_A (x : InsV) : putX x ⟨#[65]⟩ = wordN x.a := putX_at (i := 2) (by decide +kernel)
theorem putX_B (x : InsV) : putX x ⟨#[66]⟩ = wordN x.b := putX_at (i := 3) (by decide +kernel)
theorem putX_T (x : InsV) : putX x ⟨#[84]⟩ = wordN x.t := putX_at (i := 7) (by decide +kernel)
theorem putX_F (x : InsV) : putX x ⟨#[70]⟩ = wordN x.f := putX_at (i := 8) (by decide +kernel)
theorem putX_NAME (x : InsV) : putX x ⟨#[78, 65, 77, 69]⟩ = x.nm := putX_nm (.inl (by decide +kernel))
theorem putX_OP (x : InsV) : putX x ⟨#[79, 80]⟩ = x.nm := putX_nm (.inr (by decide +kernel))
theorem good_no {y : InsX} {q : FormV} (h : q.k ≠ y.1.k) : goodF y.1 y.2 q = false := by
  unfold goodF
  rw [decide_eq_false h]
  rfl
/-- What the law needs of an instruction and its text. -/
structure ShapeOk (y : InsX) (t : TxV) : Prop where
  ok : TxOk t
  nm : t.nm = ⟨#[102]⟩
  vr : t.vr = []
  ps : t.ps = []
  rs : t.rs = ⟨#[103]⟩
  rd : strip y = yS t.ws t.f
  wd : wordsY y = t.ws
  ib : insB y = true
  io : InsOk y.1 y.2
theorem shape_c (d n : Int) (hd : 0 ≤ d ∧ d ≤ 99999) (hn : In64 n) : ShapeOk (yC d n) (tC d n) := ⟨tC_ok d n hd hn, rfl, rfl, rfl, rfl, yS_c d n hd hn, words_c d n hd hn, insB_c d n hd hn, insOk_c d n hd hn⟩
theorem shape_of {y : InsX} {S : List SW} {j : Nat} {f : FormV} (hf : formsV[j]? = some f) (hk : f.k = y.1.k) (hw : wordsX (partsOf f.line) y.1 y.2 = S.map SW.val) (hs : strip y = yS (S.map SW.val) f) (hS : Fine S) (hc : chkW (S.map SW.val0) j f = true) (hb : ∀ b, Sum.inl b ∈ S → b.size ≤ 20 ∧ NoB 32 b ∧ NoB 10 b) (hl : S.length ≤ 10) (h0 : S ≠ []) (hno : ∀ q, q ∈ formsV.take j → goodF y.1 y.2 q = false) (hi : InsOk y.1 y.2) :
    ShapeOk y ⟨⟨#[102]⟩, [], [], ⟨#[103]⟩, S.map SW.val, j, f⟩ := by
  have ht := tx_ok S hS j f hf hc hb hl h0
  have hg := good_of hk hw ht.ws.ok hs
  exact ⟨ht, rfl, rfl, rfl, rfl, hs, (wordsY_at hf hg hno).trans hw, any_yes (k := j) hf hg, hi⟩
theorem shape_1 {d a b : Int} (hd : 0 ≤ d ∧ d ≤ 99999) (ha : 0 ≤ a ∧ a ≤ 99999) (hb : 0 ≤ b ∧ b ≤ 99999) (sa : Option Addr) (sn sc : Nat) : ShapeOk ((⟨2, d, a, 0, 0, ⟨#[]⟩, sa, sn, sc, 0, 0⟩, []) : InsX) ⟨⟨#[102]⟩, [], [], ⟨#[103]⟩, ([.inr d, .inl ⟨#[61]⟩, .inl ⟨#[99, 111, 112, 121]⟩, .inr a] : List SW).map SW.val, 1, ⟨2, ⟨#[68, 32, 61, 32, 99, 111, 112, 121, 32, 65]⟩, 0, 0⟩⟩ := by
  have hdi : In64 d := by unfold In64; omega
  have hai : In64 a := by unfold In64; omega
  have hbi : In64 b := by unfold In64; omega
  have h0 : In64 0 := by unfold In64; omega
  have h1 : In64 (-1) := by unfold In64; omega
  have ed := intV_word d hdi
  have ea := intV_word a hai
  have eb := intV_word b hbi
  have hp : partsOf ⟨#[68, 32, 61, 32, 99, 111, 112, 121, 32, 65]⟩ = [⟨#[68]⟩, ⟨#[61]⟩, ⟨#[99, 111, 112, 121]⟩, ⟨#[65]⟩] := by decide +kernel
  refine shape_of rfl rfl ?_ ?_ ?_ (by show chkW [⟨#[48]⟩, ⟨#[61]⟩, ⟨#[99, 111, 112, 121]⟩, ⟨#[48]⟩] 1 ⟨2, ⟨#[68, 32, 61, 32, 99, 111, 112, 121, 32, 65]⟩, 0, 0⟩ = true; decide +kernel) ?_ (by show 4 ≤ 10; omega) (by simp) ?_ ?_
  · unfold wordsX
    dsimp only
    rw [hp]
    simp only [List.map_cons, List.map_nil, List.append_nil, SW.val, putX_D, putX_A, putX_l0, putX_l2]
  · unfold yS yW foldX
    dsimp only
    rw [hp]
    simp only [List.map_cons, List.map_nil, List.zip_cons_cons, List.zip_nil_right, List.foldl_cons, List.foldl_nil, List.length_cons, List.length_nil, Nat.zero_add, Nat.reduceAdd, List.drop_succ_cons, List.drop_nil, SW.val, getX_d, getX_A, getX_l0, getX_l2, ed, ea]
    simp [strip, insZ, d0F]
  · intro n hn
    simp only [List.mem_cons, List.not_mem_nil, or_false, reduceCtorEq, false_or, Sum.inr.injEq] at hn
    rcases hn with rfl | rfl <;> assumption
  · intro b hb
    simp only [List.mem_cons, List.not_mem_nil, or_false, reduceCtorEq, false_or, Sum.inl.injEq] at hb
    rcases hb with rfl | rfl
    all_goals exact ⟨by decide, by intro b hb; revert b; decide, by intro b hb; revert b; decide⟩
  · intro q hq
    have h7 : ∀ q, q ∈ formsV.take 1 → q.k ≠ 2 := by decide +kernel
    exact good_no (h7 q hq)
  · refine ⟨⟨hdi, hai, h0, h0, h0, h0⟩, ?_, by show 0 ≤ 16; omega, by show (⟨#[]⟩ : ByteArray).size ≤ 65536; decide, fun h => absurd h (by show ¬ (2 : Int) = 6; decide), fun h => absurd h (by show ¬ (2 : Int) = 3; decide)⟩
    intro y hy
    cases hy
theorem shape_2 {d a b : Int} (hd : 0 ≤ d ∧ d ≤ 99999) (ha : 0 ≤ a ∧ a ≤ 99999) (hb : 0 ≤ b ∧ b ≤ 99999) (sa : Option Addr) (sn sc : Nat) : ShapeOk ((⟨3, d, 0, 0, 0, ⟨#[115, 104, 108]⟩, sa, sn, sc, 0, 0⟩, [a, b]) : InsX) ⟨⟨#[102]⟩, [], [], ⟨#[103]⟩, ([.inr d, .inl ⟨#[61]⟩, .inl ⟨#[115, 104, 108]⟩, .inr a, .inr b] : List SW).map SW.val, 2, ⟨3, ⟨#[68, 32, 61, 32, 79, 80]⟩, 1, 2⟩⟩ := by
  have hdi : In64 d := by unfold In64; omega
  have hai : In64 a := by unfold In64; omega
  have hbi : In64 b := by unfold In64; omega
  have h0 : In64 0 := by unfold In64; omega
  have h1 : In64 (-1) := by unfold In64; omega
  have ed := intV_word d hdi
  have ea := intV_word a hai
  have eb := intV_word b hbi
  have hp : partsOf ⟨#[68, 32, 61, 32, 79, 80]⟩ = [⟨#[68]⟩, ⟨#[61]⟩, ⟨#[79, 80]⟩] := by decide +kernel
  refine shape_of rfl rfl ?_ ?_ ?_ (by show chkW [⟨#[48]⟩, ⟨#[61]⟩, ⟨#[115, 104, 108]⟩, ⟨#[48]⟩, ⟨#[48]⟩] 2 ⟨3, ⟨#[68, 32, 61, 32, 79, 80]⟩, 1, 2⟩ = true; decide +kernel) ?_ (by show 5 ≤ 10; omega) (by simp) ?_ ?_
  · unfold wordsX
    dsimp only
    rw [hp]
    simp only [List.map_cons, List.map_nil, List.cons_append, List.nil_append, SW.val, putX_D, putX_OP, putX_l0]
  · unfold yS yW foldX
    dsimp only
    rw [hp]
    simp only [List.map_cons, List.map_nil, List.zip_cons_cons, List.zip_nil_left, List.foldl_cons, List.foldl_nil, List.length_cons, List.length_nil, Nat.zero_add, Nat.reduceAdd, List.drop_succ_cons, List.drop_zero, SW.val, getX_d, getX_OP, getX_l0, ed, ea, eb]
    simp [strip, insZ, d0F, (by decide +kernel : opBad ⟨#[115, 104, 108]⟩ = false)]
  · intro n hn
    simp only [List.mem_cons, List.not_mem_nil, or_false, reduceCtorEq, false_or, Sum.inr.injEq] at hn
    rcases hn with rfl | rfl | rfl <;> assumption
  · intro b hb
    simp only [List.mem_cons, List.not_mem_nil, or_false, reduceCtorEq, false_or, Sum.inl.injEq] at hb
    rcases hb with rfl | rfl
    all_goals exact ⟨by decide, by intro b hb; revert b; decide, by intro b hb; revert b; decide⟩
  · intro q hq
    have h7 : ∀ q, q ∈ formsV.take 2 → q.k ≠ 3 := by decide +kernel
    exact good_no (h7 q hq)
  · refine ⟨⟨hdi, h0, h0, h0, h0, h0⟩, ?_, by show 2 ≤ 16; omega, by show (⟨#[115, 104, 108]⟩ : ByteArray).size ≤ 65536; decide, fun h => absurd h (by show ¬ (3 : Int) = 6; decide), fun h => fun _ => nmShl_ok⟩
    intro y hy
    simp only [List.mem_cons, List.not_mem_nil, or_false] at hy
    rcases hy with rfl | rfl <;> assumption
theorem shape_3 {d a b : Int} (hd : 0 ≤ d ∧ d ≤ 99999) (ha : 0 ≤ a ∧ a ≤ 99999) (hb : 0 ≤ b ∧ b ≤ 99999) (sa : Option Addr) (sn sc : Nat) : ShapeOk ((⟨3, d, 0, 0, 0, ⟨#[110, 111, 116]⟩, sa, sn, sc, 0, 0⟩, [a]) : InsX) ⟨⟨#[102]⟩, [], [], ⟨#[103]⟩, ([.inr d, .inl ⟨#[61]⟩, .inl ⟨#[110, 111, 116]⟩, .inr a] : List SW).map SW.val, 2, ⟨3, ⟨#[68, 32, 61, 32, 79, 80]⟩, 1, 2⟩⟩ := by
  have hdi : In64 d := by unfold In64; omega
  have hai : In64 a := by unfold In64; omega
  have hbi : In64 b := by unfold In64; omega
  have h0 : In64 0 := by unfold In64; omega
  have h1 : In64 (-1) := by unfold In64; omega
  have ed := intV_word d hdi
  have ea := intV_word a hai
  have eb := intV_word b hbi
  have hp : partsOf ⟨#[68, 32, 61, 32, 79, 80]⟩ = [⟨#[68]⟩, ⟨#[61]⟩, ⟨#[79, 80]⟩] := by decide +kernel
  refine shape_of rfl rfl ?_ ?_ ?_ (by show chkW [⟨#[48]⟩, ⟨#[61]⟩, ⟨#[110, 111, 116]⟩, ⟨#[48]⟩] 2 ⟨3, ⟨#[68, 32, 61, 32, 79, 80]⟩, 1, 2⟩ = true; decide +kernel) ?_ (by show 4 ≤ 10; omega) (by simp) ?_ ?_
  · unfold wordsX
    dsimp only
    rw [hp]
    simp only [List.map_cons, List.map_nil, List.cons_append, List.nil_append, SW.val, putX_D, putX_OP, putX_l0]
  · unfold yS yW foldX
    dsimp only
    rw [hp]
    simp only [List.map_cons, List.map_nil, List.zip_cons_cons, List.zip_nil_left, List.foldl_cons, List.foldl_nil, List.length_cons, List.length_nil, Nat.zero_add, Nat.reduceAdd, List.drop_succ_cons, List.drop_zero, SW.val, getX_d, getX_OP, getX_l0, ed, ea]
    simp [strip, insZ, d0F, (by decide +kernel : opBad ⟨#[110, 111, 116]⟩ = false)]
  · intro n hn
    simp only [List.mem_cons, List.not_mem_nil, or_false, reduceCtorEq, false_or, Sum.inr.injEq] at hn
    rcases hn with rfl | rfl <;> assumption
  · intro b hb
    simp only [List.mem_cons, List.not_mem_nil, or_false, reduceCtorEq, false_or, Sum.inl.injEq] at hb
    rcases hb with rfl | rfl
    all_goals exact ⟨by decide, by intro b hb; revert b; decide, by intro b hb; revert b; decide⟩
  · intro q hq
    have h7 : ∀ q, q ∈ formsV.take 2 → q.k ≠ 3 := by decide +kernel
    exact good_no (h7 q hq)
  · refine ⟨⟨hdi, h0, h0, h0, h0, h0⟩, ?_, by show 1 ≤ 16; omega, by show (⟨#[110, 111, 116]⟩ : ByteArray).size ≤ 65536; decide, fun h => absurd h (by show ¬ (3 : Int) = 6; decide), fun h => fun _ => nmNot_ok⟩
    intro y hy
    simp only [List.mem_cons, List.not_mem_nil, or_false] at hy
    subst hy
    assumption
theorem shape_4 {d a b : Int} (hd : 0 ≤ d ∧ d ≤ 99999) (ha : 0 ≤ a ∧ a ≤ 99999) (hb : 0 ≤ b ∧ b ≤ 99999) (sa : Option Addr) (sn sc : Nat) : ShapeOk ((⟨4, d, a, 0, 0, ⟨#[]⟩, sa, sn, sc, 0, 0⟩, []) : InsX) ⟨⟨#[102]⟩, [], [], ⟨#[103]⟩, ([.inr d, .inl ⟨#[61]⟩, .inl ⟨#[108, 111, 97, 100]⟩, .inr a] : List SW).map SW.val, 3, ⟨4, ⟨#[68, 32, 61, 32, 108, 111, 97, 100, 32, 65]⟩, 0, 0⟩⟩ := by
  have hdi : In64 d := by unfold In64; omega
  have hai : In64 a := by unfold In64; omega
  have hbi : In64 b := by unfold In64; omega
  have h0 : In64 0 := by unfold In64; omega
  have h1 : In64 (-1) := by unfold In64; omega
  have ed := intV_word d hdi
  have ea := intV_word a hai
  have eb := intV_word b hbi
  have hp : partsOf ⟨#[68, 32, 61, 32, 108, 111, 97, 100, 32, 65]⟩ = [⟨#[68]⟩, ⟨#[61]⟩, ⟨#[108, 111, 97, 100]⟩, ⟨#[65]⟩] := by decide +kernel
  refine shape_of rfl rfl ?_ ?_ ?_ (by show chkW [⟨#[48]⟩, ⟨#[61]⟩, ⟨#[108, 111, 97, 100]⟩, ⟨#[48]⟩] 3 ⟨4, ⟨#[68, 32, 61, 32, 108, 111, 97, 100, 32, 65]⟩, 0, 0⟩ = true; decide +kernel) ?_ (by show 4 ≤ 10; omega) (by simp) ?_ ?_
  · unfold wordsX
    dsimp only
    rw [hp]
    simp only [List.map_cons, List.map_nil, List.append_nil, SW.val, putX_D, putX_A, putX_l0, putX_l3]
  · unfold yS yW foldX
    dsimp only
    rw [hp]
    simp only [List.map_cons, List.map_nil, List.zip_cons_cons, List.zip_nil_right, List.foldl_cons, List.foldl_nil, List.length_cons, List.length_nil, Nat.zero_add, Nat.reduceAdd, List.drop_succ_cons, List.drop_nil, SW.val, getX_d, getX_A, getX_l0, getX_l3, ed, ea]
    simp [strip, insZ, d0F]
  · intro n hn
    simp only [List.mem_cons, List.not_mem_nil, or_false, reduceCtorEq, false_or, Sum.inr.injEq] at hn
    rcases hn with rfl | rfl <;> assumption
  · intro b hb
    simp only [List.mem_cons, List.not_mem_nil, or_false, reduceCtorEq, false_or, Sum.inl.injEq] at hb
    rcases hb with rfl | rfl
    all_goals exact ⟨by decide, by intro b hb; revert b; decide, by intro b hb; revert b; decide⟩
  · intro q hq
    have h7 : ∀ q, q ∈ formsV.take 3 → q.k ≠ 4 := by decide +kernel
    exact good_no (h7 q hq)
  · refine ⟨⟨hdi, hai, h0, h0, h0, h0⟩, ?_, by show 0 ≤ 16; omega, by show (⟨#[]⟩ : ByteArray).size ≤ 65536; decide, fun h => absurd h (by show ¬ (4 : Int) = 6; decide), fun h => absurd h (by show ¬ (4 : Int) = 3; decide)⟩
    intro y hy
    cases hy
theorem shape_5 {d a b : Int} (hd : 0 ≤ d ∧ d ≤ 99999) (ha : 0 ≤ a ∧ a ≤ 99999) (hb : 0 ≤ b ∧ b ≤ 99999) (sa : Option Addr) (sn sc : Nat) : ShapeOk ((⟨5, 0, a, b, 0, ⟨#[]⟩, sa, sn, sc, 0, 0⟩, []) : InsX) ⟨⟨#[102]⟩, [], [], ⟨#[103]⟩, ([.inl ⟨#[115, 116, 111, 114, 101]⟩, .inr a, .inr b] : List SW).map SW.val, 4, ⟨5, ⟨#[115, 116, 111, 114, 101, 32, 65, 32, 66]⟩, 0, 0⟩⟩ := by
  have hdi : In64 d := by unfold In64; omega
  have hai : In64 a := by unfold In64; omega
  have hbi : In64 b := by unfold In64; omega
  have h0 : In64 0 := by unfold In64; omega
  have h1 : In64 (-1) := by unfold In64; omega
  have ed := intV_word d hdi
  have ea := intV_word a hai
  have eb := intV_word b hbi
  have hp : partsOf ⟨#[115, 116, 111, 114, 101, 32, 65, 32, 66]⟩ = [⟨#[115, 116, 111, 114, 101]⟩, ⟨#[65]⟩, ⟨#[66]⟩] := by decide +kernel
  refine shape_of rfl rfl ?_ ?_ ?_ (by show chkW [⟨#[115, 116, 111, 114, 101]⟩, ⟨#[48]⟩, ⟨#[48]⟩] 4 ⟨5, ⟨#[115, 116, 111, 114, 101, 32, 65, 32, 66]⟩, 0, 0⟩ = true; decide +kernel) ?_ (by show 3 ≤ 10; omega) (by simp) ?_ ?_
  · unfold wordsX
    dsimp only
    rw [hp]
    simp only [List.map_cons, List.map_nil, List.append_nil, SW.val, putX_A, putX_B, putX_l4]
  · unfold yS yW foldX
    dsimp only
    rw [hp]
    simp only [List.map_cons, List.map_nil, List.zip_cons_cons, List.zip_nil_right, List.foldl_cons, List.foldl_nil, List.length_cons, List.length_nil, Nat.zero_add, Nat.reduceAdd, List.drop_succ_cons, List.drop_nil, SW.val, getX_A, getX_B, getX_l4, ea, eb]
    simp [strip, insZ, d0F]
  · intro n hn
    simp only [List.mem_cons, List.not_mem_nil, or_false, reduceCtorEq, false_or, Sum.inr.injEq] at hn
    rcases hn with rfl | rfl <;> assumption
  · intro b hb
    simp only [List.mem_cons, List.not_mem_nil, or_false, reduceCtorEq, Sum.inl.injEq] at hb
    subst hb
    exact ⟨by decide, by intro b hb; revert b; decide, by intro b hb; revert b; decide⟩
  · intro q hq
    have h7 : ∀ q, q ∈ formsV.take 4 → q.k ≠ 5 := by decide +kernel
    exact good_no (h7 q hq)
  · refine ⟨⟨h0, hai, hbi, h0, h0, h0⟩, ?_, by show 0 ≤ 16; omega, by show (⟨#[]⟩ : ByteArray).size ≤ 65536; decide, fun h => absurd h (by show ¬ (5 : Int) = 6; decide), fun h => absurd h (by show ¬ (5 : Int) = 3; decide)⟩
    intro y hy
    cases hy
theorem shape_6 {d a b : Int} (hd : 0 ≤ d ∧ d ≤ 99999) (ha : 0 ≤ a ∧ a ≤ 99999) (hb : 0 ≤ b ∧ b ≤ 99999) (sa : Option Addr) (sn sc : Nat) : ShapeOk ((⟨6, -1, 0, 0, 0, ⟨#[103, 111]⟩, sa, sn, sc, 0, 0⟩, []) : InsX) ⟨⟨#[102]⟩, [], [], ⟨#[103]⟩, ([.inl ⟨#[99, 97, 108, 108]⟩, .inl ⟨#[103, 111]⟩] : List SW).map SW.val, 5, ⟨6, ⟨#[99, 97, 108, 108, 32, 78, 65, 77, 69]⟩, 0, 65536⟩⟩ := by
  have hdi : In64 d := by unfold In64; omega
  have hai : In64 a := by unfold In64; omega
  have hbi : In64 b := by unfold In64; omega
  have h0 : In64 0 := by unfold In64; omega
  have h1 : In64 (-1) := by unfold In64; omega
  have ed := intV_word d hdi
  have ea := intV_word a hai
  have eb := intV_word b hbi
  have hp : partsOf ⟨#[99, 97, 108, 108, 32, 78, 65, 77, 69]⟩ = [⟨#[99, 97, 108, 108]⟩, ⟨#[78, 65, 77, 69]⟩] := by decide +kernel
  refine shape_of rfl rfl ?_ ?_ ?_ (by show chkW [⟨#[99, 97, 108, 108]⟩, ⟨#[103, 111]⟩] 5 ⟨6, ⟨#[99, 97, 108, 108, 32, 78, 65, 77, 69]⟩, 0, 65536⟩ = true; decide +kernel) ?_ (by show 2 ≤ 10; omega) (by simp) ?_ ?_
  · unfold wordsX
    dsimp only
    rw [hp]
    simp only [List.map_cons, List.map_nil, List.append_nil, SW.val, putX_NAME, putX_l5]
  · unfold yS yW foldX
    dsimp only
    rw [hp]
    simp only [List.map_cons, List.map_nil, List.zip_cons_cons, List.zip_nil_right, List.foldl_cons, List.foldl_nil, List.length_cons, List.length_nil, Nat.zero_add, Nat.reduceAdd, List.drop_succ_cons, List.drop_nil, SW.val, getX_NAME, getX_l5]
    simp [strip, insZ, d0F]
  · intro n hn
    simp only [List.mem_cons, List.not_mem_nil, or_false, reduceCtorEq] at hn
  · intro b hb
    simp only [List.mem_cons, List.not_mem_nil, or_false, Sum.inl.injEq] at hb
    rcases hb with rfl | rfl
    all_goals exact ⟨by decide, by intro b hb; revert b; decide, by intro b hb; revert b; decide⟩
  · intro q hq
    have h7 : ∀ q, q ∈ formsV.take 5 → q.k ≠ 6 := by decide +kernel
    exact good_no (h7 q hq)
  · refine ⟨⟨h1, h0, h0, h0, h0, h0⟩, ?_, by show 0 ≤ 16; omega, by show (⟨#[103, 111]⟩ : ByteArray).size ≤ 65536; decide, fun h => nmGo_ok, fun h => absurd h (by show ¬ (6 : Int) = 3; decide)⟩
    intro y hy
    cases hy
theorem shape_7 {d a b : Int} (hd : 0 ≤ d ∧ d ≤ 99999) (ha : 0 ≤ a ∧ a ≤ 99999) (hb : 0 ≤ b ∧ b ≤ 99999) (sa : Option Addr) (sn sc : Nat) : ShapeOk ((⟨6, d, 0, 0, 0, ⟨#[103, 111]⟩, sa, sn, sc, 0, 0⟩, [a, b, a]) : InsX) ⟨⟨#[102]⟩, [], [], ⟨#[103]⟩, ([.inr d, .inl ⟨#[61]⟩, .inl ⟨#[99, 97, 108, 108]⟩, .inl ⟨#[103, 111]⟩, .inr a, .inr b, .inr a] : List SW).map SW.val, 6, ⟨6, ⟨#[68, 32, 61, 32, 99, 97, 108, 108, 32, 78, 65, 77, 69]⟩, 0, 65536⟩⟩ := by
  have hdi : In64 d := by unfold In64; omega
  have hai : In64 a := by unfold In64; omega
  have hbi : In64 b := by unfold In64; omega
  have h0 : In64 0 := by unfold In64; omega
  have h1 : In64 (-1) := by unfold In64; omega
  have ed := intV_word d hdi
  have ea := intV_word a hai
  have eb := intV_word b hbi
  have hp : partsOf ⟨#[68, 32, 61, 32, 99, 97, 108, 108, 32, 78, 65, 77, 69]⟩ = [⟨#[68]⟩, ⟨#[61]⟩, ⟨#[99, 97, 108, 108]⟩, ⟨#[78, 65, 77, 69]⟩] := by decide +kernel
  refine shape_of rfl rfl ?_ ?_ ?_ (by show chkW [⟨#[48]⟩, ⟨#[61]⟩, ⟨#[99, 97, 108, 108]⟩, ⟨#[103, 111]⟩, ⟨#[48]⟩, ⟨#[48]⟩, ⟨#[48]⟩] 6 ⟨6, ⟨#[68, 32, 61, 32, 99, 97, 108, 108, 32, 78, 65, 77, 69]⟩, 0, 65536⟩ = true; decide +kernel) ?_ (by show 7 ≤ 10; omega) (by simp) ?_ ?_
  · unfold wordsX
    dsimp only
    rw [hp]
    simp only [List.map_cons, List.map_nil, List.cons_append, List.nil_append, SW.val, putX_D, putX_NAME, putX_l0, putX_l5]
  · unfold yS yW foldX
    dsimp only
    rw [hp]
    simp only [List.map_cons, List.map_nil, List.zip_cons_cons, List.zip_nil_left, List.foldl_cons, List.foldl_nil, List.length_cons, List.length_nil, Nat.zero_add, Nat.reduceAdd, List.drop_succ_cons, List.drop_zero, SW.val, getX_d, getX_NAME, getX_l0, getX_l5, ed, ea, eb]
    simp [strip, insZ, d0F]
  · intro n hn
    simp only [List.mem_cons, List.not_mem_nil, or_false, reduceCtorEq, false_or, Sum.inr.injEq] at hn
    rcases hn with rfl | rfl | rfl | rfl <;> assumption
  · intro b hb
    simp only [List.mem_cons, List.not_mem_nil, or_false, reduceCtorEq, false_or, Sum.inl.injEq] at hb
    rcases hb with rfl | rfl | rfl
    all_goals exact ⟨by decide, by intro b hb; revert b; decide, by intro b hb; revert b; decide⟩
  · intro q hq
    have h7 : ∀ q, q ∈ formsV.take 6 → q.k ≠ 6 ∨ q = callNm := by decide +kernel
    rcases h7 q hq with h | rfl
    · exact good_no h
    · have hp2 : partsOf callNm.line = [⟨#[99, 97, 108, 108]⟩, ⟨#[78, 65, 77, 69]⟩] := by decide +kernel
      unfold goodF yF foldX
      rw [hp2]
      unfold wordsX
      simp only [List.map_cons, List.map_nil, List.cons_append, List.nil_append, List.zip_cons_cons, List.zip_nil_left, List.foldl_cons, List.foldl_nil, getX_NAME, getX_l5, putX_NAME, putX_l5]
      have hne : decide (d = -1) = false := decide_eq_false (by omega)
      simp [sameB, insZ, d0F, callNm, hne]
  · refine ⟨⟨hdi, h0, h0, h0, h0, h0⟩, ?_, by show 3 ≤ 16; omega, by show (⟨#[103, 111]⟩ : ByteArray).size ≤ 65536; decide, fun h => nmGo_ok, fun h => absurd h (by show ¬ (6 : Int) = 3; decide)⟩
    intro y hy
    simp only [List.mem_cons, List.not_mem_nil, or_false] at hy
    rcases hy with rfl | rfl | rfl <;> assumption
theorem shape_8 {d a b : Int} (hd : 0 ≤ d ∧ d ≤ 99999) (ha : 0 ≤ a ∧ a ≤ 99999) (hb : 0 ≤ b ∧ b ≤ 99999) (sa : Option Addr) (sn sc : Nat) : ShapeOk ((⟨7, 0, d, 0, 0, ⟨#[]⟩, sa, sn, sc, a, b⟩, []) : InsX) ⟨⟨#[102]⟩, [], [], ⟨#[103]⟩, ([.inl ⟨#[98, 114]⟩, .inr d, .inr a, .inr b] : List SW).map SW.val, 7, ⟨7, ⟨#[98, 114, 32, 65, 32, 84, 32, 70]⟩, 0, 0⟩⟩ := by
  have hdi : In64 d := by unfold In64; omega
  have hai : In64 a := by unfold In64; omega
  have hbi : In64 b := by unfold In64; omega
  have h0 : In64 0 := by unfold In64; omega
  have h1 : In64 (-1) := by unfold In64; omega
  have ed := intV_word d hdi
  have ea := intV_word a hai
  have eb := intV_word b hbi
  have hp : partsOf ⟨#[98, 114, 32, 65, 32, 84, 32, 70]⟩ = [⟨#[98, 114]⟩, ⟨#[65]⟩, ⟨#[84]⟩, ⟨#[70]⟩] := by decide +kernel
  refine shape_of rfl rfl ?_ ?_ ?_ (by show chkW [⟨#[98, 114]⟩, ⟨#[48]⟩, ⟨#[48]⟩, ⟨#[48]⟩] 7 ⟨7, ⟨#[98, 114, 32, 65, 32, 84, 32, 70]⟩, 0, 0⟩ = true; decide +kernel) ?_ (by show 4 ≤ 10; omega) (by simp) ?_ ?_
  · unfold wordsX
    dsimp only
    rw [hp]
    simp only [List.map_cons, List.map_nil, List.append_nil, SW.val, putX_A, putX_T, putX_F, putX_l6]
  · unfold yS yW foldX
    dsimp only
    rw [hp]
    simp only [List.map_cons, List.map_nil, List.zip_cons_cons, List.zip_nil_right, List.foldl_cons, List.foldl_nil, List.length_cons, List.length_nil, Nat.zero_add, Nat.reduceAdd, List.drop_succ_cons, List.drop_nil, SW.val, getX_A, getX_T, getX_F, getX_l6, ed, ea, eb]
    simp [strip, insZ, d0F]
  · intro n hn
    simp only [List.mem_cons, List.not_mem_nil, or_false, reduceCtorEq, false_or, Sum.inr.injEq] at hn
    rcases hn with rfl | rfl | rfl <;> assumption
  · intro b hb
    simp only [List.mem_cons, List.not_mem_nil, or_false, reduceCtorEq, Sum.inl.injEq] at hb
    subst hb
    exact ⟨by decide, by intro b hb; revert b; decide, by intro b hb; revert b; decide⟩
  · intro q hq
    have h7 : ∀ q, q ∈ formsV.take 7 → q.k ≠ 7 := by decide +kernel
    exact good_no (h7 q hq)
  · refine ⟨⟨h0, hdi, h0, h0, hai, hbi⟩, ?_, by show 0 ≤ 16; omega, by show (⟨#[]⟩ : ByteArray).size ≤ 65536; decide, fun h => absurd h (by show ¬ (7 : Int) = 6; decide), fun h => absurd h (by show ¬ (7 : Int) = 3; decide)⟩
    intro y hy
    cases hy
theorem shape_9 {d a b : Int} (hd : 0 ≤ d ∧ d ≤ 99999) (ha : 0 ≤ a ∧ a ≤ 99999) (hb : 0 ≤ b ∧ b ≤ 99999) (sa : Option Addr) (sn sc : Nat) : ShapeOk ((⟨8, 0, 0, 0, 0, ⟨#[]⟩, sa, sn, sc, a, 0⟩, []) : InsX) ⟨⟨#[102]⟩, [], [], ⟨#[103]⟩, ([.inl ⟨#[106, 117, 109, 112]⟩, .inr a] : List SW).map SW.val, 8, ⟨8, ⟨#[106, 117, 109, 112, 32, 84]⟩, 0, 0⟩⟩ := by
  have hdi : In64 d := by unfold In64; omega
  have hai : In64 a := by unfold In64; omega
  have hbi : In64 b := by unfold In64; omega
  have h0 : In64 0 := by unfold In64; omega
  have h1 : In64 (-1) := by unfold In64; omega
  have ed := intV_word d hdi
  have ea := intV_word a hai
  have eb := intV_word b hbi
  have hp : partsOf ⟨#[106, 117, 109, 112, 32, 84]⟩ = [⟨#[106, 117, 109, 112]⟩, ⟨#[84]⟩] := by decide +kernel
  refine shape_of rfl rfl ?_ ?_ ?_ (by show chkW [⟨#[106, 117, 109, 112]⟩, ⟨#[48]⟩] 8 ⟨8, ⟨#[106, 117, 109, 112, 32, 84]⟩, 0, 0⟩ = true; decide +kernel) ?_ (by show 2 ≤ 10; omega) (by simp) ?_ ?_
  · unfold wordsX
    dsimp only
    rw [hp]
    simp only [List.map_cons, List.map_nil, List.append_nil, SW.val, putX_T, putX_l7]
  · unfold yS yW foldX
    dsimp only
    rw [hp]
    simp only [List.map_cons, List.map_nil, List.zip_cons_cons, List.zip_nil_right, List.foldl_cons, List.foldl_nil, List.length_cons, List.length_nil, Nat.zero_add, Nat.reduceAdd, List.drop_succ_cons, List.drop_nil, SW.val, getX_T, getX_l7, ea]
    simp [strip, insZ, d0F]
  · intro n hn
    simp only [List.mem_cons, List.not_mem_nil, or_false, reduceCtorEq, false_or, Sum.inr.injEq] at hn
    subst hn
    assumption
  · intro b hb
    simp only [List.mem_cons, List.not_mem_nil, or_false, reduceCtorEq, Sum.inl.injEq] at hb
    subst hb
    exact ⟨by decide, by intro b hb; revert b; decide, by intro b hb; revert b; decide⟩
  · intro q hq
    have h7 : ∀ q, q ∈ formsV.take 8 → q.k ≠ 8 := by decide +kernel
    exact good_no (h7 q hq)
  · refine ⟨⟨h0, h0, h0, h0, hai, h0⟩, ?_, by show 0 ≤ 16; omega, by show (⟨#[]⟩ : ByteArray).size ≤ 65536; decide, fun h => absurd h (by show ¬ (8 : Int) = 6; decide), fun h => absurd h (by show ¬ (8 : Int) = 3; decide)⟩
    intro y hy
    cases hy
theorem shape_10 {d a b : Int} (hd : 0 ≤ d ∧ d ≤ 99999) (ha : 0 ≤ a ∧ a ≤ 99999) (hb : 0 ≤ b ∧ b ≤ 99999) (sa : Option Addr) (sn sc : Nat) : ShapeOk ((⟨9, 0, a, 0, 0, ⟨#[]⟩, sa, sn, sc, 0, 0⟩, []) : InsX) ⟨⟨#[102]⟩, [], [], ⟨#[103]⟩, ([.inl ⟨#[114, 101, 116]⟩, .inr a] : List SW).map SW.val, 9, ⟨9, ⟨#[114, 101, 116, 32, 65]⟩, 0, 0⟩⟩ := by
  have hdi : In64 d := by unfold In64; omega
  have hai : In64 a := by unfold In64; omega
  have hbi : In64 b := by unfold In64; omega
  have h0 : In64 0 := by unfold In64; omega
  have h1 : In64 (-1) := by unfold In64; omega
  have ed := intV_word d hdi
  have ea := intV_word a hai
  have eb := intV_word b hbi
  have hp : partsOf ⟨#[114, 101, 116, 32, 65]⟩ = [⟨#[114, 101, 116]⟩, ⟨#[65]⟩] := by decide +kernel
  refine shape_of rfl rfl ?_ ?_ ?_ (by show chkW [⟨#[114, 101, 116]⟩, ⟨#[48]⟩] 9 ⟨9, ⟨#[114, 101, 116, 32, 65]⟩, 0, 0⟩ = true; decide +kernel) ?_ (by show 2 ≤ 10; omega) (by simp) ?_ ?_
  · unfold wordsX
    dsimp only
    rw [hp]
    simp only [List.map_cons, List.map_nil, List.append_nil, SW.val, putX_A, putX_l8]
  · unfold yS yW foldX
    dsimp only
    rw [hp]
    simp only [List.map_cons, List.map_nil, List.zip_cons_cons, List.zip_nil_right, List.foldl_cons, List.foldl_nil, List.length_cons, List.length_nil, Nat.zero_add, Nat.reduceAdd, List.drop_succ_cons, List.drop_nil, SW.val, getX_A, getX_l8, ea]
    simp [strip, insZ, d0F]
  · intro n hn
    simp only [List.mem_cons, List.not_mem_nil, or_false, reduceCtorEq, false_or, Sum.inr.injEq] at hn
    subst hn
    assumption
  · intro b hb
    simp only [List.mem_cons, List.not_mem_nil, or_false, reduceCtorEq, Sum.inl.injEq] at hb
    subst hb
    exact ⟨by decide, by intro b hb; revert b; decide, by intro b hb; revert b; decide⟩
  · intro q hq
    have h7 : ∀ q, q ∈ formsV.take 9 → q.k ≠ 9 := by decide +kernel
    exact good_no (h7 q hq)
  · refine ⟨⟨h0, hai, h0, h0, h0, h0⟩, ?_, by show 0 ≤ 16; omega, by show (⟨#[]⟩ : ByteArray).size ≤ 65536; decide, fun h => absurd h (by show ¬ (9 : Int) = 6; decide), fun h => absurd h (by show ¬ (9 : Int) = 3; decide)⟩
    intro y hy
    cases hy
end Go.Proofs.YtfnfijgknjnccaaGreatDoor
