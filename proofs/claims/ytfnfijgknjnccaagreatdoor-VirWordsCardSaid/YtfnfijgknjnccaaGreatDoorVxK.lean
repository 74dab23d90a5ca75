/-
  vir's Read, of the text of a function of one block of one instruction: its lines.
-/
import Derived.Test.YtfnfijgknjnccaaGreatDoorVxA
import Derived.Test.YtfnfijgknjnccaaGreatDoorVxJ
namespace Go.Proofs.YtfnfijgknjnccaaGreatDoor
open Go.RowKit Go.Sort
/-- What a text of one instruction says. -/
structure TxV where
  nm : ByteArray
  vr : List ByteArray
  ps : List Int
  rs : ByteArray
  ws : List ByteArray
  j : Nat
  f : FormV
structure TxOk (t : TxV) : Prop where
  nm : IsName t.nm
  rs : IsName t.rs
  vr : ∀ x, x ∈ t.vr → IsName x
  ps : ∀ x, x ∈ t.ps → 0 ≤ x ∧ x ≤ 99999
  lv : t.vr.length ≤ 500
  lp : t.ps.length ≤ 16
  ws : WsOk t.ws t.j t.f
  w0 : t.ws ≠ []
  wb : ∀ x, x ∈ t.ws → NoB 32 x ∧ NoB 10 x
  lw : (joinSp t.ws).length ≤ 40000
def wFunc : ByteArray := ⟨#[102, 117, 110, 99]⟩
def wRegs : ByteArray := ⟨#[114, 101, 103, 115]⟩
def wParams : ByteArray := ⟨#[112, 97, 114, 97, 109, 115]⟩
def wResult : ByteArray := ⟨#[114, 101, 115, 117, 108, 116]⟩
def TxV.lines (t : TxV) : List ByteArray := [lineW [wFunc, t.nm], lineW (wRegs :: t.vr), lineW (wParams :: t.ps.map wordN), lineW [wResult, t.rs], txt (blockL ++ [10]), txt (32 :: 32 :: joinSp t.ws ++ [10]), txt (endL ++ [10])]
/-- What the reader has behind k lines. -/
def TxV.at (t : TxV) : Nat → RdV
  | 0 => ⟨⟨#[]⟩, [], [], ⟨#[]⟩, none, false⟩
  | 1 => ⟨t.nm, [], [], ⟨#[]⟩, none, false⟩
  | 2 => ⟨t.nm, t.vr, [], ⟨#[]⟩, none, false⟩
  | 3 => ⟨t.nm, t.vr, t.ps, ⟨#[]⟩, none, false⟩
  | 4 => ⟨t.nm, t.vr, t.ps, t.rs, none, false⟩
  | 5 => ⟨t.nm, t.vr, t.ps, t.rs, some [], false⟩
  | 6 => ⟨t.nm, t.vr, t.ps, t.rs, some [yS t.ws t.f], false⟩
  | _ => ⟨t.nm, t.vr, t.ps, t.rs, some [yS t.ws t.f], true⟩
theorem join_len : ∀ (ws : List ByteArray) (n : Nat), (∀ x, x ∈ ws → x.size ≤ n) → (joinSp ws).length ≤ ws.length * (n + 1)
  | [], _, _ => by simp [joinSp]
  | [x], n, h => by
    have h1 := h x (by simp)
    have h2 : x.data.toList.length = x.size := by rw [Array.length_toList]; rfl
    unfold joinSp
    simp
    omega
  | x :: y :: r, n, h => by
    have ih := join_len (y :: r) n (fun z hz => h z (by simp at hz ⊢; exact .inr hz))
    have h1 := h x (by simp)
    have h2 : x.data.toList.length = x.size := by rw [Array.length_toList]; rfl
    unfold joinSp
    rw [List.length_append, List.length_cons]
    simp only [List.length_cons] at ih ⊢
    rw [Nat.add_mul (r.length + 1) 1]
    omega
theorem join_no : ∀ (ws : List ByteArray), (∀ x, x ∈ ws → NoB 10 x) → ∀ b, b ∈ joinSp ws → b ≠ 10
  | [], _, b, hb => by simp [joinSp] at hb
  | [x], h, b, hb => h x (by simp) b hb
  | x :: y :: r, h, b, hb => by
    unfold joinSp at hb
    rcases List.mem_append.1 hb with hb | hb
    · exact h x (by simp) b hb
    · rcases List.mem_cons.1 hb with rfl | hb
      · decide
      · exact join_no (y :: r) (fun z hz => h z (by simp at hz ⊢; exact .inr hz)) b hb
theorem line_ok (l : List UInt8) (h : ∀ b, b ∈ l → b ≠ 10) : LineOk (txt (l ++ [10])) := ⟨⟨l, txt_list _, h⟩⟩
theorem TxOk.regs {t : TxV} (h : TxOk t) : (joinSp (wRegs :: t.vr)).length ≤ 12000 := by
  have := join_len (wRegs :: t.vr) 20 (fun x hx => by
    rcases List.mem_cons.1 hx with rfl | hx
    · decide
    · exact (h.vr x hx).le)
  have h2 := h.lv
  rw [List.length_cons] at this
  omega
theorem TxOk.params {t : TxV} (h : TxOk t) : (joinSp (wParams :: t.ps.map wordN)).length ≤ 1000 := by
  have := join_len (wParams :: t.ps.map wordN) 21 (fun x hx => by
    rcases List.mem_cons.1 hx with rfl | hx
    · decide
    · obtain ⟨n, hn, rfl⟩ := List.mem_map.1 hx
      have := h.ps n hn
      exact wordN_size n (by omega) (by omega))
  have h2 := h.lp
  rw [List.length_cons, List.length_map] at this
  omega
theorem TxOk.head {nm : ByteArray} (w : ByteArray) (hw : w.size ≤ 20) (h : IsName nm) : (joinSp [w, nm]).length ≤ 42 := by
  have := join_len [w, nm] 20 (fun x hx => by
    simp only [List.mem_cons, List.not_mem_nil, or_false] at hx
    rcases hx with rfl | rfl
    · exact hw
    · exact h.le)
  simpa using this
theorem TxOk.lines {t : TxV} (h : TxOk t) : (∀ x, x ∈ t.lines → LineOk x) ∧ (textOf t.lines).length ≤ 65536 := by
  refine ⟨fun x hx => ?_, ?_⟩
  · unfold TxV.lines at hx
    simp only [List.mem_cons, List.not_mem_nil, or_false] at hx
    rcases hx with rfl | rfl | rfl | rfl | rfl | rfl | rfl
    · exact line_ok _ (join_no _ (fun x hx => by
        simp only [List.mem_cons, List.not_mem_nil, or_false] at hx
        rcases hx with rfl | rfl
        · intro b hb; revert b; decide
        · exact (name_nob h.nm).2))
    · exact line_ok _ (join_no _ (fun x hx => by
        rcases List.mem_cons.1 hx with rfl | hx
        · intro b hb; revert b; decide
        · exact (name_nob (h.vr x hx)).2))
    · exact line_ok _ (join_no _ (fun x hx => by
        rcases List.mem_cons.1 hx with rfl | hx
        · intro b hb; revert b; decide
        · obtain ⟨n, hn, rfl⟩ := List.mem_map.1 hx
          exact (word_nob n).2))
    · exact line_ok _ (join_no _ (fun x hx => by
        simp only [List.mem_cons, List.not_mem_nil, or_false] at hx
        rcases hx with rfl | rfl
        · intro b hb; revert b; decide
        · exact (name_nob h.rs).2))
    · exact line_ok _ (by decide)
    · exact line_ok (32 :: 32 :: joinSp t.ws) (fun b hb => by
        rcases List.mem_cons.1 hb with rfl | hb
        · decide
        · rcases List.mem_cons.1 hb with rfl | hb
          · decide
          · exact join_no _ (fun x hx => (h.wb x hx).2) b hb)
    · exact line_ok _ (by decide)
  · have h1 := TxOk.head wFunc (by decide) h.nm
    have h2 := h.regs
    have h3 := h.params
    have h4 := TxOk.head wResult (by decide) h.rs
    have h6 := h.lw
    unfold TxV.lines textOf lineW
    simp only [List.flatMap_cons, List.flatMap_nil, List.append_nil, txt_list, List.length_append, List.length_cons, blockL, endL, List.length_nil]
    omega
end Go.Proofs.YtfnfijgknjnccaaGreatDoor
