/-
  vir's isPlain.
-/
import Derived.Test.YtfnfijgknjnccaaGreatDoorVwO
namespace Go.Proofs.YtfnfijgknjnccaaGreatDoor
open Go.RowKit Go.Sort
set_option maxHeartbeats 4000000
set_option maxRecDepth 100000
theorem isPlain_any (x : InsV) {L : List Int} {w : World} (hE : EnvF w) (hx : InsOk x L) (hL : IntsL w x.sa L) (hsn : x.sn = L.length) :
    Calls Tryz.prog 52 #[.agg x.cells] w fun e w' => e = .returned (.bool (formsV.any (goodF x L))) ∧ Below w.heap.size w w' := by
  have hb0 := below_one w x.cells 25
  have K := wordsOf_any x (hE.below hb0) hx (hL.below hb0) hsn
  have hfew : (x.sn : Int) ≤ 16 := by have := hx.few; omega
  replace hb0 := Lib.hid hb0
  clear hE hL hsn
  unfold InsV.cells at K ⊢
  have hany : ∀ (b : Bool), (∀ q, q ∈ formsV → goodF x L q = false) → false = formsV.any (goodF x L) := fun _ h => by
    rw [eq_comm, List.any_eq_false]
    intro q hq
    rw [h q hq]
    decide
  have hsome : ∀ (j : Nat) (f : FormV), formsV[j]? = some f → goodF x L f = true → true = formsV.any (goodF x L) := fun j f hf hg => by
    rw [eq_comm, List.any_eq_true]
    exact ⟨f, List.mem_of_getElem? hf, hg⟩
  replace hany := Lib.hid hany
  replace hsome := Lib.hid hsome
  replace hx := Lib.hid hx
  go_enter Tryz.func52, Tryz.ntmps52
  go_wp2_with (go_at_call 17; refine K.mono ?_; clear K; rintro e W1 ⟨hb1, h⟩; replace hb1 := Lib.hid hb1; rcases h with ⟨j, f, a', c', hf, hg, _, rfl, _⟩ | ⟨hno, rfl⟩)
  · have hres := Lib.hid (hsome.out j f hf hg)
    have hlen : (0 : Int) < (((partsOf f.line).length + L.length : Nat) : Int) := by
      have := (forms_name f (List.mem_of_getElem? hf)).2.2.2.2
      omega
    clear hf hg
    go_wp2
    go_ret
    exact ⟨ret_bool (by rw [← hres.out]; simp at *; omega), hb0.out.trans (hb1.out.mono hb0.out.size)⟩
  · have hres := Lib.hid (hany.out true hno)
    clear hno
    go_wp2
    go_ret
    exact ⟨ret_bool hres.out, hb0.out.trans (hb1.out.mono hb0.out.size)⟩
end Go.Proofs.YtfnfijgknjnccaaGreatDoor
