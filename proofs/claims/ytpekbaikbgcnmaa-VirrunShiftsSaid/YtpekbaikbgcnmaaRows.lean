/-
  No cell of these rows narrows 'for every input' (looked for: loops, veiled, ifaces, maps, wideKeys, modest, calm, conditions, laid).
  DERIVED. THE GIVEN ROWS OF THIS SEAT. 3 by the template 'for every input the law returns true; each argument reads behind the call as it read before'; 0 by the template 'total and deterministic' (their statements: YtpekbaikbgcnmaaTotals.lean).
  GIVEN WITH THE SEED: the statements are not yours to turn. If you find one false, say at which input.
  Laid BY PROGRAM, IN A SANDBOX (cutbox-rows.mjs): the forced cells as the released guide's own fill.sh prints them over the translation c95cacf08cb7f70f… (all of the seat's roots in one cut). By AI agents, Wed Nov 11 2026. No macro, syntax, notation, axiom, sorry.
-/
import Derived.Test.YtpekbaikbgcnmaaChecked
import GoSem.Claim
import GoSem.ClaimJoined
import GoSem.ClaimMapViews
import Derived.JoinedTies
import Derived.KernelRfl
namespace Go.Proofs.Ytpekbaikbgcnmaa
/- THE CELL 'sum', in the pinned program and in every row, IS THE sha256 OF THE DUMP (.gsa) THAT YtpekbaikbgcnmaaProg.lean LOADS. Nothing in Lean hashes anything: it is a label: what it is worth is what the hold of that sum in a sandbox is worth. -/
noncomputable def Try.pinned : Pinned := { name := "ytpekbaikbgcnmaa", sum := "c95cacf08cb7f70f47b587a81ff52fef425f808efad123caa748135e7bd0c9b2", checked := Try.checked }
namespace Rows
def none {H : Type} : Left H := { results := [], args := [] }

/-- 'pigeonholelaw11.VirrunDo': WHATEVER THE INPUT: true; the input reads as it did. -/
def virrunDoSpec : ChangeSpec := { name := "virrunDo", fn := fun _ => fun
  | [d1, d2, d3] => { results := [.lit (.bool true)], args := [d1, d2, d3] }
  | _ => none }
def virrunDoRow : OpenClaim := { program := "ytpekbaikbgcnmaa", sum := "c95cacf08cb7f70f47b587a81ff52fef425f808efad123caa748135e7bd0c9b2", func := "pigeonhole/pigeonholelaw11.VirrunDo", spec := "virrunDo", unfollowed := true, recurses := true, apart := false }
def VirrunDoSaid : Prop := virrunDoRow.holds Try.pinned (OpenSpec.ofChange virrunDoSpec)

/-- ITS FALSE NEIGHBOUR: 'it returns false'. Refute it at one input. -/
def virrunDoWrong : ChangeSpec := { name := "virrunDo", fn := fun _ => fun
  | [d1, d2, d3] => { results := [.lit (.bool false)], args := [d1, d2, d3] }
  | _ => none }
def VirrunDoWrongFalsely : Prop := virrunDoRow.holds Try.pinned (OpenSpec.ofChange virrunDoWrong)

/-- 'pigeonholelaw11.VirrunLaws': WHATEVER THE INPUT: true; the input reads as it did. -/
def virrunLawsSpec : ChangeSpec := { name := "virrunLaws", fn := fun _ => fun
  | [d1, d2, d3] => { results := [.lit (.bool true)], args := [d1, d2, d3] }
  | _ => none }
def virrunLawsRow : OpenClaim := { program := "ytpekbaikbgcnmaa", sum := "c95cacf08cb7f70f47b587a81ff52fef425f808efad123caa748135e7bd0c9b2", func := "pigeonhole/pigeonholelaw11.VirrunLaws", spec := "virrunLaws", unfollowed := true, recurses := true, apart := false }
def VirrunLawsSaid : Prop := virrunLawsRow.holds Try.pinned (OpenSpec.ofChange virrunLawsSpec)

/-- ITS FALSE NEIGHBOUR: 'it returns false'. Refute it at one input. -/
def virrunLawsWrong : ChangeSpec := { name := "virrunLaws", fn := fun _ => fun
  | [d1, d2, d3] => { results := [.lit (.bool false)], args := [d1, d2, d3] }
  | _ => none }
def VirrunLawsWrongFalsely : Prop := virrunLawsRow.holds Try.pinned (OpenSpec.ofChange virrunLawsWrong)

/-- 'pigeonholelaw11.VirrunShifts': WHATEVER THE INPUT: true; the input reads as it did. -/
def virrunShiftsSpec : ChangeSpec := { name := "virrunShifts", fn := fun _ => fun
  | [d1, d2, d3] => { results := [.lit (.bool true)], args := [d1, d2, d3] }
  | _ => none }
def virrunShiftsRow : OpenClaim := { program := "ytpekbaikbgcnmaa", sum := "c95cacf08cb7f70f47b587a81ff52fef425f808efad123caa748135e7bd0c9b2", func := "pigeonhole/pigeonholelaw11.VirrunShifts", spec := "virrunShifts", unfollowed := true, recurses := true, apart := false }
def VirrunShiftsSaid : Prop := virrunShiftsRow.holds Try.pinned (OpenSpec.ofChange virrunShiftsSpec)

/-- ITS FALSE NEIGHBOUR: 'it returns false'. Refute it at one input. -/
def virrunShiftsWrong : ChangeSpec := { name := "virrunShifts", fn := fun _ => fun
  | [d1, d2, d3] => { results := [.lit (.bool false)], args := [d1, d2, d3] }
  | _ => none }
def VirrunShiftsWrongFalsely : Prop := virrunShiftsRow.holds Try.pinned (OpenSpec.ofChange virrunShiftsWrong)

/- THE SECOND FORM. 'bulk': how many values and letters a reading holds, each counted each time it is reached (what is shared counts as often as it is met; a slice's spare places count too). A statement '..UptoSaid' is the law's where the arguments, and the package variables that the reading takes, are together of bulk at most 1048576: NARROWER than '..Said'. Prove '..Said' where nothing that the law and all that it calls make is longer than what came in: it says more and counts as full. Else prove '..UptoSaid'. A law counts once. -/
mutual
def uptoBulk {H : Type} : DataW H → Nat
  | .lit (.string bytes) => bytes.length + 1
  | .lit _ => 1
  | .nil => 1
  | .ptr d => uptoBulk d + 1
  | .slice elems spare => uptoBulkAll elems + uptoBulkAll spare + 1
  | .agg parts => uptoBulkAll parts + 1
  | .iface _ d => uptoBulk d + 1
  | .map entries => uptoBulkEntries entries + 1
  | .held _ => 1
def uptoBulkAll {H : Type} : List (DataW H) → Nat
  | [] => 0
  | d :: r => uptoBulk d + uptoBulkAll r
def uptoBulkEntries {H : Type} : List (Lit × DataW H) → Nat
  | [] => 0
  | x :: r => uptoBulkEntry x + uptoBulkEntries r
def uptoBulkEntry {H : Type} : Lit × DataW H → Nat
  | (.string bytes, d) => bytes.length + uptoBulk d + 1
  | (_, d) => uptoBulk d + 1
 end
def uptoSmall : (H : Type) → List (DataW H) → Bool := fun _ ds => decide (uptoBulkAll ds ≤ 1048576)
def OpenSpec.upto (s : _root_.Go.ChangeSpec) : _root_.Go.OpenSpec := { _root_.Go.OpenSpec.ofChange s with cond := some uptoSmall }

/-- 'pigeonholelaw11.VirrunDo', WHERE WHAT IT READS IS OF BULK AT MOST 1048576: true; the input reads as it did. -/
def virrunDoUptoRow : OpenClaim := { program := "ytpekbaikbgcnmaa", sum := "c95cacf08cb7f70f47b587a81ff52fef425f808efad123caa748135e7bd0c9b2", func := "pigeonhole/pigeonholelaw11.VirrunDo", spec := "virrunDo", unfollowed := true, recurses := true, apart := false, narrowed := true }
def VirrunDoUptoSaid : Prop := virrunDoUptoRow.holds Try.pinned (OpenSpec.upto virrunDoSpec)

/-- 'pigeonholelaw11.VirrunLaws', WHERE WHAT IT READS IS OF BULK AT MOST 1048576: true; the input reads as it did. -/
def virrunLawsUptoRow : OpenClaim := { program := "ytpekbaikbgcnmaa", sum := "c95cacf08cb7f70f47b587a81ff52fef425f808efad123caa748135e7bd0c9b2", func := "pigeonhole/pigeonholelaw11.VirrunLaws", spec := "virrunLaws", unfollowed := true, recurses := true, apart := false, narrowed := true }
def VirrunLawsUptoSaid : Prop := virrunLawsUptoRow.holds Try.pinned (OpenSpec.upto virrunLawsSpec)

/-- 'pigeonholelaw11.VirrunShifts', WHERE WHAT IT READS IS OF BULK AT MOST 1048576: true; the input reads as it did. -/
def virrunShiftsUptoRow : OpenClaim := { program := "ytpekbaikbgcnmaa", sum := "c95cacf08cb7f70f47b587a81ff52fef425f808efad123caa748135e7bd0c9b2", func := "pigeonhole/pigeonholelaw11.VirrunShifts", spec := "virrunShifts", unfollowed := true, recurses := true, apart := false, narrowed := true }
def VirrunShiftsUptoSaid : Prop := virrunShiftsUptoRow.holds Try.pinned (OpenSpec.upto virrunShiftsSpec)

end Rows
end Go.Proofs.Ytpekbaikbgcnmaa
