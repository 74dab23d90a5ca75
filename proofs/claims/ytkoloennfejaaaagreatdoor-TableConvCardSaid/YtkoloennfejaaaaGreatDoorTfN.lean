/-
  Lists of numbers in new memory.
-/
import Derived.Test.YtkoloennfejaaaaGreatDoorMdOne
namespace Go.Proofs.YtkoloennfejaaaaGreatDoor
open Go.RowKit
def NewL(w:World)(l:List Int)(e:Ending)(w':World):Prop:=
 Below w.heap.size w w'/\∃ (a:Option Addr) (n c:Nat),e = .returned (.slice a n c)/\w'.ownsRow w.heap.size 3 1 (.slice a n c) l.length (l.map (Value.int .i64))/\IntsAt w' ⟨a,n,c⟩ l
theorem NewL.of{w:World}{l:List Int}{e:Ending}{w':World}(h:XJ w l e w'):NewL w l e w':=by
 obtain⟨⟨a,n,c⟩,h1,h2,h3⟩:=h
 exact⟨h3,a,n,c,h1,h2,IntsAt.of_row h2 rfl⟩
theorem IntsR.nilc{W:World}{s:SlV}{l:List Int}(h:IntsR W s l):s.a=none->s.c=0:=fun h0=>by
 rcases h.2 with⟨e1,_⟩|⟨g,cap,cur,e1,_⟩
 ·unfold SlV.v at e1;injection e1
 ·unfold SlV.v at e1;injection e1 with ea;rw[ea] at h0;cases h0
end Go.Proofs.YtkoloennfejaaaaGreatDoor
