
import Derived.Test.YtomlgdnafeeeiaaGreatDoorMdOne
/-
 Lists of numbers in new memory.
-/
namespace Go.Proofs.YtomlgdnafeeeiaaGreatDoor
open Go.RowKit
def qlS(w:World)(l:List Int)(e:Ending)(w':World):Prop:=
 BX w w'/\∃ (a:Option Addr) (n c:Nat),e = .returned (.slice a n c)/\w'.ownsRow w.heap.size 3 1 (.slice a n c) l.length (l.map (Value.int .i64))/\qJ w' ⟨a,n,c⟩ l
theorem qlS.of{w:World}{l:List Int}{e:Ending}{w':World}(h:qaw w l e w'):qlS w l e w':=by
 obtain⟨⟨a,n,c⟩,h1,h2,h3⟩:=h
 exact⟨h3,a,n,c,h1,h2,qJ.of_row h2 rfl⟩
end Go.Proofs.YtomlgdnafeeeiaaGreatDoor
