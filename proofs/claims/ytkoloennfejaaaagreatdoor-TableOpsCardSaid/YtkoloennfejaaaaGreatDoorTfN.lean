/-
  Lists of numbers in new memory.
-/
import Derived.Test.YtkoloennfejaaaaGreatDoorMdOne
import Derived.Test.YtkoloennfejaaaaGreatDoorRfP
namespace Go.Proofs.YtkoloennfejaaaaGreatDoor
open Go.RowKit
def NewL(w:World)(l:List Int)(e:Ending)(w':World):Prop:=
 Below w.heap.size w w'/\∃ (a:Option Addr) (n c:Nat),e = .returned (.slice a n c)/\w'.ownsRow w.heap.size 3 1 (.slice a n c) l.length (l.map (Value.int .i64))/\IntsAt w' ⟨a,n,c⟩ l
theorem NewL.of{w:World}{l:List Int}{e:Ending}{w':World}(h:XJ w l e w'):NewL w l e w':=by
 obtain⟨⟨a,n,c⟩,h1,h2,h3⟩:=h
 exact⟨h3,a,n,c,h1,h2,IntsAt.of_row h2 rfl⟩
def qfS(base:Nat)(W:World)(a:Option Addr)(V:List Int)(j:Nat):Prop:=
 V = []∨∃ (g:Nat) (cs:Array Value),a=some ⟨g,0,none⟩/\base<=g/\Cells W g 3 cs/\V.length<=cs.size/\∀q x,j<=q->V[q]?=some x->cs[q]?=some (.int .i64 x)
theorem qfS.of{base c:Nat}{W:World}{a:Option Addr}{V:List Int}(h:W.ownsRow base 3 1 (.slice a V.length c) V.length (V.map (Value.int .i64))):qfS base W a V 0:=by
 rcases h.2 with⟨_,h2⟩|⟨g,cap,cur,h1,h2,h3,h4,_,h6,h7⟩
 ·exact .inl (List.length_eq_zero_iff.1 h2)
 ·injection h1 with e1 e2 e3
  refine .inr ⟨g,cur,e1,h2,h3,by omega,fun q x _ hx=>?_⟩
  have hq:=(List.getElem?_eq_some_iff.1 hx).1
  have h8:(cur.toList.take (V.length*1))[q]?=some (.int .i64 x):=by rw[h7,List.getElem?_map,hx];rfl
  rw[List.getElem?_take_of_lt (by omega)] at h8
  simpa using h8
theorem IntsR.nilc{W:World}{s:SlV}{l:List Int}(h:IntsR W s l):s.a=none->s.c=0:=fun h0=>by
 rcases h.2 with⟨e1,_⟩|⟨g,cap,cur,e1,_⟩
 ·unfold SlV.v at e1;injection e1
 ·unfold SlV.v at e1;injection e1 with ea;rw[ea] at h0;cases h0
theorem qbk(cs:List ClassD)(s:ByteArray):regN (cs.map (·.name)) s=cIdx cs s:=by
 unfold regN cIdx idxP
 rw[List.findIdx?_map]
 rfl
end Go.Proofs.YtkoloennfejaaaaGreatDoor
