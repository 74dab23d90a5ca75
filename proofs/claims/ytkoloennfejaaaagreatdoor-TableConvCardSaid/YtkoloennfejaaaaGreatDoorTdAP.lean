/-
  law7's example as a machine.
-/
import Derived.Test.YtkoloennfejaaaaGreatDoorTcYP
import Derived.Test.YtkoloennfejaaaaGreatDoorGeoH
import Derived.Test.YtkoloennfejaaaaGreatDoorSmOne
set_option maxRecDepth 100000
namespace Go.Proofs.YtkoloennfejaaaaGreatDoor
open Go.RowKit
def L8(X:Nat):RegL:=.cons (yL 0) 8 0 (.slice none 0 0) .nil (.cons (yL 1) 8 0 (.slice none 0 0) .nil (.cons (yL 2) 8 0 (.slice none 0 0) .nil (qid X)))
theorem make8(X:Nat):makeE (smD 3 0) (L8 X)=0:=by kernel_rfl
theorem qie(X:Nat):QH (fun n:Nat=>xC (plsL (L8 X)) 5 n) = [3,4,5,6,7]:=by
 have:plsL (L8 X)=plsL (L8 0):=by kernel_rfl
 rw[this]
 decide +kernel
theorem qif(X:Nat):QH (fun n:Nat=>xC (plsL (L8 X)) 6 n) = [3,4,5,6]:=by
 have:plsL (L8 X)=plsL (L8 0):=by kernel_rfl
 rw[this]
 decide +kernel
theorem qig(X:Nat):(plsL (L8 X)).length=8:=by kernel_rfl
def mv8(N g cap:Nat):MV:=⟨⟨#[109]⟩,⟨some ⟨g,0,none⟩,4,cap⟩,⟨some ⟨N,0,none⟩,1,1⟩,⟨some ⟨N+1+1+1+1+1,0,none⟩,3,3⟩,⟨some ⟨N+1+1+1+1+1+1,0,none⟩,1,1⟩,⟨#[114,48,48]⟩,⟨none,0,0⟩,100⟩
theorem qhz{W:World}{base g cap X:Nat}(hr:W.ownsRow base 68 4 (.slice (some ⟨g,0,none⟩) 4 cap) 4 (xx 3++[.string ⟨#[114,97,120]⟩,.int .i64 64,.int .i64 0,.slice (some ⟨X+1+1,0,none⟩) 1 1]))(hX:Zw X W) :
 ql W.heap.size W g 0 (L8 X):=by
 have hg:g<W.heap.size:=by
  obtain⟨_,cur,hc⟩:=qd hr rfl
  exact hc.lt
 exact⟨hg,⟨qi hr rfl,qi hr rfl,qi hr rfl,qi hr rfl⟩,
  ⟨hg,⟨qi hr rfl,qi hr rfl,qi hr rfl,qi hr rfl⟩,
   ⟨hg,⟨qi hr rfl,qi hr rfl,qi hr rfl,qi hr rfl⟩,
    ⟨hg,⟨qi hr rfl,qi hr rfl,qi hr rfl,qi hr rfl⟩,trivial,hX.subs⟩,
    .inl ⟨⟨none,rfl⟩,rfl⟩⟩,
   .inl ⟨⟨none,rfl⟩,rfl⟩⟩,
  .inl ⟨⟨none,rfl⟩,rfl⟩⟩
theorem qgM{w W1 W:World}{N g cap X:Nat}{v u:SlV}(hS:Zi w 3 N v u W1)(hs:Stays [68,27] W1 W)(hE:Env W)(hA:Zd W)(hR:ql W.heap.size W g 0 (L8 X)) :
 MachAt W (mv8 N g cap) (smD 3 0) (L8 X):=by
 have hk:=hs.block _ _ _ (by decide) hS.c
 have h0:=hs.block _ _ _ (by decide) hS.u0
 have h1:=hs.block _ _ _ (by decide) hS.u1
 have h2:=hs.block _ _ _ (by decide) hS.u2
 have ho:=hs.block _ _ _ (by decide) hS.o
 have ha:=hs.block _ _ _ (by decide) hS.a
 have hn:StrsAt W u (sNames 3):=by
  have h2:W.ownsRow w.heap.size 9 1 u.v 3 ((sNames 3).map Value.string):=hs.row hS.names (by decide)
  exact StrsAt.of_row h2 (by rw[JE])
 exact {
  env:=hE
  envA:=hA
  same:=rfl
  result:=rfl
  slots:=rfl
  regs:=.inr ⟨g,0,cap,rfl,hR,by show(4:Nat)<=_;omega⟩
  classes:=⟨rfl,Nat.le_refl _,fun j x hj=>⟨N,0,rfl,u,by
   match j,hj with
   | 0,hj=>cases hj;exact⟨hk.cell (j:=0) rfl,hk.cell (j:=1) rfl,hn⟩
   | j+1,hj=>simp[smD] at hj⟩⟩
  ops:=⟨rfl,Nat.le_refl _,fun j x hj=>⟨N+1+1+1+1+1,0,rfl,by
   match j,hj with
   | 0,hj=>cases hj;exact⟨⟨some ⟨N+1+1,0,none⟩,2,2⟩,⟨none,0,0⟩,ho.cell (j:=0) rfl,ho.cell (j:=1) rfl,ho.cell (j:=2) rfl,ho.cell (j:=3) rfl,ho.cell (j:=4) rfl,ho.cell (j:=5) rfl,qaw h0,Xv W⟩
   | 1,hj=>cases hj;exact⟨⟨some ⟨N+1+1+1,0,none⟩,1,1⟩,⟨none,0,0⟩,ho.cell (j:=6) rfl,ho.cell (j:=7) rfl,ho.cell (j:=8) rfl,ho.cell (j:=9) rfl,ho.cell (j:=10) rfl,ho.cell (j:=11) rfl,qeV h1,Xv W⟩
   | 2,hj=>cases hj;exact⟨⟨some ⟨N+1+1+1+1,0,none⟩,2,2⟩,⟨none,0,0⟩,ho.cell (j:=12) rfl,ho.cell (j:=13) rfl,ho.cell (j:=14) rfl,ho.cell (j:=15) rfl,ho.cell (j:=16) rfl,ho.cell (j:=17) rfl,qaw h2,Xv W⟩
   | j+3,hj=>simp[smD] at hj⟩⟩
  oub:=fun o ho=>by
   have:o=qeT 0∨o=qeU∨o=opDiv:=by simpa[smD] using ho
   rcases this with rfl|rfl|rfl
   ·show 2<=100000;omega
   ·show 1<=100000;omega
   ·show 2<=100000;omega
  args:=⟨rfl,Nat.le_refl _,fun j x hj=>⟨N+1+1+1+1+1+1,0,rfl,by
   match j,hj with
   | 0,hj=>cases hj;exact ha.cell (j:=0) rfl
   | j+1,hj=>simp[smD] at hj⟩⟩
  saved:=Xv W }
theorem qhR:jW (smD 3 0) where
 name:=by show(1:Nat)<=_;decide
 result:=by unfold Fit48;show nmR.size<=_;decide +kernel
 classes:=fun k hk=>by
  obtain rfl:k=clG 3:=by simpa[smD] using hk
  refine⟨by unfold Fit48;show nmG.size<=_;decide +kernel,fun s hs=>?_⟩
  have:∀s,s∈sNames 3->s.size<=281474976710656:=by decide +kernel
  exact this s hs
 ops:=fun o ho=>by
  have:o=qeT 0∨o=qeU∨o=opDiv:=by simpa[smD] using ho
  have hf:OperFit opG:=⟨by unfold Fit48;decide +kernel,by unfold Fit48;decide +kernel⟩
  have h1:∀u,u ∈ [opG,opG]->OperFit u:=fun u hu=>by
   have:u=opG:=by simpa using hu
   rw[this];exact hf
  have h2:∀u,u ∈ [opG]->OperFit u:=fun u hu=>by
   have:u=opG:=by simpa using hu
   rw[this];exact hf
  have h3:∀s:ByteArray,s∈([]:List ByteArray)->Fit48 s:=fun s hs=>by cases hs
  rcases this with rfl|rfl|rfl
  ·exact⟨by unfold Fit48;decide +kernel,hf,h1,h3⟩
  ·exact⟨by unfold Fit48;decide +kernel,hf,h2,h3⟩
  ·exact⟨by unfold Fit48;decide +kernel,hf,h1,h3⟩
 args:=fun s hs=>by
  obtain rfl:s=nmR:=by simpa[smD] using hs
  unfold Fit48;decide +kernel
 saved:=fun s hs=>by simp[smD] at hs
end Go.Proofs.YtkoloennfejaaaaGreatDoor
