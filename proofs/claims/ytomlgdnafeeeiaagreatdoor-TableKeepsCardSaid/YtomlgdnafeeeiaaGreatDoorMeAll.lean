
import Derived.Test.YtomlgdnafeeeiaaGreatDoorMdZ
/-
 Check,Fits and Pair of any machine that lies in memory,whatever is wrong with it.
-/
namespace Go.Proofs.YtomlgdnafeeeiaaGreatDoor
open Proofs.Tryz
open Go.RowKit
theorem qB.below{W W':World}(hb:BX W W'):∀ {L:qg} {b o:Nat},qB W.heap.size W b o L->qB W'.heap.size W' b o L
 | .nil,_,_,_=>trivial
 | .cons _ _ _ _ _ _,_,_,⟨h1,h2,h3,h4⟩=>⟨vW h1 hb.size,Xm h2 (fun _ _ hv=>qb hb hv),qB.below hb h3,
    h4.imp id fun⟨b',o',c',e1,e2,e3,e4⟩=>⟨b',o',c',e1,e2,e3,qB.below hb e4⟩⟩
def yl(w:World)(s:SlV)(L:qg):Prop:=
 (s=⟨none,0,0⟩/\L = .nil)∨∃b o c,s=⟨some ⟨b,o,none⟩,L.length,c⟩/\qB w.heap.size w b o L/\L.length<=4611686018427387904
structure zP(w:World)(m:MV)(d:qz)(L:qg):Prop where
 env:Env w
 envA:Zi w
 same:m.name=d.name
 result:m.result=d.result
 slots:m.slots=d.slots
 regs:yl w m.regs L
 classes:qS w m.classes d.classes
 ops:jP w m.ops d.ops
 oub:∀o:OpD,o∈d.ops->o.uses.length<=100000
 args:qG w m.args d.args
 saved:qG w m.saved d.saved
def zB(L:qg):Int:=qw qj [] (qH 0 L)
theorem zP.places{w:World}{m:MV}{d:qz}{L:qg}(h:zP w m d L)(W:World)(hb:BX w W) :
 Calls prog 74 #[.slice m.regs.a m.regs.n m.regs.c] W fun e w'=>(zB L=0->jh W (qo 0 L) e w')/\(zB L≠0->Qy W (zB L) e w'):=by
 rcases h.regs with⟨hs,rfl⟩|⟨b,o,c,hs,hL,hl⟩
 ·rw[hs]
  exact(qdu W (h.env.below hb)).mono fun e w' hp=>⟨fun _=>hp,fun hn=>absurd rfl hn⟩
 ·rw[hs]
  exact qfu b o c L W (h.env.below hb) (h.envA.below hb) (fun s V hs hV=>by
   have:=qaE s V ((h.env.below hb).below hV)
   rw[hs] at this;exact this) (hL.below hb) hl
theorem YR{w:World}{b o:Nat}{L:qg}(hL:qB w.heap.size w b o L)(h0:zB L=0):(qo 0 L).length<=200/\∀p,p∈(qo 0 L).map qA.place->xT p:=by
 rcases Qb qj (qH 0 L) [] with⟨_,hgood⟩|⟨pre,p,post,hcut,hgood,hbad,he⟩
 ·have hRall:∀q,q∈qH 0 L->yD q:=qft fun pre p post h hq=>yD.of (QP L b o 0 hL pre p post h hq) (hgood pre p post h)
  have hfew:=Yv (nm:=qj) (l:=qH 0 L) (fun pre q post h=>by simpa using hgood pre q post h)
  refine⟨by rw[←zz];simpa using hfew,fun x hx=>?_⟩
  obtain⟨s,hs,rfl⟩:=List.mem_map.1 hx
  rw[←zz] at hs
  obtain⟨q,hq,rfl⟩:=List.mem_map.1 hs
  obtain⟨pre,post,h⟩:=List.append_of_mem hq
  have hc:=QP L b o 0 hL pre q post h (fun r hr=>hRall r (by rw[h];exact List.mem_append_left _ hr))
  obtain⟨q1,q2,q3,q4,q5⟩:=hRall q hq
  have:=hc.a1;have:=hc.a2;have:=hc.d1
  exact⟨show 0<=q.1.aAt+q.1.at_ by omega,show q.1.aAt+q.1.at_<=1000 by omega,show 1<=q.1.wd by omega,show q.1.wd<=1000 by omega⟩
 ·exfalso
  exact hbad (by rw[←he];exact h0)
theorem zP.read{w:World}{m:MV}{d:qz}{L:qg}(h:zP w m d L)(hn:qj d.name=true)(he:zB L=0)(hne:qo 0 L ≠ []):qgt w m d (qo 0 L):=by
 have hr:(qo 0 L).length<=200/\∀p,p∈(qo 0 L).map qA.place->xT p:=by
  rcases h.regs with⟨_,rfl⟩|⟨b,o,c,_,hL,_⟩
  ·exact absurd rfl hne
  ·exact YR hL he
 exact {
  env:=h.env
  result:=h.result
  slots:=h.slots
  name:=hn
  same:=h.same
  ne:=hne
  few:=hr.1
  ok:=hr.2
  places:=fun W hb=>(h.places W hb).mono fun e w' hp=>hp.1 he
  classes:=h.classes
  ops:=h.ops
  oub:=h.oub
  args:=h.args
  saved:=h.saved }
def jU(d:qz)(L:qg):Int:=if qj d.name=false then 5 else if zB L≠0 then zB L else if qo 0 L = [] then 1 else 0
theorem zP.falls{w:World}{m:MV}{d:qz}{L:qg}(h:zP w m d L)(hx:jU d L≠0)(hn:qj d.name=true)(W:World)(hb:BX w W)(hC:jq W (w.heap.size+1) m.fresh) :
 Calls prog 60 #[.pointer (some ⟨w.heap.size+1,0,none⟩)] W fun e w'=>e = .returned (.int .i64 (jU d L))/\BX w w':=by
 unfold jU at hx ⊢
 rw[if_neg (by simp[hn])] at hx ⊢
 by_cases h1:zB L≠0
 ·rw[if_pos h1] at hx ⊢
  exact qbu (w.heap.size+1) _ _ w W hb (by omega) hC h1 ((h.places W hb).mono fun e w' hp=>hp.2 h1)
 ·have h1:=Classical.not_not.1 h1
  rw[if_neg (by simp[h1])] at hx ⊢
  by_cases h2:qo 0 L = []
  ·rw[if_pos h2]
   exact qby (w.heap.size+1) m w W hb (by omega) hC ((h.places W hb).mono fun e w' hp=>by have:=hp.1 h1;rw[h2] at this;exact this)
  ·rw[if_neg h2] at hx;exact absurd rfl hx
theorem qht{w:World}{m:MV}{d:qz}{L:qg}(h:zP w m d L) :
 Calls prog 30 #[m.val] w fun e w'=>e = .returned (.int .i64 (zV qj d (zB L) ((qo 0 L).map (·.name)) ((qo 0 L).map qA.place)))/\BX w w':=by
 by_cases hx:jU d L=0
 ·have hx':=hx
  unfold jU at hx'
  have hn:qj d.name=true:=by
   cases hn:qj d.name
   ·rw[if_pos hn] at hx';cases hx'
   ·rfl
  rw[if_neg (by simp[hn])] at hx'
  have he:zB L=0:=by
   by_cases he:zB L=0
   ·exact he
   ·rw[if_pos he] at hx';exact hx'
  rw[if_neg (by simp[he])] at hx'
  have hne:qo 0 L ≠ []:=fun h2=>by rw[if_pos h2] at hx';cases hx'
  have:=qfB (h.read hn he hne)
  rw[he];exact this
 ·have hX:zV qj d (zB L) ((qo 0 L).map (·.name)) ((qo 0 L).map qA.place)=jU d L:=by
   have hx':=hx
   unfold jU at hx' ⊢
   unfold zV
   by_cases hn:qj d.name=false
   ·rw[if_pos hn,if_pos hn]
   ·rw[if_neg hn] at hx' ⊢
    rw[if_neg hn]
    by_cases he:zB L≠0
    ·rw[if_pos he,if_pos he]
    ·rw[if_neg he] at hx' ⊢
     rw[if_neg he]
     by_cases h2:qo 0 L = []
     ·rw[if_pos h2,if_pos (by rw[h2];rfl)]
     ·rw[if_neg h2] at hx';exact absurd rfl hx'
  rw[hX]
  refine qhs (qj d.name) (jU d L) hx (fun W hb=>by have:=ZF d.name W (h.env.below hb);rw[h.same];exact this) (fun hn=>?_) (fun hn W hb hC=>h.falls hx hn W hb hC)
  unfold jU
  rw[if_pos hn]
def qC(L:qg):List ByteArray:=(qo 0 L).map fun x:qA=>x.name
def qQ(L:qg):List Plc:=(qo 0 L).map qA.place
end Go.Proofs.YtomlgdnafeeeiaaGreatDoor
