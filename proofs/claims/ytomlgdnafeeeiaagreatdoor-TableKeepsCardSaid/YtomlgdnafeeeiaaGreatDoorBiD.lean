
import Derived.Test.YtomlgdnafeeeiaaGreatDoorBiP
import Derived.Test.YtomlgdnafeeeiaaGreatDoorRefThree
/-
 MdcheckChecks and MdcheckFits answer true,of any description that is read in memory: the walks.
-/
namespace Go.Proofs.YtomlgdnafeeeiaaGreatDoor
open Go.RowKit
theorem xE.below{W W':World}(hb:BX W W'):∀ {L:qg} {b o:Nat},xE W.heap.size W b o L->xE W'.heap.size W' b o L
 | .nil,_,_,_=>trivial
 | .cons _ _ _ _ _ _,_,_,⟨h1,h2,h3,h4,h5⟩=>⟨vW h1 hb.size,Xm h2 (fun _ _ hv=>qb hb hv),h3,xE.below hb h4,
    h5.imp id fun⟨b',o',c',e1,e2,e3,e4⟩=>⟨b',o',c',e1,e2,e3,xE.below hb e4⟩⟩
theorem Xf.below{w w':World}{m:MV}{d:qz}{L:qg}(h:Xf w m d L)(hb:BX w w'):Xf w' m d L:=
 { h with regs:=⟨h.regs.1,h.regs.2.1,h.regs.2.2.1,h.regs.2.2.2.1,fun b o ha=>(h.regs.2.2.2.2 b o ha).below hb⟩,classes:=h.classes.below hb,ops:=h.ops.below hb,args:=h.args.below hb,saved:=h.saved.below hb }
theorem zP.below{w w':World}{m:MV}{d:qz}{L:qg}(h:zP w m d L)(hb:BX w w'):zP w' m d L:=
 { h with env:=h.env.below hb,envA:=h.envA.below hb,regs:=h.regs.below hb,classes:=h.classes.below hb,ops:=h.ops.below hb,args:=h.args.below hb,saved:=h.saved.below hb }
theorem qhE{w:World}{m:MV}{d:qz}{L:qg}(hE:Env w)(hA:Zi w)(h:Xf w m d L)(hN:Nb2 w m.regs.a d L):zP w m d L where
 env:=hE
 envA:=hA
 same:=h.same
 result:=h.result
 slots:=h.slots
 regs:=by
  obtain⟨h1,h2,h3,h4,h5⟩:=h.regs
  rcases h.spot with hs|⟨b,o,hs⟩
  ·rcases h4 with⟨h6,h7⟩|⟨b,o,h6⟩
   ·refine .inl ⟨?_,?_⟩
    ·have:m.regs=⟨m.regs.a,m.regs.n,m.regs.c⟩:=rfl
     rw[this,hs,h6,h7]
    ·cases L with
     | nil=>rfl
     | cons=>simp[qg.length] at h1;omega
   ·rw[hs] at h6;cases h6
  ·refine .inr ⟨b,o,m.regs.c,?_,hN.1.1.1 b o hs,by omega⟩
   have:m.regs=⟨m.regs.a,m.regs.n,m.regs.c⟩:=rfl
   rw[this,hs,h1]
 classes:=h.classes
 ops:=h.ops
 oub:=fun o ho=>by have:=(hN.2.2 o ho).2;omega
 args:=h.args
 saved:=h.saved
theorem qhF{w:World}{m:MV}{d:qz}{L:qg}(h:Xf w m d L)(hN:Nb2 w m.regs.a d L):Zc w m d where
 kls:=h.classes
 ops:=h.ops
 args:=h.args
 saved:=h.saved
 res:=h.result
 sl:=h.slots
 kb:=by have:=hN.1.2.1;omega
 ob:=by have:=hN.2.1;omega
 ab:=by have:=hN.1.1.2.1;omega
 sb:=by have:=hN.1.1.2.2;omega
 rb:=fun k hk=>by have:=hN.1.2.2 k hk;omega
 cb:=fun o ho=>by have:=(hN.2.2 o ho).1;omega
 ub:=fun o ho=>by have:=(hN.2.2 o ho).2;omega
theorem qeq{w w':World}{m:MV}{d:qz}{L:qg}{e:Ending}(h:qcn w m d L e w'):∃p,e = .returned (.tuple #[.pointer p,.int .i64 (yu d L)])/\BX w w':=by
 obtain⟨h1,h2,h3⟩:=h
 by_cases h0:yu d L=0
 ·obtain⟨T,nV,pV,cV,he,_⟩:=h2 h0
  exact⟨_,by rw[he,h0],h1⟩
 ·exact⟨_,h3 h0,h1⟩
end Go.Proofs.YtomlgdnafeeeiaaGreatDoor
