/-
  MdcheckChecks and MdcheckFits answer true, of any description that is read in memory: the walks.
-/
import Derived.Test.YtkoloennfejaaaaGreatDoorBiP
import Derived.Test.YtkoloennfejaaaaGreatDoorRefThree
namespace Go.Proofs.YtkoloennfejaaaaGreatDoor
open Go.RowKit
theorem qZ.below{W W':World}(hb:Below W.heap.size W W'):∀ {L:RegL} {b o:Nat},qZ W.heap.size W b o L->qZ W'.heap.size W' b o L
 | .nil,_,_,_=>trivial
 | .cons _ _ _ _ _ _,_,_,⟨h1,h2,h3,h4,h5⟩=>⟨Nat.lt_of_lt_of_le h1 hb.size,yT h2 (fun _ _ hv=>cell_below hb hv),h3,qZ.below hb h4,
    h5.imp id fun⟨b',o',c',e1,e2,e3,e4⟩=>⟨b',o',c',e1,e2,e3,qZ.below hb e4⟩⟩
theorem Xb.below{w w':World}{m:MV}{d:MachD}{L:RegL}(h:Xb w m d L)(hb:Below w.heap.size w w'):Xb w' m d L:=
 { h with regs:=⟨h.regs.1,h.regs.2.1,h.regs.2.2.1,h.regs.2.2.2.1,fun b o ha=>(h.regs.2.2.2.2 b o ha).below hb⟩,classes:=h.classes.below hb,ops:=h.ops.below hb,args:=h.args.below hb,saved:=h.saved.below hb }
theorem MachAt.below{w w':World}{m:MV}{d:MachD}{L:RegL}(h:MachAt w m d L)(hb:Below w.heap.size w w'):MachAt w' m d L:=
 { h with env:=h.env.below hb,envA:=h.envA.below hb,regs:=h.regs.below hb,classes:=h.classes.below hb,ops:=h.ops.below hb,args:=h.args.below hb,saved:=h.saved.below hb }
theorem qhD{w:World}{m:MV}{d:MachD}{L:RegL}(hE:Env w)(hA:Zd w)(h:Xb w m d L)(hN:Nb2 w m.regs.a d L):MachAt w m d L where
 env:=hE
 envA:=hA
 same:=h.same
 result:=h.result
 slots:=h.slots
 regs:=by
  obtain⟨h1,h2,h3,h4,h5⟩:=h.regs
  rcases h.spot with hs|⟨b,o,hs⟩
  ·rcases h4 with⟨h6,h7⟩|⟨b,o,h6⟩
   ·refine .inl ⟨?_,?_⟩
    ·have:m.regs=⟨m.regs.a,m.regs.n,m.regs.c⟩:=rfl
     rw[this,hs,h6,h7]
    ·cases L with
     | nil=>rfl
     | cons=>simp[RegL.length] at h1;omega
   ·rw[hs] at h6;cases h6
  ·refine .inr ⟨b,o,m.regs.c,?_,hN.1.1.1 b o hs,by omega⟩
   have:m.regs=⟨m.regs.a,m.regs.n,m.regs.c⟩:=rfl
   rw[this,hs,h1]
 classes:=h.classes
 ops:=h.ops
 oub:=fun o ho=>by have:=(hN.2.2 o ho).2;omega
 args:=h.args
 saved:=h.saved
theorem qhE{w:World}{m:MV}{d:MachD}{L:RegL}(h:Xb w m d L)(hN:Nb2 w m.regs.a d L):yy w m d where
 kls:=h.classes
 ops:=h.ops
 args:=h.args
 saved:=h.saved
 res:=h.result
 sl:=h.slots
 kb:=by have:=hN.1.2.1;omega
 ob:=by have:=hN.2.1;omega
 ab:=by have:=hN.1.1.2.1;omega
 sb:=by have:=hN.1.1.2.2;omega
 rb:=fun k hk=>by have:=hN.1.2.2 k hk;omega
 cb:=fun o ho=>by have:=(hN.2.2 o ho).1;omega
 ub:=fun o ho=>by have:=(hN.2.2 o ho).2;omega
end Go.Proofs.YtkoloennfejaaaaGreatDoor
