
import Derived.Test.YtomlgdnafeeeiaaGreatDoorTiC
import Derived.Test.YtomlgdnafeeeiaaGreatDoorTeB
/-
 What is left when a copy of a description is spoilt: both tables.
-/
namespace Go.Proofs.YtomlgdnafeeeiaaGreatDoor
open Go.RowKit
def MTs:List TypeId:=[40,42,9,47,44]
structure Sp(ts:List TypeId)(lo hi:Nat)(V W:World):Prop where
 os:W.os=V.os
 tape:W.tape=V.tape
 output:W.output=V.output
 size:W.heap.size=V.heap.size
 out:∀b,b<lo∨hi<=b->W.heap[b]?=V.heap[b]?
 stay:∀b t cs,t∉ts->qd V b t cs->qd W b t cs
 cells:∀b t cs,qd V b t cs->∃cs',qd W b t cs'/\cs'.size=cs.size
theorem Sp.refl(ts:List TypeId)(lo hi:Nat)(V:World):Sp ts lo hi V V:=⟨rfl,rfl,rfl,rfl,fun _ _=>rfl,fun _ _ _ _ h=>h,fun _ _ cs h=>⟨cs,h,rfl⟩⟩
theorem Sp.set{ts:List TypeId}{lo hi:Nat}{V W:World}(h:Sp ts lo hi V W){b:Nat}{t:TypeId}{cs:Array Value}(hc:qd V b t cs)(ht:t∈ts)(h1:lo<=b)(h2:b<hi)(j:Nat)(v:Value):Sp ts lo hi V (W.setCell ⟨b,j,none⟩ v) where
 os:=h.os
 tape:=h.tape
 output:=h.output
 size:=by rw[World.size_setCell];exact h.size
 out:=fun k hk=>(Below.heap_setCell W ⟨b,j,none⟩ v k (by dsimp only;omega)).trans (h.out k hk)
 stay:=fun k t' cs' ht' hc'=>(h.stay k t' cs' ht' hc').other (fun e=>by
  subst e
  have:=(show _=_ from hc').symm.trans hc
  cases this
  exact ht' ht) v
 cells:=fun k t' cs' hc'=>by
  obtain⟨c2,h3,h4⟩:=h.cells k t' cs' hc'
  by_cases hk:k=b
  ·subst hk
   exact⟨_,h3.set v,by rw[Array.size_setIfInBounds];exact h4⟩
  ·exact⟨c2,h3.other hk v,h4⟩
theorem Sp.more{ts ts':List TypeId}{lo hi:Nat}{V W:World}(h:Sp ts lo hi V W)(hs:∀t,t∈ts->t∈ts'):Sp ts' lo hi V W:=⟨h.os,h.tape,h.output,h.size,h.out,fun b t cs ht hc=>h.stay b t cs (fun hm=>ht (hs t hm)) hc,h.cells⟩
theorem Sp.cell{ts:List TypeId}{lo hi:Nat}{V W:World}(h:Sp ts lo hi V W){b j:Nat}{v:Value}(hb:b<lo∨hi<=b)(hc:V.cell? ⟨b,j,none⟩=some v):W.cell? ⟨b,j,none⟩=some v:=(World.cell?_of_block (w:=V) (a:=⟨b,j,none⟩) (h.out b hb)).trans hc
theorem Sp.below{ts:List TypeId}{lo hi:Nat}{V W:World}(h:Sp ts lo hi V W):Below lo V W:=⟨h.os,h.tape,h.output,by rw[h.size];exact vL _,fun k hk=>h.out k (.inl hk)⟩
theorem Sp.ag{ts:List TypeId}{lo hi:Nat}{V W:World}(h:Sp ts lo hi V W):Ag hi V W:=⟨fun b h1 _=>h.out b (.inr h1),by rw[h.size];exact vL _⟩
theorem Sp.stays{ts:List TypeId}{lo hi:Nat}{V W:World}(h:Sp ts lo hi V W):qt ts V W:=⟨by rw[h.size];exact vL _,h.stay⟩
theorem yb.ag{lo:Nat}{A B:World}{m:MV}{d:qz}{M:qg}(h:yb lo A m d M)(g:Ag lo A B):yb lo B m d M:=fun W2 hag hsz e1 e2=>
 h W2 (fun b h1 h2=>(hag b h1 (by have:=g.2;omega)).trans (g.1 b h1 h2)) (vR g.2 hsz) e1 e2
theorem Ag.up{lo lo':Nat}{A B:World}(h:Ag lo A B)(hb:lo<=lo'):Ag lo' A B:=⟨fun b h1 h2=>h.1 b (vR hb h1) h2,h.2⟩
theorem xI.ag{base:Nat}{A B:World}{v:Option Nat}{l:List ByteArray}(h:xI base A v l)(g:Ag base A B):xI base B v l:=
 h.imp id fun⟨b,D,h1,h2,h3,h4⟩=>⟨b,D,h1,h2,Qm h3 (g.1 b h2 h3.lt),h4⟩
theorem yB.sp{base lo hi:Nat}{V W:World}{C:Nat}{d:qz}{L M:qg}{tb:TB}{rl:List qY}{cl:List zZ}{ol:List OpT}(h:yB base V C d L M tb rl cl ol)(hs:Sp MTs lo hi V W)(hb:hi<=base)(e1:Env W)(e2:Zi W):yB base W C d L M tb rl cl ol:=by
 have g:=hs.ag.up hb
 have st:=hs.stays
 have hf:=h.fresh.ag g
 refine⟨st.block _ _ _ (by decide) h.tab,hf.at_ e1 e2,h.cap,h.like,⟨g.row h.regs.row (vL _),h.regs.map.ag g,h.regs.names,h.regs.places⟩,fun x hx=>st.set (h.laps x hx) (by decide),⟨g.row h.cls.row (vL _),h.cls.map.ag g,h.cls.len,fun i x k hx hk=>?_⟩,⟨g.row h.ops.row (vL _),h.ops.map.ag g,h.ops.len,fun i x k hx hk=>?_⟩,st.row h.args (by decide),h.result,st.row h.saved (by decide),st.set h.surv (by decide),hf⟩
 ·obtain⟨h1,h2,h3⟩:=h.cls.each i x k hx hk
  exact⟨st.row h1 (by decide),st.set h2 (by decide),h3⟩
 ·obtain⟨h1,h2,h3⟩:=h.ops.each i x k hx hk
  exact⟨h1.stays st (by decide) (by decide),h2,st.row h3 (by decide)⟩
theorem zW.sp{ts:List TypeId}{V W:World}{s:SlV}{ls:List (List Int)}(h:zW V s ls)(st:qt ts V W)(h1:55∉ts)(h2:3∉ts):zW W s ls:=by
 obtain⟨vs,g1,g2,g3⟩:=h
 exact⟨vs,g1,st.row g2 h1,fun i v l hv hl=>⟨st.row (g3 i v l hv hl).1 h2,(g3 i v l hv hl).2⟩⟩
theorem jn.sp{lo hi:Nat}{w0 w1 V W:World}{T:Nat}{t:TV}{d:qz}{ns:List ByteArray}{ps:List Plc}(h:jn w1 V T t d ns ps)(hI:Zc w0 t.m d)(h01:BX w0 w1)(hs:Sp MTs lo hi V W)(hl:w0.heap.size<=lo)(hh:hi<=w1.heap.size):jn w0 W T t d ns ps:=by
 have hV:BX w0 V:=h01.trans (h.below.mono h01.size)
 have g:=hs.ag
 exact⟨hV.trans (hs.below.mono hl),vR h01.size h.base,g.cells h.tab (vR hh h.base),qm (g.row h.names hh) h01.size,qm (g.row h.places hh) h01.size,h.few,h.same,h.ok,hI⟩
def YG(lo hi:Nat)(V:World)(t:TypeId)(size:Nat)(a:Option Addr)(n:Nat):Prop:=n=0∨∃ (g:Nat) (cs:Array Value),a=some ⟨g,0,none⟩/\lo<=g/\g<hi/\qd V g t cs/\n*size<=cs.size
theorem YG.of{lo:Nat}{A V:World}{t:TypeId}{size n c:Nat}{a:Option Addr}{xs:List Value}(h:A.ownsRow lo t size (.slice a n c) n xs)(hb:BX A V):YG lo A.heap.size V t size a n:=by
 rcases h.2 with⟨_,h2⟩|⟨g,cap,cur,h1,h2,h3,h4,_,h6,_⟩
 ·exact .inl h2
 ·injection h1 with e1 _ _
  have hc:qd A g t cur:=h3
  exact .inr ⟨g,cur,e1,h2,hc.lt,hc.below hb hc.lt,by rw[h6];exact Nat.mul_le_mul_right _ h4⟩
theorem yB.relike{base:Nat}{W:World}{C:Nat}{d:qz}{L L' M:qg}{tb:TB}{rl:List qY}{cl:List zZ}{ol:List OpT}(h:yB base W C d L' M tb rl cl ol)(hl:L.Like L'):yB base W C d L M tb rl cl ol:=by
 have e1:qC L'=qC L:=(Ya hl).symm
 have e2:qQ L'=qQ L:=(qaU hl).symm
 have g1:=h.regs
 have g2:=h.laps
 have g3:=h.cls
 have g4:=h.ops
 have g5:=h.args
 have g6:=h.result
 have g7:=h.saved
 have g8:=h.surv
 rw[e1,e2] at g1 g3 g4 g8
 rw[e2] at g2
 rw[e1] at g5 g6 g7
 exact⟨h.tab,h.mach,h.cap,hl.trans h.like,g1,g2,g3,g4,g5,g6,g7,g8,h.fresh⟩
end Go.Proofs.YtomlgdnafeeeiaaGreatDoor
