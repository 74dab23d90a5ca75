
import Derived.Test.YtomlgdnafeeeiaaGreatDoorTcA
import Derived.Test.YtomlgdnafeeeiaaGreatDoorTcDP
set_option maxHeartbeats 8000000
set_option maxRecDepth 100000
/-
 table's copy of registers and of a machine.
-/
namespace Go.Proofs.YtomlgdnafeeeiaaGreatDoor
open Proofs.Tryz
open Go.RowKit
theorem qaW:(prog.info? 40).map (fun i=>(i.zero,i.size,i.bytes))=some (some (.agg #[.string ⟨#[]⟩,.int .i64 0,.int .i64 0,.slice none 0 0]),4,56):=by kernel_rfl
def YV(w:World)(L:qg)(e:Ending)(w':World):Prop:=
 ∃ (s:SlV) (M:qg),e = .returned (.slice s.a s.n s.c)/\BX w w'/\L.Like M/\xX (fun k=>w.heap.size<=k/\k<w'.heap.size) w' s.v M
def XS(N:Nat):Prop:=
 ∀ (L:qg) (a:Option Addr) (n c:Nat) (w:World),L.total<N->L.total<=1000->qM w.heap.size w (.slice a n c) L->L.AllN zy ->
  Calls prog 67 #[.slice a n c,.func (.func 68) #[] #[]] w (YV w L)
theorem qM.below{W W':World}{v:Value}{L:qg}(h:qM W.heap.size W v L)(hb:BX W W'):qM W'.heap.size W' v L:=
 h.elim .inl (fun⟨b',o',c',e,h1,h2,h3⟩=>.inr ⟨b',o',c',e,h1,h2,qB.below hb h3⟩)
theorem qkJ(N:Nat)(ih:XS N)(nm:ByteArray)(wd at_:Int)(a:Option Addr)(n c:Nat)(L:qg)(w:World)(h1:L.total<N)(h2:L.total<=1000)(hs:qM w.heap.size w (.slice a n c) L)(hf:zy nm)(hN:L.AllN zy) :
 Calls prog 68 #[.agg #[.string nm,.int .i64 wd,.int .i64 at_,.slice a n c]] w fun e w'=>∃ (s:SlV) (M:qg),e = .returned (.agg #[.string nm,.int .i64 wd,.int .i64 at_,.slice s.a s.n s.c])/\BX w w'/\L.Like M/\xX (fun k=>w.heap.size<=k/\k<w'.heap.size) w' s.v M:=by
 unfold zy at hf
 obtain⟨w0,hw0⟩:∃w0,w0=(w.alloc (.cells #[.string nm,.int .i64 wd,.int .i64 at_,.slice a n c] 40)).alloc (.cells #[.string ⟨#[]⟩,.int .i64 0,.int .i64 0,.slice none 0 0] 40):=⟨_,rfl⟩
 have hB0:BX w w0:=by rw[hw0];exact qi.alloc (by simp) _
 have hc1:qd w0 w.heap.size 40 #[.string nm,.int .i64 wd,.int .i64 at_,.slice a n c]:=by rw[hw0];exact(qd.new w _ _).alloc _
 have hc2:qd w0 (w.heap.size+1) 40 #[.string ⟨#[]⟩,.int .i64 0,.int .i64 0,.slice none 0 0]:=by
  have:=qd.new (w.alloc (.cells #[.string nm,.int .i64 wd,.int .i64 at_,.slice a n c] 40)) 40 #[.string ⟨#[]⟩,.int .i64 0,.int .i64 0,.slice none 0 0]
  rw[hw0];simpa using this
 have hlt2:w.heap.size+1<w0.heap.size:=hc2.lt
 have hread:∀W,BX w0 W->W.cell? ⟨w.heap.size,0,none⟩=some (.string nm)/\W.cell? ⟨w.heap.size,1,none⟩=some (.int .i64 wd)/\W.cell? ⟨w.heap.size,2,none⟩=some (.int .i64 at_)/\W.cell? ⟨w.heap.size,3,none⟩=some (.slice a n c)/\(W.frozen? ⟨w.heap.size,0,none⟩=false/\W.frozen? ⟨w.heap.size,3,none⟩=false)/\qd W w.heap.size 40 #[.string nm,.int .i64 wd,.int .i64 at_,.slice a n c]/\qd W (w.heap.size+1) 40 #[.string ⟨#[]⟩,.int .i64 0,.int .i64 0,.slice none 0 0]:=fun W hb=>by
  have x:=hc1.below hb hc1.lt
  have y:=hc2.below hb hc2.lt
  exact⟨x.cell rfl,x.cell rfl,x.cell rfl,x.cell rfl,⟨x.frozen 0,x.frozen 3⟩,x,y⟩
 have hA:BX w0 w0.drew:=(kB _ _).drew
 have KE:=fun W (hb:BX w0 W)=>ih L a n c W h1 h2 (hs.below (hB0.trans (hb.mono hB0.size))) hN
 obtain⟨q0,q1,q2,q3,⟨q4,q5⟩,_,_⟩:=hread w0 (kB _ _)
 replace hread:=vH hread
 replace KE:=vH KE
 clear hs hN ih hc1 hc2 h1 h2
 go_enter func68,ntmps68
 go_wp2_with fail
 rw[←hw0]
 clear hw0
 go_region_law (first
  |(go_simp;go_at_call 66;refine(yL _ _ hf).mono ?_;rintro e W1 ⟨rfl,hb1⟩;have hA1:=hA.trans (hb1.mono hA.size);obtain⟨r0,r1,r2,r3,⟨r4,r5⟩,_,_⟩:=hread.out _ hA1)
  |(go_simp;go_at_call 67;refine(KE.out _ hA1).mono ?_;rintro e W2 ⟨⟨sa,sn,sc⟩,M,rfl,hb2,hlk,hin⟩;have hA2:=hA1.trans (hb2.mono hA1.size);obtain⟨u0,u1,u2,u3,⟨u4,u5⟩,u6,u7⟩:=hread.out _ hA2;have hW1:=hA1.size;replace hin:=vH hin;replace u6:=vH u6;replace u7:=vH u7))
 all_goals
  have hC3:=(u6.out.set (j:=0) (.string nm)).set (j:=3) (.slice sa sn sc)
  have hr3:=(u7.out.other (T:=w.heap.size) (j:=0) (by omega) (.string nm)).other (T:=w.heap.size) (j:=3) (by omega) (.slice sa sn sc)
  have v0:=hC3.cell (j:=0) (v:=.string nm) rfl
  have v1:=hC3.cell (j:=1) (v:=.int .i64 wd) rfl
  have v2:=hC3.cell (j:=2) (v:=.int .i64 at_) rfl
  have v3:=hC3.cell (j:=3) (v:=.slice sa sn sc) rfl
  have z0:=hr3.cell (j:=0) (v:=.string ⟨#[]⟩) rfl
  have z1:=hr3.cell (j:=1) (v:=.int .i64 0) rfl
  have z2:=hr3.cell (j:=2) (v:=.int .i64 0) rfl
  have z3:=hr3.cell (j:=3) (v:=.slice none 0 0) rfl
  have z4:=fun j=>hr3.frozen j
  have hb3:BX w0 W2:=hA2
  have hg3:W2.grownBy ((W2.setCell ⟨w.heap.size,0,none⟩ (.string nm)).setCell ⟨w.heap.size,3,none⟩ (.slice sa sn sc)) (some w.heap.size):=(qZ _ _ _ _).trans (qZ _ _ _ _)
  have hbB3:BX w ((W2.setCell ⟨w.heap.size,0,none⟩ (.string nm)).setCell ⟨w.heap.size,3,none⟩ (.slice sa sn sc)):=((hB0.trans (hA2.mono hB0.size)).setCell (p:=⟨w.heap.size,0,none⟩) (vL _) _).setCell (p:=⟨w.heap.size,3,none⟩) (vL _) _
  have hin3:xX (fun k=>w0.heap.size<=k/\k<W2.heap.size) ((W2.setCell ⟨w.heap.size,0,none⟩ (.string nm)).setCell ⟨w.heap.size,3,none⟩ (.slice sa sn sc)) (.slice sa sn sc) M:=
   hin.out.of (fun k hk=>⟨vR hW1 hk.1,hk.2⟩) (fun k j v hk hc=>by
    rw[World.cell?_setCell_other _ _ _ _ (fun e=>by have:=congrArg Addr.block e;dsimp only at this;omega),World.cell?_setCell_other _ _ _ _ (fun e=>by have:=congrArg Addr.block e;dsimp only at this;omega)]
    exact hc)
  have hsz3:((W2.setCell ⟨w.heap.size,0,none⟩ (.string nm)).setCell ⟨w.heap.size,3,none⟩ (.slice sa sn sc)).heap.size=W2.heap.size:=by rw[World.size_setCell,World.size_setCell]
  replace hin3:=vH hin3
  replace hr3:=vH hr3
  clear hC3 hin u6 u7 hg3
  generalize(W2.setCell ⟨w.heap.size,0,none⟩ (.string nm)).setCell ⟨w.heap.size,3,none⟩ (.slice sa sn sc)=W3 at *
  go_wp2_with fail
  refine bodyPost_ret (v:=.agg #[.string nm,.int .i64 wd,.int .i64 at_,.slice sa sn sc]) ?_ rfl ⟨⟨sa,sn,sc⟩,M,rfl,?_,hlk,?_⟩
  ·rw[qO rfl]
   go_simp
  ·(repeat' (first|exact hbB3|refine Below.setCell ?_ (by simp) _))
  ·refine hin3.out.of (fun k hk=>⟨by omega,by simp only[World.size_setCell];omega⟩) (fun k j v hk hc=>?_)
   (repeat' (first|exact hc|(rw[World.cell?_setCell_other _ _ _ _ (fun e=>by have:=congrArg Addr.block e;dsimp only at this;omega)])))
def jA(x:YD):List Value:=[.string x.name,.int .i64 x.wd,.int .i64 x.at_,x.sv]
theorem qcY(N:Nat)(ih:XS N):XS (N+1):=by
 intro L a n c w h1 h2 hs hN
 have hln:n=L.length:=by
  rcases hs with⟨⟨a',e⟩,rfl⟩|⟨b',o',c',e,_⟩
  ·injection e with _ e2 _
  ·injection e with _ e2 _
 subst hln
 have hlt0:=qg.length_total L
 have hcap:L.length<=c:=by
  rcases hs with⟨⟨a',e⟩,rfl⟩|⟨b',o',c',e,g1,_⟩
  ·exact vO _
  ·injection e with _ _ e3
   omega
 have hget:∀W,BX w W->∀i x,L.toL[i]?=some x->∃b o,a=some ⟨b,o,none⟩/\yW W b (o+i*4) ⟨x.name,x.wd,x.at_,x.sv⟩/\qM W.heap.size W x.sv x.subs:=fun W hb i x hx=>by
  rcases hs with⟨_,rfl⟩|⟨b',o',c',e,_,_,g3⟩
  ·simp[qg.toL] at hx
  ·injection e with e1 _ _
   obtain⟨_,r1,r2⟩:=qB.get (qB.below hb g3) hx
   exact⟨b',o',e1,r1,r2⟩
 replace hget:=vH hget
 have hN':=vH hN
 clear hs hN
 go_enter func67,ntmps67
 go_wp2_with fail
 go_loopw [5,10] (fun made i wr=>∃ (k:Nat) (ra:Option Addr) (rc:Nat) (xs:List YD),k<=L.length/\i = .int .i64 k/\made = .slice ra k rc/\BX w wr/\Hid (xs.length=k)/\wr.ownsRow w.heap.size 40 4 (.slice ra k rc) k (xs.flatMap jA) /\
  Hid (∀ (i:Nat) x y,L.toL[i]?=some x->xs[i]?=some y->x.name=y.name/\x.wd=y.wd/\x.at_=y.at_/\x.subs.Like y.subs)/\Hid (∀y,y∈xs->xX (fun b=>(w.heap.size<=b/\b<wr.heap.size)/\(Value.slice ra k rc).ownBlock≠some b) wr y.sv y.subs)) (fun _ i _=>L.length-(intOf i).toNat)
 case atStart=>exact⟨0,none,0,[],vO _,rfl,rfl,kB _ _,vH rfl,by simpa using kO w _ _ _,vH fun i x y _ hy=>by simp at hy,vH fun y hy=>by simp at hy⟩
 case round=>
  obtain⟨k,ra,rc,xs,hk,rfl,rfl,hB,hxl,hrow,hlk,hin⟩:=hrel
  have k0:(0:Int)<=k:=vN _
  by_cases hlt:k<L.length
  ·have hltL:k<L.toL.length:=by rw[qg.toL_length];exact hlt
   obtain⟨x,hxk⟩:∃x,L.toL[k]?=some x:=⟨L.toL[k],vE hltL⟩
   have hBs:=hB.size
   obtain⟨b,o,rfl,⟨q0,q1,q2,q3⟩,hsub⟩:=hget.out wr hB k x hxk
   obtain⟨n1,n2⟩:=qg.name_in hN'.out hxk
   have ht:=qg.sub_total hxk
   have hform:∃sa sn sc,x.sv = .slice sa sn sc:=yG hsub
   obtain⟨va,vn,vc,hv⟩:=hform
   obtain⟨xn,xw,xt,xv,xs0⟩:=x
   dsimp only at q0 q1 q2 q3 hsub n1 n2 ht hv
   subst hv
   have hi:IntKind.i64.wrap ((k:Int)+1)=k+1:=vI _ (by omega)
   have k1:(k:Int)<L.length:=by omega
   obtain⟨i0,hi0,hz0,hz1,hz2⟩:=info_parts qaW
   have hbx:BX wr (wr.alloc (.cells #[.string xn,.int .i64 xw,.int .i64 xt,.slice va vn vc] 40)):=qi
   have K:=qkJ N ih xn xw xt va vn vc xs0 _ (by omega) (by omega) (hsub.below hbx) n1 n2
   have hxk':=vH hxk
   replace hrow:=vH hrow
   clear hxk hsub n1 n2 ht
   go_wp2_with (first
    |(go_at_call 68;refine K.mono ?_;clear K;rintro e W1 ⟨⟨ya,yn,yc⟩,M,rfl,hb1,hml,hmi⟩;have hb2:=hbx.trans (hb1.mono hbx.size);have hrow1:=qe hrow.out hb2;have hb1s:=hb2.size;replace hmi:=vH hmi)
    |(at_builtin;go_loud (refine wpList_append_own_at _ rfl _ _ 22 rfl w.heap.size 40 i0 _ 4 56 underlying22 hi0 hz0 hz1 hz2 rfl (by decide) _ k _ rfl (hrow1.alloc _) ⟨W1.heap.size,0,none⟩ 1 1 [.string xn,.int .i64 xw,.int .i64 xt,.slice ya yn yc] rfl rfl (zo _ _ _ _ rfl) (by simp[Value.oneCell']) (by unfold maxLen;omega) (by omega) (by simp;omega) ?_;intro v' W7 hown7 hgrow _ hblk;obtain⟨g',cap',rfl⟩:=ownsRow_succ hown7)))
   have hgr:=qE hgrow
   have hB7:BX w W7:=(hB.trans (hb2.mono hBs)).grown hgr (by omega) (fun j e=>(qf hrow1 e).1)
   have hgs:=hgr.size
   have hzW:(W1.alloc (.cells #[.string xn,.int .i64 xw,.int .i64 xt,.slice ya yn yc] 40)).heap.size=W1.heap.size+1:=by simp
   rw[hzW] at hblk
   have hown:∀g,(Value.slice ra k rc).ownBlock=some g->g<wr.heap.size:=fun g e=>by
    obtain⟨_,cur,hc⟩:=qf hrow.out e
    exact hc.lt
   have hkeep:∀b j v,b<W1.heap.size->(Value.slice ra k rc).ownBlock≠some b->W1.cell? ⟨b,j,none⟩=some v->W7.cell? ⟨b,j,none⟩=some v:=fun b j v hb hne hc=>
    (World.cell?_of_block (w:=W1) (a:=⟨b,j,none⟩) (hgr.block b hb (fun e=>hne e.symm))).trans hc
   have hnew:∀b,b<W1.heap.size->(Value.slice ra k rc).ownBlock≠some b->(Value.slice (some ⟨g',0,none⟩) (k+1) cap').ownBlock≠some b:=fun b hb hne e=>by
    rcases hblk with h|h
    ·exact hne (h.symm.trans e)
    ·rw[h] at e
     have:=Option.some.inj e
     omega
   refine⟨⟨k+1,_,_,xs++[⟨xn,xw,xt,.slice ya yn yc,M⟩],by omega,by go_num,rfl,hB7,vH (by rw[kA,hxl.out];rfl),?_,vH ?_,vH ?_⟩,by simp[intOf];omega⟩
   ·rw[List.flatMap_append]
    simpa[jA] using hown7
   ·intro i x y hx hy
    by_cases hik:i<k
    ·rw[List.getElem?_append_left (by rw[hxl.out];exact hik)] at hy
     exact hlk.out i x y hx hy
    ·have hyl:=(vS.1 hy).1
     rw[kA,List.length_singleton,hxl.out] at hyl
     have hik2:i=k:=by omega
     subst hik2
     rw[kR (by rw[hxl.out];exact vL _),hxl.out,Nat.sub_self] at hy
     rw[hxk'.out] at hx
     cases hx
     cases hy
     exact⟨rfl,rfl,rfl,hml⟩
   ·intro y hy
    rcases vC.1 hy with hy|hy
    ·refine(hin.out y hy).of (fun b hb=>⟨⟨hb.1.1,by omega⟩,hnew b (by omega) hb.2⟩) (fun b j v hb hc=>hkeep b j v (by omega) hb.2 (qb hb2 hc))
    ·rw[List.mem_singleton] at hy
     subst hy
     have hbz:wr.heap.size<(wr.alloc (.cells #[.string xn,.int .i64 xw,.int .i64 xt,.slice va vn vc] 40)).heap.size:=by simp
     refine hmi.out.of (fun b hb=>⟨⟨by omega,by omega⟩,hnew b hb.2 (fun e=>by have:=hown b e;omega)⟩) (fun b j v hb hc=>hkeep b j v hb.2 (fun e=>by have:=hown b e;omega) hc)
  ·obtain rfl:k=L.length:=by omega
   have hfin:YV w L (.returned (.slice ra L.length rc)) wr:=by
    refine⟨⟨ra,L.length,rc⟩,qg.ofL xs,rfl,hB,?_,?_⟩
    ·rw[←qg.ofL_toL L]
     exact qg.like_of (by rw[qg.toL_length,hxl.out]) hlk.out
    ·rcases hrow.2 with⟨e1,e2⟩|⟨g,cap,cur,e1,e2,e3,e4,_⟩
     ·have hx0:xs = []:=vJ.1 (by rw[hxl.out];exact e2)
      left
      rw[hx0]
      exact⟨e1,rfl⟩
     ·right
      have e1':=e1
      injection e1 with a1 a2 a3
      have hlen:(qg.ofL xs).length=L.length:=by rw[qg.ofL_length,hxl.out]
      refine⟨g,0,rc,?_,by omega,by omega,xL.of_list fun i y hy=>?_⟩
      ·show Value.slice ra L.length rc=_
       rw[hlen,a1]
      ·have hrow2:=hrow
       rw[a1] at hrow2
       have hc:=fun r v (h:(jA y)[r]?=some v)=>qu hrow2 (ze (f:=jA) (size:=4) (fun _=>rfl) hy h)
       have hgl:g<wr.heap.size:=(show qd wr g _ cur from e3).lt
       refine⟨⟨e2,hgl⟩,⟨by rw[Nat.zero_add];exact hc 0 _ rfl,by rw[Nat.zero_add];exact hc 1 _ rfl,by rw[Nat.zero_add];exact hc 2 _ rfl,by rw[Nat.zero_add];exact hc 3 _ rfl⟩,?_⟩
       exact(hin.out y (vM hy)).of (fun b hb=>hb.1) (fun b j v _ hc=>hc)
   replace hfin:=vH hfin
   clear hrow hin hlk
   go_wp2_with fail
   go_ret
   exact hfin.out
theorem YW:∀N,XS N
 | 0=>fun _ _ _ _ _ h=>absurd h (Nat.not_lt_zero _)
 | N+1=>qcY N (YW N)
structure yP(d:qz)(L:qg):Prop where
 name:zy d.name
 result:zy d.result
 regs:L.AllN zy
 total:L.total<=1000
 cn:d.classes.length<=100000
 classes:∀k,k∈d.classes->qbj k
 on:d.ops.length<=100000
 ops:∀o,o∈d.ops->qdf o
 an:d.args.length<=100000
 args:∀s,s∈d.args->zy s
 sn:d.saved.length<=100000
 saved:∀s,s∈d.saved->zy s
theorem yl.slice{w:World}{s:SlV}{L:qg}(h:yl w s L)(ht:L.total<=1000)(hc:s.a≠none->s.n<=s.c):qM w.heap.size w (.slice s.a s.n s.c) L:=by
 rcases h with⟨rfl,rfl⟩|⟨b,o,c,rfl,h1,h2⟩
 ·exact .inl ⟨⟨none,rfl⟩,rfl⟩
 ·have:=qg.length_total L
  exact .inr ⟨b,o,c,rfl,hc (by simp),by omega,h1⟩
theorem yl.of_in{S:Nat->Prop}{w:World}{s:SlV}{L:qg}(h:xX S w s.v L)(hS:∀b,S b->b<w.heap.size):yl w s L:=by
 rcases h with⟨h1,rfl⟩|⟨b,o,c,h1,h2,h3,h4⟩
 ·left
  unfold SlV.v at h1
  injection h1 with e1 e2 e3
  obtain⟨a,n,c⟩:=s
  dsimp only at e1 e2 e3
  subst e1 e2 e3
  exact⟨rfl,rfl⟩
 ·right
  unfold SlV.v at h1
  injection h1 with e1 e2 e3
  obtain⟨a,n,c'⟩:=s
  dsimp only at e1 e2 e3
  subst e1 e2 e3
  exact⟨b,o,_,rfl,xL.at_ hS h4,by omega⟩
theorem qcd{W W':World}{base lo:Nat}{e:TypeId}{size k:Nat}{v:Value}{xs:List Value}(h:W.ownsRow base e size v k xs)(hb:lo<=base)(hk:∀b,lo<=b->b<W.heap.size->W'.heap[b]?=W.heap[b]?):W'.ownsRow base e size v k xs:=
 ⟨h.1,h.2.imp id fun⟨g,cap,cur,h1,h2,h3,h4⟩=>⟨g,cap,cur,h1,h2,(hk g (vR hb h2) (show qd W g e cur from h3).lt).trans h3,h4⟩⟩
def yb(lo:Nat)(W:World)(m:MV)(d:qz)(M:qg):Prop:=
 ∀W',(∀b,lo<=b->b<W.heap.size->W'.heap[b]?=W.heap[b]?)->W.heap.size<=W'.heap.size->Env W'->Zi W'->zP W' m d M
theorem yb.at_{lo:Nat}{W:World}{m:MV}{d:qz}{M:qg}(h:yb lo W m d M)(e1:Env W)(e2:Zi W):zP W m d M:=h W (fun _ _ _=>rfl) (vL _) e1 e2
theorem yb.below{lo:Nat}{W W':World}{m:MV}{d:qz}{M:qg}(h:yb lo W m d M)(hb:BX W W'):yb lo W' m d M:=fun W2 hag hsz e1 e2=>
 h W2 (fun b h1 h2=>(hag b h1 (by have:=hb.size;omega)).trans (hb.block b h2)) (vR hb.size hsz) e1 e2
theorem yb.mono{lo lo':Nat}{W:World}{m:MV}{d:qz}{M:qg}(h:yb lo W m d M)(hb:lo'<=lo):yb lo' W m d M:=fun W2 hag=>h W2 fun b h1=>hag b (vR hb h1)
theorem qaX(m:MV)(d:qz)(L:qg)(w:World)(h:zP w m d L)(hf:yP d L)(hcap:m.regs.a≠none->m.regs.n<=m.regs.c) :
 Calls prog 31 #[m.val] w fun e w'=>∃ (m':MV) (M:qg),e = .returned m'.val/\BX w w'/\yb w.heap.size w' m' d M/\L.Like M/\(m'.regs.a≠none->m'.regs.n<=m'.regs.c):=by
 have houb:=h.oub
 obtain⟨hs1,hs2,hs3⟩:=(⟨h.same,h.result,h.slots⟩:m.name=d.name/\m.result=d.result/\m.slots=d.slots)
 have hreg:=h.regs.slice hf.total hcap
 have hkl:=h.classes
 have hop:=h.ops
 have har:=h.args
 have hsv:=h.saved
 clear h hcap
 obtain⟨mn,⟨rga,rgn,rgc⟩,⟨kla,kln,klc⟩,⟨opa,opn,opc⟩,⟨ara,arn,arc⟩,mrs,⟨sva,svn,svc⟩,sl⟩:=m
 unfold MV.val
 dsimp only at *
 have f1:mn.size<=281474976710656:=by rw[hs1];exact hf.name
 have f2:mrs.size<=281474976710656:=by rw[hs2];exact hf.result
 obtain⟨w0,hw0⟩:∃w0,w0=(w.alloc (.cells #[.string mn,.slice rga rgn rgc,.slice kla kln klc,.slice opa opn opc,.slice ara arn arc,.string mrs,.slice sva svn svc,.int .i64 sl] 27)).alloc (.cells #[.string ⟨#[]⟩,.slice none 0 0,.slice none 0 0,.slice none 0 0,.slice none 0 0,.string ⟨#[]⟩,.slice none 0 0,.int .i64 0] 27):=⟨_,rfl⟩
 have hB0:BX w w0:=by rw[hw0];exact qi.alloc (by simp) _
 have h1:qd w0 w.heap.size 27 #[.string mn,.slice rga rgn rgc,.slice kla kln klc,.slice opa opn opc,.slice ara arn arc,.string mrs,.slice sva svn svc,.int .i64 sl]:=by rw[hw0];exact(qd.new w _ _).alloc _
 have h2:qd w0 (w.heap.size+1) 27 #[.string ⟨#[]⟩,.slice none 0 0,.slice none 0 0,.slice none 0 0,.slice none 0 0,.string ⟨#[]⟩,.slice none 0 0,.int .i64 0]:=by
  have:=qd.new (w.alloc (.cells #[.string mn,.slice rga rgn rgc,.slice kla kln klc,.slice opa opn opc,.slice ara arn arc,.string mrs,.slice sva svn svc,.int .i64 sl] 27)) 27 #[.string ⟨#[]⟩,.slice none 0 0,.slice none 0 0,.slice none 0 0,.slice none 0 0,.string ⟨#[]⟩,.slice none 0 0,.int .i64 0]
  rw[hw0];simpa using this
 have hlt2:w.heap.size+1<w0.heap.size:=h2.lt
 have hread:∀W,BX w0 W->W.cell? ⟨w.heap.size,0,none⟩=some (.string mn)/\W.cell? ⟨w.heap.size,1,none⟩=some (.slice rga rgn rgc)/\W.cell? ⟨w.heap.size,2,none⟩=some (.slice kla kln klc)/\W.cell? ⟨w.heap.size,3,none⟩=some (.slice opa opn opc)/\W.cell? ⟨w.heap.size,4,none⟩=some (.slice ara arn arc)/\W.cell? ⟨w.heap.size,5,none⟩=some (.string mrs)/\W.cell? ⟨w.heap.size,6,none⟩=some (.slice sva svn svc)/\W.cell? ⟨w.heap.size,7,none⟩=some (.int .i64 sl):=fun W hb=>by
  have a:=h1.below hb h1.lt
  exact⟨a.cell rfl,a.cell rfl,a.cell rfl,a.cell rfl,a.cell rfl,a.cell rfl,a.cell rfl,a.cell rfl⟩
 have hres:∀W,BX w0 W->qd W (w.heap.size+1) 27 #[.string ⟨#[]⟩,.slice none 0 0,.slice none 0 0,.slice none 0 0,.slice none 0 0,.string ⟨#[]⟩,.slice none 0 0,.int .i64 0]:=fun W hb=>h2.below hb h2.lt
 have hA0:BX w0 w0.drew:=(kB _ _).drew
 have hS0:=hread _ (kB _ w0)
 have hne:w.heap.size≠w.heap.size+1:=by omega
 have KR:=fun W (hb:BX w0 W)=>YW (L.total+1) L rga rgn rgc W (Nat.lt_succ_self _) hf.total (hreg.below (hB0.trans (hb.mono hB0.size))) hf.regs
 have KK:=fun W (hb:BX w0 W)=>qhO ⟨kla,kln,klc⟩ d.classes W (hkl.below (hB0.trans (hb.mono hB0.size))) hf.cn hf.classes
 have KP:=fun W (hb:BX w0 W)=>qlw ⟨opa,opn,opc⟩ d.ops W (hop.below (hB0.trans (hb.mono hB0.size))) hf.on hf.ops
 have KA:=fun W (hb:BX w0 W)=>qai ⟨ara,arn,arc⟩ d.args W (har.below (hB0.trans (hb.mono hB0.size))) hf.an hf.args
 have KS:=fun W (hb:BX w0 W)=>qai ⟨sva,svn,svc⟩ d.saved W (hsv.below (hB0.trans (hb.mono hB0.size))) hf.sn hf.saved
 dsimp only at KK KP KA KS
 replace hres:=vH hres
 replace hread:=vH hread
 replace KR:=vH KR
 replace KK:=vH KK
 replace KP:=vH KP
 replace KA:=vH KA
 replace KS:=vH KS
 replace houb:=vH houb
 replace hs1:=vH hs1
 replace hs2:=vH hs2
 replace hs3:=vH hs3
 clear hreg hkl hop har hsv hf h1 h2
 go_enter func31,ntmps31
 go_wp2_with fail
 rw[←hw0]
 clear hw0
 go_region_held3 (fun w'=>w'.cell? ⟨w.heap.size,0,none⟩=some (.string mn)/\w'.cell? ⟨w.heap.size,1,none⟩=some (.slice rga rgn rgc)/\w'.cell? ⟨w.heap.size,2,none⟩=some (.slice kla kln klc)/\w'.cell? ⟨w.heap.size,3,none⟩=some (.slice opa opn opc)/\w'.cell? ⟨w.heap.size,4,none⟩=some (.slice ara arn arc)/\w'.cell? ⟨w.heap.size,5,none⟩=some (.string mrs)/\w'.cell? ⟨w.heap.size,6,none⟩=some (.slice sva svn svc)/\w'.cell? ⟨w.heap.size,7,none⟩=some (.int .i64 sl))
  (go_keep)
  ((first
    |(go_at_call 66;refine(yL _ _ f1).mono ?_;clear f1;rintro e W1 ⟨rfl,hb1⟩;have hA1:=hA0.trans (hb1.mono hA0.size);have hS1:=hread.out _ hA1;clear hS0)
    |(go_at_call 67;refine(KR.out _ hA1).mono ?_;rintro e W2 ⟨⟨ya,yn,yc⟩,M,rfl,hb2,hlk,hy⟩;have hA2:=hA1.trans (hb2.mono hA1.size);have hS2:=hread.out _ hA2;clear hS1;replace hy:=vH hy;replace hlk:=vH hlk)
    |(go_at_call 69;refine(KK.out _ hA2).mono ?_;rintro e W3 ⟨⟨ka,kn,kc⟩,rfl,hb3,hk⟩;have hA3:=hA2.trans (hb3.mono hA2.size);have hS3:=hread.out _ hA3;clear hS2;replace hk:=vH hk)
    |(go_at_call 71;refine(KP.out _ hA3).mono ?_;rintro e W4 ⟨⟨oa,on,oc⟩,rfl,hb4,ho⟩;have hA4:=hA3.trans (hb4.mono hA3.size);have hS4:=hread.out _ hA4;clear hS3;replace ho:=vH ho)
    |(go_at_call 73;refine(KA.out _ hA4).mono ?_;rintro e W5 ⟨⟨aa,an,ac⟩,rfl,hb5,ha⟩;have hA5:=hA4.trans (hb5.mono hA4.size);have hS5:=hread.out _ hA5;clear hS4;clear KA;replace ha:=vH ha)
    |(go_at_call 66;refine(yL _ _ f2).mono ?_;rintro e W6 ⟨rfl,hb6⟩;have hA6:=hA5.trans (hb6.mono hA5.size);have hS6:=hread.out _ hA6;clear hS5)
    |(go_at_call 73;refine(KS.out _ hA6).mono ?_;rintro e W7 ⟨⟨va,vn,vc⟩,rfl,hb7,hv⟩;have hA7:=hA6.trans (hb7.mono hA6.size);have hS7:=hread.out _ hA7;clear hS6;replace hv:=vH hv;have hR:=hres.out _ hA7;have r0:=hR.cell (j:=0) (v:=.string ⟨#[]⟩) rfl;have r1:=hR.cell (j:=1) (v:=.slice none 0 0) rfl;have r2:=hR.cell (j:=2) (v:=.slice none 0 0) rfl;have r3:=hR.cell (j:=3) (v:=.slice none 0 0) rfl;have r4:=hR.cell (j:=4) (v:=.slice none 0 0) rfl;have r5:=hR.cell (j:=5) (v:=.string ⟨#[]⟩) rfl;have r6:=hR.cell (j:=6) (v:=.slice none 0 0) rfl;have r7:=hR.cell (j:=7) (v:=.int .i64 0) rfl;have r8:=fun j=>hR.frozen j;replace hR:=vH hR)))
 (try simp only[Exit.then])
 go_wp2_with fail
 have hz0:=hA1.size
 have hz2:=hb2.size
 have hz3:=hb3.size
 have hz4:=hb4.size
 have hz5:=hb5.size
 have hz6:=hb6.size
 have hz7:=hb7.size
 have hc37:BX W3 W7:=hb4.trans ((hb5.mono hz4).trans ((hb6.mono (vR hz4 hz5)).trans (hb7.mono (vR hz4 (vR hz5 hz6)))))
 have hc27:BX W2 W7:=hb3.trans (hc37.mono hz3)
 have hc47:BX W4 W7:=hb5.trans ((hb6.mono hz5).trans (hb7.mono (vR hz5 hz6)))
 have hc57:BX W5 W7:=hb6.trans (hb7.mono hz6)
 refine bodyPost_ret (v:=(MV.mk mn ⟨ya,yn,yc⟩ ⟨ka,kn,kc⟩ ⟨oa,on,oc⟩ ⟨aa,an,ac⟩ mrs ⟨va,vn,vc⟩ sl).val) ?_ rfl ⟨MV.mk mn ⟨ya,yn,yc⟩ ⟨ka,kn,kc⟩ ⟨oa,on,oc⟩ ⟨aa,an,ac⟩ mrs ⟨va,vn,vc⟩ sl,M,rfl,?_⟩
 ·rw[qO rfl]
  unfold MV.val
  go_simp
 ·have hkept:∀W',(∀b,w0.heap.size<=b->b<W7.heap.size->W'.heap[b]?=W7.heap[b]?)->W7.heap.size<=W'.heap.size->Env W'->Zi W'->zP W' (MV.mk mn ⟨ya,yn,yc⟩ ⟨ka,kn,kc⟩ ⟨oa,on,oc⟩ ⟨aa,an,ac⟩ mrs ⟨va,vn,vc⟩ sl) d M:=fun W' hag hsz e1 e2=>by
   have hrow:∀ {base:Nat} {e:TypeId} {size k:Nat} {v:Value} {xs:List Value},W7.ownsRow base e size v k xs->w0.heap.size<=base->W'.ownsRow base e size v k xs:=fun hr hb=>qcd hr hb hag
   refine⟨e1,e2,hs1.out,hs2.out,hs3.out,?_,?_,?_,houb.out,?_,?_⟩
   ·refine yl.of_in (S:=fun b=>W1.heap.size<=b/\b<W2.heap.size) (s:=⟨ya,yn,yc⟩) (hy.out.of (fun b hb=>hb) fun b j v hb hc=>?_) (fun b hb=>by have:=hc27.size;omega)
    have hc7:=qb hc27 hc
    exact(World.cell?_of_block (w:=W7) (a:=⟨b,j,none⟩) (hag b (by omega) (by have:=hc27.size;omega))).trans hc7
   ·obtain⟨vs,q1,q2,q3⟩:=hk.out
    exact XW.at_ (base:=W2.heap.size) ⟨vs,q1,hrow (qe q2 hc37) (by omega),fun p hp=>hrow (qe (q3 p hp) hc37) (by omega)⟩
   ·obtain⟨vs,q1,q2,q3⟩:=ho.out
    exact XX.at_ (base:=W3.heap.size) ⟨vs,q1,hrow (qe q2 hc47) (by omega),fun p hp=>⟨hrow (qe (q3 p hp).1 hc47) (by omega),hrow (qe (q3 p hp).2 hc47) (by omega)⟩⟩
   ·exact qG.of_row (s:=⟨aa,an,ac⟩) (hrow (qe ha.out hc57) (by omega)) rfl
   ·exact qG.of_row (s:=⟨va,vn,vc⟩) (hrow hv.out (by omega)) rfl
  have hfr:∀W',W7.grownBy W' (some (w.heap.size+1))->yb w.heap.size W' (MV.mk mn ⟨ya,yn,yc⟩ ⟨ka,kn,kc⟩ ⟨oa,on,oc⟩ ⟨aa,an,ac⟩ mrs ⟨va,vn,vc⟩ sl) d M:=fun W' hg W2' hag hsz e1 e2=>
   hkept W2' (fun b hb hlt=>(hag b (by omega) (by have:=hg.size;omega)).trans (hg.block b hlt (fun e=>by have:=Option.some.inj e;omega))) (vR hg.size hsz) e1 e2
  have hbe:BX w W7:=hB0.trans (hA7.mono hB0.size)
  refine⟨?_,hfr _ ?_,hlk.out,?_⟩
  ·(repeat' (first|with_reducible exact hbe|refine Below.setCell ?_ (by simp) _))
  ·(repeat' (first|with_reducible exact qZ _ _ _ _|with_reducible refine World.grownBy.trans ?_ (qZ _ _ _ _)))
  ·intro _
   rcases hy.out with⟨q1,_⟩|⟨b',o',c',q1,q2,_⟩
   ·simp only[SlV.v,Value.slice.injEq] at q1
    show yn<=yc
    omega
   ·simp only[SlV.v,Value.slice.injEq] at q1
    show yn<=yc
    omega
theorem qew(m:MV)(d:qz)(L:qg)(w:World)(h:zP w m d L)(hf:yP d L)(hcap:m.regs.a≠none->m.regs.n<=m.regs.c) :
 Calls prog 31 #[m.val] w fun e w'=>∃ (m':MV) (M:qg),e = .returned m'.val/\BX w w'/\zP w' m' d M/\yb w.heap.size w' m' d M/\L.Like M/\(m'.regs.a≠none->m'.regs.n<=m'.regs.c):=
 (qaX m d L w h hf hcap).mono fun _ _ ⟨m',M,he,hb,hfr,hl,hc⟩=>⟨m',M,he,hb,hfr.at_ (h.env.below hb) (h.envA.below hb),hfr,hl,hc⟩
end Go.Proofs.YtomlgdnafeeeiaaGreatDoor
