
import Derived.Test.YtomlgdnafeeeiaaGreatDoorTgA
set_option maxHeartbeats 4000000
set_option maxRecDepth 100000
/-
 The reference's Copy: a description in new memory.
-/
namespace Go.Proofs.YtomlgdnafeeeiaaGreatDoor
open Proofs.Tryz
open Go.RowKit
attribute [-go_sem] Builtin.append_
def qck(w:World)(L:qg)(e:Ending)(w':World):Prop:=
 ∃ (s:SlV) (M:qg) (xs:List Value),e = .returned (.slice s.a s.n s.c)/\BX w w'/\L.Like M/\xX (fun k=>w.heap.size<=k/\k<w'.heap.size) w' s.v M/\w'.ownsRow w.heap.size 40 4 s.v L.length xs
def qdg(N:Nat):Prop:=
 ∀ (L:qg) (a:Option Addr) (n c:Nat) (w:World),L.total<N->L.total<=1000->qM w.heap.size w (.slice a n c) L ->
  Calls prog 29 #[.slice a n c] w (qck w L)
theorem qbK(N:Nat)(ih:qdg N):qdg (N+1):=by
 intro L a n c w h1 h2 hs
 have hln:n=L.length:=by
  rcases hs with⟨⟨a',e⟩,rfl⟩|⟨b',o',c',e,_⟩
  ·injection e with _ e2 _
  ·injection e with _ e2 _
 subst hln
 have hlt0:=qg.length_total L
 have hcap:L.length<=c:=by
  rcases hs with⟨⟨a',e⟩,rfl⟩|⟨b',o',c',e,g1,_⟩
  ·exact vO _
  ·injection e with _ _ e3
   omega
 have hget:∀W,BX w W->∀i x,L.toL[i]?=some x->∃b o,a=some ⟨b,o,none⟩/\yW W b (o+i*4) ⟨x.name,x.wd,x.at_,x.sv⟩/\qM W.heap.size W x.sv x.subs/\b<w.heap.size:=fun W hb i x hx=>by
  rcases hs with⟨_,rfl⟩|⟨b',o',c',e,_,_,g3⟩
  ·simp[qg.toL] at hx
  ·injection e with e1 _ _
   obtain⟨_,r1,r2⟩:=qB.get (qB.below hb g3) hx
   exact⟨b',o',e1,r1,r2,(qB.get g3 hx).1⟩
 replace hget:=vH hget
 clear hs
 go_enter func29,ntmps29
 go_wp2_with fail
 go_loopw [3,4] (fun made i wr=>∃ (k:Nat) (ra:Option Addr) (rc:Nat) (xs:List YD),k<=L.length/\i = .int .i64 k/\made = .slice ra k rc/\BX w wr/\Hid (xs.length=k)/\wr.ownsRow w.heap.size 40 4 (.slice ra k rc) k (xs.flatMap jA) /\
  Hid (∀ (i:Nat) x y,L.toL[i]?=some x->xs[i]?=some y->x.name=y.name/\x.wd=y.wd/\x.at_=y.at_/\x.subs.Like y.subs)/\Hid (∀y,y∈xs->xX (fun b=>(w.heap.size<=b/\b<wr.heap.size)/\(Value.slice ra k rc).ownBlock≠some b) wr y.sv y.subs)) (fun _ i _=>L.length-(intOf i).toNat)
 case atStart=>exact⟨0,none,0,[],vO _,rfl,rfl,kB _ _,vH rfl,by simpa using kO w _ _ _,vH fun i x y _ hy=>by simp at hy,vH fun y hy=>by simp at hy⟩
 case round=>
  obtain⟨k,ra,rc,xs,hk,rfl,rfl,hB,hxl,hrow,hlk,hin⟩:=hrel
  have k0:(0:Int)<=k:=vN _
  by_cases hlt:k<L.length
  ·have hltL:k<L.toL.length:=by rw[qg.toL_length];exact hlt
   obtain⟨x,hxk⟩:∃x,L.toL[k]?=some x:=⟨L.toL[k],vE hltL⟩
   have hBs:=hB.size
   obtain⟨b,o,rfl,⟨q0,q1,q2,q3⟩,hsub,hbw⟩:=hget.out wr hB k x hxk
   have ht:=qg.sub_total hxk
   have hform:∃sa sn sc,x.sv = .slice sa sn sc:=yG hsub
   obtain⟨va,vn,vc,hv⟩:=hform
   obtain⟨xn,xw,xt,xv,xs0⟩:=x
   dsimp only at q0 q1 q2 q3 hsub ht hv
   subst hv
   have hi:IntKind.i64.wrap ((k:Int)+1)=k+1:=vI _ (by omega)
   have k1:(k:Int)<L.length:=by omega
   obtain⟨i0,hi0,hz0,hz1,hz2⟩:=info_parts qaW
   have hbx:BX wr wr.drew:=(kB _ _).drew
   have K:=ih xs0 va vn vc wr.drew (by omega) (by omega) (hsub.below hbx)
   have hxk':=vH hxk
   replace hrow:=vH hrow
   clear hxk hsub ht
   go_wp2_with fail
   go_region_held3 (fun w'=>w'.cell? ⟨b,o+k*4,none⟩=some (.string xn)/\w'.cell? ⟨b,o+k*4+1,none⟩=some (.int .i64 xw)/\w'.cell? ⟨b,o+k*4+2,none⟩=some (.int .i64 xt)/\w'.cell? ⟨b,o+k*4+3,none⟩=some (.slice va vn vc))
    (go_keep)
    ((go_at_call 29
      refine K.mono ?_
      clear K
      rintro e W1 ⟨⟨ya,yn,yc⟩,M,_,rfl,hb1,hml,hmi,_⟩
      have hb2:=hbx.trans (hb1.mono hbx.size)
      have hrow1:=qe hrow.out hb2
      have hb1s:=hb2.size
      replace hmi:=vH hmi
      have r0:=qb hb2 q0
      have r1:=qb hb2 q1
      have r2:=qb hb2 q2
      have r3:=qb hb2 q3
      obtain⟨g',cap',W7,hrun,hown7,hgrow,hblk,hg7⟩:=run_append_lies (P:=prog) (W1.alloc (.cells #[.string xn,.int .i64 xw,.int .i64 xt,.slice ya yn yc] 40)) 22 22 w.heap.size 40 i0 _ 4 56 underlying22 hi0 hz0 hz1 hz2 rfl (by decide) (.slice ra k rc) k (xs.flatMap jA) (hrow1.alloc _) ⟨W1.heap.size,0,none⟩ 1 1 [.string xn,.int .i64 xw,.int .i64 xt,.slice ya yn yc] rfl (World.news_of_block (cs:=#[.string xn,.int .i64 xw,.int .i64 xt,.slice ya yn yc]) (t:=40) (fr:=(0,0)) (heap_alloc_new W1 _)) (by simp[Value.oneCell']) (by omega) (by unfold maxLen;omega) (by omega) (by simp;omega) (W1.heap.size+1) (by simp)
      have hgr:=qE hgrow
      have hkp:∀j v,W1.cell? ⟨b,j,none⟩=some v->W7.cell? ⟨b,j,none⟩=some v:=fun j v hc=>(World.cell?_of_block (w:=W1) (a:=⟨b,j,none⟩) (hgr.block b (by omega) (fun e=>by have:=(qf hrow.out e.symm).1;omega))).trans hc
      have s0:=hkp _ _ r0
      have s1:=hkp _ _ r1
      have s2:=hkp _ _ r2
      have s3:=hkp _ _ r3))
   all_goals
    clear s0 s1 s2 s3 r0 r1 r2 r3 hkp hrun q0 q1 q2 q3
    have hB7:BX w W7:=(hB.trans (hb2.mono hBs)).grown hgr (by omega) (fun j e=>(qf hrow1 e).1)
    have hgs:=hgr.size
    have hown:∀g,(Value.slice ra k rc).ownBlock=some g->g<wr.heap.size:=fun g e=>by
     obtain⟨_,cur,hc⟩:=qf hrow.out e
     exact hc.lt
    have hkeep:∀b j v,b<W1.heap.size->(Value.slice ra k rc).ownBlock≠some b->W1.cell? ⟨b,j,none⟩=some v->W7.cell? ⟨b,j,none⟩=some v:=fun b j v hb hne hc=>
     (World.cell?_of_block (w:=W1) (a:=⟨b,j,none⟩) (hgr.block b hb (fun e=>hne e.symm))).trans hc
    have hnew:∀b,b<W1.heap.size->(Value.slice ra k rc).ownBlock≠some b->(Value.slice (some ⟨g',0,none⟩) (k+1) cap').ownBlock≠some b:=fun b hb hne e=>by
     have hgb:g'=b:=by simpa[Value.ownBlock] using e
     rcases hblk with h|h
     ·exact hne (h.trans (by rw[hgb]))
     ·omega
    go_wp2_with fail
    refine⟨⟨k+1,_,_,xs++[⟨xn,xw,xt,.slice ya yn yc,M⟩],by omega,by go_num,rfl,hB7,vH (by rw[kA,hxl.out];rfl),?_,vH ?_,vH ?_⟩,by simp[intOf];omega⟩
    ·rw[List.flatMap_append]
     simpa[jA] using hown7
    ·intro i x y hx hy
     by_cases hik:i<k
     ·rw[List.getElem?_append_left (by rw[hxl.out];exact hik)] at hy
      exact hlk.out i x y hx hy
     ·have hyl:=(vS.1 hy).1
      rw[kA,List.length_singleton,hxl.out] at hyl
      have hik2:i=k:=by omega
      subst hik2
      rw[kR (by rw[hxl.out];exact vL _),hxl.out,Nat.sub_self] at hy
      rw[hxk'.out] at hx
      cases hx
      cases hy
      exact⟨rfl,rfl,rfl,hml⟩
    ·intro y hy
     rcases vC.1 hy with hy|hy
     ·refine(hin.out y hy).of (fun b hb=>⟨⟨hb.1.1,by omega⟩,hnew b (by omega) hb.2⟩) (fun b j v hb hc=>hkeep b j v (by omega) hb.2 (qb hb2 hc))
     ·rw[List.mem_singleton] at hy
      subst hy
      have hbz:wr.drew.heap.size=wr.heap.size:=rfl
      refine hmi.out.of (fun b hb=>⟨⟨by omega,by omega⟩,hnew b hb.2 (fun e=>by have:=hown b e;omega)⟩) (fun b j v hb hc=>hkeep b j v hb.2 (fun e=>by have:=hown b e;omega) hc)
  ·obtain rfl:k=L.length:=by omega
   have hfin:qck w L (.returned (.slice ra L.length rc)) wr:=by
    refine⟨⟨ra,L.length,rc⟩,qg.ofL xs,xs.flatMap jA,rfl,hB,?_,?_,hrow⟩
    ·rw[←qg.ofL_toL L]
     exact qg.like_of (by rw[qg.toL_length,hxl.out]) hlk.out
    ·rcases hrow.2 with⟨e1,e2⟩|⟨g,cap,cur,e1,e2,e3,e4,_⟩
     ·have hx0:xs = []:=vJ.1 (by rw[hxl.out];exact e2)
      left
      rw[hx0]
      exact⟨e1,rfl⟩
     ·right
      have e1':=e1
      injection e1 with a1 a2 a3
      have hlen:(qg.ofL xs).length=L.length:=by rw[qg.ofL_length,hxl.out]
      refine⟨g,0,rc,?_,by omega,by omega,xL.of_list fun i y hy=>?_⟩
      ·show Value.slice ra L.length rc=_
       rw[hlen,a1]
      ·have hrow2:=hrow
       rw[a1] at hrow2
       have hc:=fun r v (h:(jA y)[r]?=some v)=>qu hrow2 (ze (f:=jA) (size:=4) (fun _=>rfl) hy h)
       have hgl:g<wr.heap.size:=(show qd wr g _ cur from e3).lt
       refine⟨⟨e2,hgl⟩,⟨by rw[Nat.zero_add];exact hc 0 _ rfl,by rw[Nat.zero_add];exact hc 1 _ rfl,by rw[Nat.zero_add];exact hc 2 _ rfl,by rw[Nat.zero_add];exact hc 3 _ rfl⟩,?_⟩
       exact(hin.out y (vM hy)).of (fun b hb=>hb.1) (fun b j v _ hc=>hc)
   replace hfin:=vH hfin
   clear hrow hin hlk
   go_wp2_with fail
   go_ret
   exact hfin.out
theorem Yi:∀N,qdg N
 | 0=>fun _ _ _ _ _ h=>absurd h (Nat.not_lt_zero _)
 | N+1=>qbK N (Yi N)
end Go.Proofs.YtomlgdnafeeeiaaGreatDoor
namespace Go.Proofs.YtomlgdnafeeeiaaGreatDoor
open Go.RowKit
theorem jM{P:Program}(w:World)(t ty e:TypeId)(i:TypeInfo)(z:Value)(size bytes:Nat)(ht:P.underlying t=some (.slice e))(hi:P.info? e=some i)(hz:i.zero=some z)(hsize:i.size=size)(hby:i.bytes=bytes)(hzs:z.cells.size=size)(hsz:0<size)
 (sa:Option Addr) (n c:Nat) (news:List Value) (hl:news.length=n*size) (hc:∀j u,news[j]?=some u->∃b o,sa=some ⟨b,o,none⟩/\w.cell? ⟨b,o+j,none⟩=some u) (h1:∀u∈news,u.oneCell'=true) (hn:n<=100000) (hb:bytes<=1000) :
 ∃a c' w',(Builtin.append_ #[t,t] ty #[.slice none 0 0,.slice sa n c]).run P w = .ok (.slice a n c') w'/\w'.ownsRow w.heap.size e size (.slice a n c') n news/\w.grownBy w' none:=by
 cases sa with
 |none=>
  have hn0:n=0:=by
   rcases Nat.eq_zero_or_pos n with h|h
   ·exact h
   ·exfalso
    have hp:0<news.length:=by rw[hl];exact Nat.mul_pos h hsz
    obtain⟨b,o,h2,_⟩:=hc 0 news[0] (vE hp)
    cases h2
  subst hn0
  have h0:news = []:=vJ.1 (by rw[hl,Nat.zero_mul])
  subst h0
  exact⟨none,0,w,by simp[Builtin.append_,run_underlying ht,sizeOf,typeInfo,zeroValue,hi,hz,Builtin.lenOf,Builtin.firstCells],kO _ _ _ _,⟨rfl,rfl,rfl,vL _,fun _ _ _=>rfl⟩⟩
 |some ad=>
  have hbytes:(0+n)*bytes<=140737488355328:=by
   have:(0+n)*bytes<=100000*1000:=Nat.mul_le_mul (by omega) hb
   omega
  obtain⟨v',w',hr,h2,h3,_,_⟩:=run_append_own_at (P:=P) w w.heap.size t ty e i z size bytes ht hi hz hsize hby hzs hsz (.slice none 0 0) 0 [] (kO _ _ _ _) ad n c news hl (fun j u hu=>by
   obtain⟨b,o,h2,h3⟩:=hc j u hu
   injection h2 with h2
   subst h2
   rw[qav];exact h3) h1 (by unfold maxLen;omega) hbytes (vL _)
  rw[Nat.zero_add,List.nil_append] at h2
  obtain⟨a,cap,rfl⟩:=qx h2
  exact⟨a,cap,w',hr,h2,h3⟩
theorem qG.src{W:World}{s:SlV}{l:List ByteArray}(h:qG W s l):∀j u,(l.map Value.string)[j]?=some u->∃b o,s.a=some ⟨b,o,none⟩/\W.cell? ⟨b,o+j,none⟩=some u:=fun j u hu=>by
 rw[vY] at hu
 cases hx:l[j]? with
 | none=>rw[hx] at hu;cases hu
 |some x=>
  rw[hx] at hu
  cases hu
  exact h.2.2 j x hx
theorem zY.src{W:World}{s:SlV}{l:List zL}(h:zY W s l):∀j u,(l.flatMap zD)[j]?=some u->∃b o,s.a=some ⟨b,o,none⟩/\W.cell? ⟨b,o+j,none⟩=some u:=fun j u hu=>by
 have hlen:∀l:List zL,(l.flatMap zD).length=l.length*2:=fun l=>by
  induction l with
  | nil=>rfl
  | cons x r ih=>rw[List.flatMap_cons,kA,ih];simp[zD];omega
 have hj:=(vS.1 hu).1
 rw[hlen] at hj
 obtain⟨x,hx⟩:∃x,l[j/2]?=some x:=⟨l[j/2]'(by omega),vE _⟩
 obtain⟨b,o,h1,h2,h3⟩:=h.2.2 (j/2) x hx
 refine⟨b,o,h1,?_⟩
 rcases Nat.mod_two_eq_zero_or_one j with h0|h0
 ·have:=ze (f:=zD) (size:=2) (fun _=>rfl) hx (r:=0) (v:=.string x.cls) rfl
  rw[show j/2*2+0=j by omega,hu] at this
  cases this
  rw[show j/2*2=j by omega] at h2
  exact h2
 ·have:=ze (f:=zD) (size:=2) (fun _=>rfl) hx (r:=1) (v:=.string x.fix) rfl
  rw[show j/2*2+1=j by omega,hu] at this
  cases this
  rw[show o+j/2*2+1=o+j by omega] at h3
  exact h3
def Ag(lo:Nat)(W W':World):Prop:=(∀b,lo<=b->b<W.heap.size->W'.heap[b]?=W.heap[b]?)/\W.heap.size<=W'.heap.size
theorem Ag.refl(lo:Nat)(W:World):Ag lo W W:=⟨fun _ _ _=>rfl,vL _⟩
theorem Ag.trans{lo:Nat}{A B C:World}(h:Ag lo A B)(g:Ag lo B C):Ag lo A C:=⟨fun b h1 h2=>(g.1 b h1 (by have:=h.2;omega)).trans (h.1 b h1 h2),vR h.2 g.2⟩
theorem Ag.below{lo:Nat}{A B C:World}(h:Ag lo A B)(hb:Below A.heap.size B C):Ag lo A C:=⟨fun b h1 h2=>(hb.block b h2).trans (h.1 b h1 h2),vR h.2 hb.size⟩
theorem Ag.set{lo:Nat}{A B:World}(h:Ag lo A B){T:Nat}(hT:T<lo)(j:Nat)(v:Value):Ag lo A (B.setCell ⟨T,j,none⟩ v):=
 ⟨fun b h1 h2=>(Below.heap_setCell B ⟨T,j,none⟩ v b (by dsimp only;omega)).trans (h.1 b h1 h2),by simpa using h.2⟩
theorem Ag.row{lo:Nat}{A B:World}(h:Ag lo A B){base:Nat}{e:TypeId}{size k:Nat}{v:Value}{xs:List Value}(hr:A.ownsRow base e size v k xs)(hb:lo<=base):B.ownsRow base e size v k xs:=qcd hr hb h.1
theorem Ag.cells{lo:Nat}{A B:World}(h:Ag lo A B){b:Nat}{t:TypeId}{cs:Array Value}(hc:qd A b t cs)(hb:lo<=b):qd B b t cs:=(h.1 b hb hc.lt).trans hc
structure KY(lo:Nat)(W:World)(m:MV)(d:qz)(M:qg):Prop where
 name:m.name=d.name
 result:m.result=d.result
 slots:m.slots=d.slots
 regs:xX (fun b=>lo<=b/\b<W.heap.size) W m.regs.v M
 rrow:∃xs,W.ownsRow lo 40 4 m.regs.v M.length xs
 classes:XW lo W m.classes d.classes
 ops:XX lo W m.ops d.ops
 args:W.ownsRow lo 9 1 m.args.v d.args.length (d.args.map Value.string)
 saved:W.ownsRow lo 9 1 m.saved.v d.saved.length (d.saved.map Value.string)
theorem XW.ag{lo base:Nat}{A B:World}{s:SlV}{l:List qp}(h:XW base A s l)(hg:Ag lo A B)(hb:lo<=base):XW base B s l:=by
 obtain⟨vs,h1,h2,h3⟩:=h
 exact⟨vs,h1,hg.row h2 hb,fun p hp=>hg.row (h3 p hp) hb⟩
theorem XX.ag{lo base:Nat}{A B:World}{s:SlV}{l:List OpD}(h:XX base A s l)(hg:Ag lo A B)(hb:lo<=base):XX base B s l:=by
 obtain⟨vs,h1,h2,h3⟩:=h
 exact⟨vs,h1,hg.row h2 hb,fun p hp=>⟨hg.row (h3 p hp).1 hb,hg.row (h3 p hp).2 hb⟩⟩
theorem XW.mono{base base':Nat}{A:World}{s:SlV}{l:List qp}(h:XW base A s l)(hb:base'<=base):XW base' A s l:=by
 obtain⟨vs,h1,h2,h3⟩:=h
 exact⟨vs,h1,qm h2 hb,fun p hp=>qm (h3 p hp) hb⟩
theorem XX.mono{base base':Nat}{A:World}{s:SlV}{l:List OpD}(h:XX base A s l)(hb:base'<=base):XX base' A s l:=by
 obtain⟨vs,h1,h2,h3⟩:=h
 exact⟨vs,h1,qm h2 hb,fun p hp=>⟨qm (h3 p hp).1 hb,qm (h3 p hp).2 hb⟩⟩
theorem xX.ag{lo:Nat}{A B:World}{v:Value}{M:qg}(h:xX (fun b=>lo<=b/\b<A.heap.size) A v M)(hg:Ag lo A B):xX (fun b=>lo<=b/\b<B.heap.size) B v M:=
 xX.of (fun b hb=>⟨hb.1,by have:=hg.2;omega⟩) (fun b j v hb hc=>(World.cell?_of_block (w:=A) (a:=⟨b,j,none⟩) (hg.1 b hb.1 hb.2)).trans hc) h
theorem KY.ag{lo:Nat}{A B:World}{m:MV}{d:qz}{M:qg}(h:KY lo A m d M)(hg:Ag lo A B):KY lo B m d M:=
 ⟨h.name,h.result,h.slots,h.regs.ag hg,h.rrow.elim fun xs hx=>⟨xs,hg.row hx (vL _)⟩,h.classes.ag hg (vL _),h.ops.ag hg (vL _),hg.row h.args (vL _),hg.row h.saved (vL _)⟩
theorem KY.mono{lo lo':Nat}{A:World}{m:MV}{d:qz}{M:qg}(h:KY lo A m d M)(hb:lo'<=lo):KY lo' A m d M:=
 ⟨h.name,h.result,h.slots,xX.of (fun b hx=>⟨by omega,hx.2⟩) (fun _ _ _ _ hc=>hc) h.regs,h.rrow.elim fun xs hx=>⟨xs,qm hx hb⟩,h.classes.mono hb,h.ops.mono hb,qm h.args hb,qm h.saved hb⟩
theorem KY.at_{lo:Nat}{W:World}{m:MV}{d:qz}{M:qg}(h:KY lo W m d M)(e1:Env W)(e2:Zi W)(hu:∀o:OpD,o∈d.ops->o.uses.length<=100000):zP W m d M:=
 ⟨e1,e2,h.name,h.result,h.slots,yl.of_in h.regs fun _ hb=>hb.2,h.classes.at_,h.ops.at_,hu,qG.of_row h.args rfl,qG.of_row h.saved rfl⟩
theorem KY.cap{lo:Nat}{W:World}{m:MV}{d:qz}{M:qg}(h:KY lo W m d M):m.regs.n<=m.regs.c:=by
 obtain⟨xs,hx⟩:=h.rrow
 have:=jk hx
 omega
end Go.Proofs.YtomlgdnafeeeiaaGreatDoor
