
import Derived.Test.YtomlgdnafeeeiaaGreatDoorTfN
import Derived.Test.YtomlgdnafeeeiaaGreatDoorTcPP
import Derived.Test.YtomlgdnafeeeiaaGreatDoorTcLP
import Derived.Test.YtomlgdnafeeeiaaGreatDoorRefThree
set_option maxHeartbeats 1600000
set_option maxRecDepth 100000
/-
 table's methods of the convention: Args,Saved,Result,Slots,Machine.
-/
namespace Go.Proofs.YtomlgdnafeeeiaaGreatDoor
open Proofs.Tryz
open Go.RowKit
theorem yP.like{d:qz}{L M:qg}(h:yP d L)(hl:L.Like M)(hn:qC L=qC M)(hs:∀s,s∈qC L->zy s):yP d M:=
 { h with regs:=qg.allN_out M 0 (fun x hx=>hs _ (by rw[hn];exact vQ hx)),total:=by rw[←hl.total];exact h.total }
def qlh(d:qz)(L:qg)(w:World)(e:Ending)(w':World):Prop:=
 BX w w'/\∃ (m':MV) (M:qg),e = .returned (.agg #[.string m'.name,.slice m'.regs.a m'.regs.n m'.regs.c,.slice m'.classes.a m'.classes.n m'.classes.c,.slice m'.ops.a m'.ops.n m'.ops.c,.slice m'.args.a m'.args.n m'.args.c,.string m'.result,.slice m'.saved.a m'.saved.n m'.saved.c,.int .i64 m'.slots])/\zP w' m' d M/\L.Like M/\(m'.regs.a≠none->m'.regs.n<=m'.regs.c)
theorem qgf(C:Nat)(tb:TB)(d:qz)(L:qg)(w:World)(hC:qd w C 85 tb.cells)(h:zP w tb.m d L)(hf:yP d L)(hcap:tb.m.regs.a≠none->tb.m.regs.n<=tb.m.regs.c) :
 Calls prog 12 #[.pointer (some ⟨C,0,none⟩)] w (qlh d L w):=by
 obtain⟨w1,hw1⟩:∃w1,w1=w.alloc (.cells #[.string ⟨#[]⟩,.slice none 0 0,.slice none 0 0,.slice none 0 0,.slice none 0 0,.string ⟨#[]⟩,.slice none 0 0,.int .i64 0] 27):=⟨_,rfl⟩
 have hb0:BX w w1:=by rw[hw1];exact qi
 have h2:qd w1 w.heap.size 27 #[.string ⟨#[]⟩,.slice none 0 0,.slice none 0 0,.slice none 0 0,.slice none 0 0,.string ⟨#[]⟩,.slice none 0 0,.int .i64 0]:=by rw[hw1];exact qd.new _ _ _
 have K:=qaX tb.m d L w1 (h.belowT hb0) hf hcap
 have hC1:=hC.below hb0 hC.lt
 have x0:=hC1.cell (j:=0) (v:=.string tb.m.name) rfl
 have x1:=hC1.cell (j:=1) (v:=.slice tb.m.regs.a tb.m.regs.n tb.m.regs.c) rfl
 have x2:=hC1.cell (j:=2) (v:=.slice tb.m.classes.a tb.m.classes.n tb.m.classes.c) rfl
 have x3:=hC1.cell (j:=3) (v:=.slice tb.m.ops.a tb.m.ops.n tb.m.ops.c) rfl
 have x4:=hC1.cell (j:=4) (v:=.slice tb.m.args.a tb.m.args.n tb.m.args.c) rfl
 have x5:=hC1.cell (j:=5) (v:=.string tb.m.result) rfl
 have x6:=hC1.cell (j:=6) (v:=.slice tb.m.saved.a tb.m.saved.n tb.m.saved.c) rfl
 have x7:=hC1.cell (j:=7) (v:=.int .i64 tb.m.slots) rfl
 have hEn:=vH h.env
 have hEa:=vH h.envA
 have hlt:=h2.lt
 unfold MV.val at K
 generalize tb.m=m at *
 obtain⟨mn,⟨rga,rgn,rgc⟩,⟨kla,kln,klc⟩,⟨opa,opn,opc⟩,⟨ara,arn,arc⟩,mrs,⟨sva,svn,svc⟩,sl⟩:=m
 dsimp only at K x0 x1 x2 x3 x4 x5 x6 x7
 replace hw1:=vH hw1
 replace h2:=vH h2
 clear h hf hcap hC hC1
 go_enter func12,ntmps12
 go_upto_region 1 with fail
 rw[←hw1.out]
 go_wp2_with (go_at_call 31;refine K.mono ?_;clear K;rintro e W2 ⟨⟨n0,⟨ra,rn,rc⟩,⟨ka,kn,kc⟩,⟨oa,on,oc⟩,⟨aa,an,ac⟩,n1,⟨va,vn,vc⟩,ns⟩,M,rfl,hb,hm,hl,hc⟩;replace hm:=vH hm;replace hl:=vH hl;replace hc:=vH hc;have hR:=h2.out.below hb hlt;have r0:=hR.cell (j:=0) (v:=.string ⟨#[]⟩) rfl;have r1:=hR.cell (j:=1) (v:=.slice none 0 0) rfl;have r2:=hR.cell (j:=2) (v:=.slice none 0 0) rfl;have r3:=hR.cell (j:=3) (v:=.slice none 0 0) rfl;have r4:=hR.cell (j:=4) (v:=.slice none 0 0) rfl;have r5:=hR.cell (j:=5) (v:=.string ⟨#[]⟩) rfl;have r6:=hR.cell (j:=6) (v:=.slice none 0 0) rfl;have r7:=hR.cell (j:=7) (v:=.int .i64 0) rfl;have r8:=fun j=>hR.frozen j;replace hR:=vH hR)
 (try simp only[Exit.inBlock,Exit.then])
 have hbe:BX w W2:=hb0.trans (hb.mono hb0.size)
 have hsz:=hb.size
 have hfr:∀W',W2.grownBy W' (some w.heap.size)->BX w W'->zP W' ⟨n0,⟨ra,rn,rc⟩,⟨ka,kn,kc⟩,⟨oa,on,oc⟩,⟨aa,an,ac⟩,n1,⟨va,vn,vc⟩,ns⟩ d M:=fun W' hg hbw=>
  hm.out W' (fun b h1 h3=>hg.block b h3 (fun e=>by have:=Option.some.inj e;omega)) hg.size (hEn.out.below hbw) (hEa.out.below hbw)
 refine bodyPost_ret (v:=(MV.mk n0 ⟨ra,rn,rc⟩ ⟨ka,kn,kc⟩ ⟨oa,on,oc⟩ ⟨aa,an,ac⟩ n1 ⟨va,vn,vc⟩ ns).val) ?_ rfl ⟨?_,MV.mk n0 ⟨ra,rn,rc⟩ ⟨ka,kn,kc⟩ ⟨oa,on,oc⟩ ⟨aa,an,ac⟩ n1 ⟨va,vn,vc⟩ ns,M,rfl,hfr _ ?_ ?_,hl.out,hc.out⟩
 ·rw[qO rfl]
  unfold MV.val
  go_simp
 ·(repeat' (first|with_reducible exact hbe|refine Below.setCell ?_ (by simp) _))
 ·(repeat' (first|with_reducible exact qZ _ _ _ _|with_reducible refine World.grownBy.trans ?_ (qZ _ _ _ _)))
 ·(repeat' (first|with_reducible exact hbe|refine Below.setCell ?_ (by simp) _))
end Go.Proofs.YtomlgdnafeeeiaaGreatDoor
set_option maxHeartbeats 8000000
set_option maxRecDepth 100000
namespace Go.Proofs.YtomlgdnafeeeiaaGreatDoor
open Proofs.Tryz
open Go.RowKit
theorem qg.Like.symm:∀ {L M:qg},L.Like M->M.Like L
 | .nil,.nil,_=>trivial
 | .cons ..,.cons ..,h=>⟨h.1.symm,h.2.1.symm,h.2.2.1.symm,qg.Like.symm h.2.2.2.1,qg.Like.symm h.2.2.2.2⟩
 | .nil,.cons ..,h=>h.elim
 | .cons ..,.nil,h=>h.elim
theorem qg.Like.trans:∀ {L M K:qg},L.Like M->M.Like K->L.Like K
 | .nil,.nil,.nil,_,_=>trivial
 | .cons ..,.cons ..,.cons ..,h,g=>⟨h.1.trans g.1,h.2.1.trans g.2.1,h.2.2.1.trans g.2.2.1,qg.Like.trans h.2.2.2.1 g.2.2.2.1,qg.Like.trans h.2.2.2.2 g.2.2.2.2⟩
 | .nil,.nil,.cons ..,_,g=>g.elim
 | .nil,.cons ..,_,h,_=>h.elim
 | .cons ..,.nil,_,h,_=>h.elim
 | .cons ..,.cons ..,.nil,_,g=>g.elim
theorem qg.like_get:∀ {L M:qg},L.Like M->∀ {i:Nat} {x:YD},L.toL[i]?=some x->∃y,M.toL[i]?=some y/\x.name=y.name/\x.wd=y.wd/\x.at_=y.at_/\x.subs.Like y.subs
 | .nil,_,_,i,x,h=>by simp[qg.toL] at h
 | .cons ..,.nil,hl,_,_,_=>by simp[qg.Like] at hl
 |.cons n w a v s r,.cons n' w' a' v' s' r',hl,i,x,h=>by
  unfold qg.Like at hl
  obtain⟨h1,h2,h3,h4,h5⟩:=hl
  cases i with
  |zero=>
   simp[qg.toL] at h
   subst h
   exact⟨⟨n',w',a',v',s'⟩,by simp[qg.toL],h1,h2,h3,h4⟩
  |succ i=>
   simp only[qg.toL,List.getElem?_cons_succ] at h ⊢
   exact qg.like_get h5 h
theorem XR(s t:SlV)(l:List ByteArray)(w:World)(hs:qG w s l)(ht:qG w t l)(hb:l.length<=100000) :
 Calls prog 44 #[.slice s.a s.n s.c,.slice t.a t.n t.c] w fun e w'=>e = .returned (.bool true)/\∃m,w'=w.drewN m:=by
 obtain⟨sa,sn,sc⟩:=s
 obtain⟨ta,tn,tc⟩:=t
 obtain⟨h1,h2,h3⟩:=hs
 obtain⟨g1,g2,g3⟩:=ht
 dsimp only at h1 h2 h3 g1 g2 g3 ⊢
 subst h1 g1
 go_enter func44,ntmps44
 go_wp2_with fail
 go_loopw [5] (fun i wr=>∃j:Nat,j<=l.length/\i = .int .i64 j/\Hid (∃q,wr=w.drewN q)) (fun i _=>l.length-(intOf i).toNat)
 case atStart=>exact⟨0,vO _,rfl,vH ⟨0,rfl⟩⟩
 case round=>
  obtain⟨j,hj,rfl,hq⟩:=hrel
  have j0:(0:Int)<=j:=vN _
  by_cases hlt:j<l.length
  ·obtain⟨x,hx⟩:∃x,l[j]?=some x:=⟨l[j],vE hlt⟩
   obtain⟨b,o,rfl,c1⟩:=h3 j x hx
   obtain⟨b',o',rfl,c2⟩:=g3 j x hx
   have j1:(j:Int)<l.length:=by omega
   have hi:IntKind.i64.wrap ((j:Int)+1)=j+1:=vI _ (by omega)
   have hB:BX w wr:=by obtain⟨q,hq⟩:=hq.out;rw[hq];exact below_drewN (kB _ _) q
   replace c1:=qb hB c1
   replace c2:=qb hB c2
   clear h3 g3 hx hB
   go_wp2_with fail
   go_quiet (fail)
   all_goals
    go_wp2_with fail
    exact⟨⟨j+1,by omega,by go_num,by obtain⟨q,hq⟩:=hq.out;exact vH ⟨_,by rw[hq,World.drewN_drewN]⟩⟩,by simp[intOf];omega⟩
  ·obtain rfl:j=l.length:=by omega
   clear h3 g3
   go_wp2_with fail
   go_ret
   exact⟨rfl,hq.out⟩
def JD(N:Nat):Prop:=
 ∀ (L M:qg) (a1 a2:Option Addr) (n1 n2 c1 c2:Nat) (w:World),L.total<N->L.Like M->qM w.heap.size w (.slice a1 n1 c1) L->qM w.heap.size w (.slice a2 n2 c2) M ->
  Calls prog 43 #[.slice a1 n1 c1,.slice a2 n2 c2] w fun e w'=>e = .returned (.bool true)/\∃m,w'=w.drewN m
theorem qcj{W:World}{L:qg}{a:Option Addr}{n c:Nat}(h:qM W.heap.size W (.slice a n c) L):n=L.length/\L.length<=c/\L.length<=140737488355328:=by
 rcases h with⟨⟨a',e⟩,rfl⟩|⟨b',o',c',e,g1,g2,_⟩
 ·injection e with _ e2 _
  exact⟨e2,vO _,vO _⟩
 ·injection e with _ e2 e3
  exact⟨e2,by omega,g2⟩
theorem qeN{W:World}{L:qg}{a:Option Addr}{n c:Nat}(h:qM W.heap.size W (.slice a n c) L){i:Nat}{x:YD}(hx:L.toL[i]?=some x) :
 ∃b o,a=some ⟨b,o,none⟩/\yW W b (o+i*4) ⟨x.name,x.wd,x.at_,x.sv⟩/\qM W.heap.size W x.sv x.subs:=by
 rcases h with⟨_,rfl⟩|⟨b',o',c',e,_,_,g3⟩
 ·simp[qg.toL] at hx
 ·injection e with e1 _ _
  obtain⟨_,r1,r2⟩:=qB.get g3 hx
  exact⟨b',o',e1,r1,r2⟩
theorem qbJ(N:Nat)(ih:JD N):JD (N+1):=by
 intro L M a1 a2 n1 n2 c1 c2 w hN hl h1 h2
 obtain⟨rfl,hc1,hbig⟩:=qcj h1
 obtain⟨e2,hc2,_⟩:=qcj h2
 have hlen:=hl.length
 rw[←hlen] at e2 hc2
 subst e2
 have hget:Hid (∀k,k<L.length->∃ (b o b' o':Nat) (nm:ByteArray) (wd at_:Int) (s1 s2:Option Addr) (m1 m2 d1 d2:Nat),a1=some ⟨b,o,none⟩/\a2=some ⟨b',o',none⟩/\yW w b (o+k*4) ⟨nm,wd,at_,.slice s1 m1 d1⟩/\yW w b' (o'+k*4) ⟨nm,wd,at_,.slice s2 m2 d2⟩ /\
  ∀W,BX w W->Calls prog 43 #[.slice s1 m1 d1,.slice s2 m2 d2] W fun e w'=>e = .returned (.bool true)/\∃m,w'=W.drewN m):=vH fun k hk=>by
  obtain⟨x,hx⟩:∃x,L.toL[k]?=some x:=⟨L.toL[k]'(by rw[qg.toL_length];exact hk),vE _⟩
  obtain⟨y,hy,y1,y2,y3,y4⟩:=qg.like_get hl hx
  obtain⟨b,o,e1,r1,q1⟩:=qeN h1 hx
  obtain⟨b',o',e2,r2,q2⟩:=qeN h2 hy
  obtain⟨s1,m1,d1,f1⟩:=yG q1
  obtain⟨s2,m2,d2,f2⟩:=yG q2
  rw[←y1,←y2,←y3,f2] at r2
  rw[f1] at r1
  rw[f1] at q1
  rw[f2] at q2
  exact⟨b,o,b',o',x.name,x.wd,x.at_,s1,s2,m1,m2,d1,d2,e1,e2,r1,r2,fun W hb=>ih x.subs y.subs s1 s2 m1 m2 d1 d2 W (by have:=qg.sub_total hx;omega) y4 (qM.below q1 hb) (qM.below q2 hb)⟩
 generalize L.length=len at *
 clear h1 h2 hl hN ih hlen
 go_enter func43,ntmps43
 go_wp2_with fail
 go_loopw [5] (fun i wr=>∃j:Nat,j<=len/\i = .int .i64 j/\Hid (∃q,wr=w.drewN q)) (fun i _=>len-(intOf i).toNat)
 case atStart=>exact⟨0,vO _,rfl,vH ⟨0,rfl⟩⟩
 case round=>
  obtain⟨j,hj,rfl,hq⟩:=hrel
  have j0:(0:Int)<=j:=vN _
  by_cases hlt:j<len
  ·obtain⟨b,o,b',o',nm,wd,at_,s1,s2,m1,m2,d1,d2,rfl,rfl,⟨p0,p1,p2,p3⟩,⟨q0,q1,q2,q3⟩,K⟩:=hget.out j hlt
   dsimp only at p0 p1 p2 p3 q0 q1 q2 q3
   have hB:BX w wr:=by obtain⟨q,hq⟩:=hq.out;rw[hq];exact below_drewN (kB _ _) q
   have K1:∀q',Calls prog 43 #[.slice s1 m1 d1,.slice s2 m2 d2] (wr.drewN q') fun e w'=>e = .returned (.bool true)/\∃m,w'=(wr.drewN q').drewN m:=fun q'=>K _ (below_drewN hB q')
   have j1:(j:Int)<len:=by omega
   have hi:IntKind.i64.wrap ((j:Int)+1)=j+1:=vI _ (by omega)
   replace p0:=qb hB p0
   replace p1:=qb hB p1
   replace p2:=qb hB p2
   replace p3:=qb hB p3
   replace q0:=qb hB q0
   replace q1:=qb hB q1
   replace q2:=qb hB q2
   replace q3:=qb hB q3
   clear hget K hB
   go_upto_region 6 with fail
   go_quiet (fail)
   obtain⟨wz,hz⟩:∃wz,wz=wr.drewN nq:=⟨_,rfl⟩
   have K2:∀q,Calls prog 43 #[.slice s1 m1 d1,.slice s2 m2 d2] (wz.drewN q) fun e w'=>e = .returned (.bool true)/\∃m,w'=(wz.drewN q).drewN m:=fun q=>by rw[hz,World.drewN_drewN];exact K1 _
   replace p3:wz.cell? ⟨b,o+j*4+3,none⟩=some (.slice s1 m1 d1):=by rw[hz];exact p3
   replace q3:wz.cell? ⟨b',o'+j*4+3,none⟩=some (.slice s2 m2 d2):=by rw[hz];exact q3
   rw[←hz]
   have hz2:=vH (show ∃q,wz=w.drewN q by obtain⟨q,hq⟩:=hq.out;exact⟨_,by rw[hz,hq,World.drewN_drewN]⟩)
   clear hz p0 p1 p2 q0 q1 q2 K1
   go_upto_region 8 with fail
   go_quiet ((go_at_call 43;exact Calls.quiet_of (K2 _)))
   go_wp2_with fail
   exact⟨⟨j+1,by omega,by go_num,by obtain⟨q,hq⟩:=hz2.out;exact vH ⟨_,by rw[hq,World.drewN_drewN]⟩⟩,by simp[intOf];omega⟩
  ·obtain rfl:j=len:=by omega
   clear hget
   go_wp2_with fail
   go_ret
   exact⟨rfl,hq.out⟩
theorem Yh:∀N,JD N
 | 0=>fun _ _ _ _ _ _ _ _ _ h=>absurd h (Nat.not_lt_zero _)
 | N+1=>qbJ N (Yh N)
theorem qkR(m m':MV)(d:qz)(L M L0:qg)(w:World)(hn:m.name=d.name)(hn':m'.name=d.name)(hr:m.result=d.result)(hr':m'.result=d.result)(hs:m.slots=d.slots)(hs':m'.slots=d.slots)
 (hg:qM w.heap.size w (.slice m.regs.a m.regs.n m.regs.c) L) (hg':qM w.heap.size w (.slice m'.regs.a m'.regs.n m'.regs.c) M) (hl:L.Like M)
 (hk:qS w m.classes d.classes) (hk':qS w m'.classes d.classes) (ho:jP w m.ops d.ops) (ho':jP w m'.ops d.ops)
 (ha:qG w m.args d.args) (ha':qG w m'.args d.args) (hv:qG w m.saved d.saved) (hv':qG w m'.saved d.saved) (hf:yP d L0) :
 Calls prog 11 #[.agg #[.string m.name,.slice m.regs.a m.regs.n m.regs.c,.slice m.classes.a m.classes.n m.classes.c,.slice m.ops.a m.ops.n m.ops.c,.slice m.args.a m.args.n m.args.c,.string m.result,.slice m.saved.a m.saved.n m.saved.c,.int .i64 m.slots],
  .agg #[.string m'.name,.slice m'.regs.a m'.regs.n m'.regs.c,.slice m'.classes.a m'.classes.n m'.classes.c,.slice m'.ops.a m'.ops.n m'.ops.c,.slice m'.args.a m'.args.n m'.args.c,.string m'.result,.slice m'.saved.a m'.saved.n m'.saved.c,.int .i64 m'.slots]] w fun e w'=>e = .returned (.bool true)/\BX w w':=by
 obtain⟨mn,rg,kl,op,ar,rs,sv,sl⟩:=m
 obtain⟨mn',rg',kl',op',ar',rs',sv',sl'⟩:=m'
 dsimp only at *
 subst hn hr hs
 subst hn' hr' hs'
 have K1:=fun W (hb:BX w W)=>Yh (L.total+1) L M rg.a rg'.a rg.n rg'.n rg.c rg'.c W (Nat.lt_succ_self _) hl (qM.below hg hb) (qM.below hg' hb)
 have K2:=fun W (hb:BX w W)=>XR ar ar' d.args W (ha.below hb) (ha'.below hb) hf.an
 have K3:=fun W (hb:BX w W)=>XR sv sv' d.saved W (hv.below hb) (hv'.below hb) hf.sn
 have hkn:=hk.1
 have hkn':=hk'.1
 have hon:=ho.1
 have hon':=ho'.1
 have hcn:=hf.cn
 have hopn:=hf.on
 have hCls:Hid (∀k,k<d.classes.length->∃ (b o b' o':Nat) (nm:ByteArray) (r r':SlV),kl.a=some ⟨b,o,none⟩/\kl'.a=some ⟨b',o',none⟩/\w.cell? ⟨b,o+k*2,none⟩=some (.string nm)/\w.cell? ⟨b,o+k*2+1,none⟩=some (.slice r.a r.n r.c)/\w.cell? ⟨b',o'+k*2,none⟩=some (.string nm)/\w.cell? ⟨b',o'+k*2+1,none⟩=some (.slice r'.a r'.n r'.c) /\
  ∀W,BX w W->Calls prog 44 #[.slice r.a r.n r.c,.slice r'.a r'.n r'.c] W fun e w'=>e = .returned (.bool true)/\∃m,w'=W.drewN m):=vH fun k hkl=>by
  obtain⟨x,hx⟩:∃x,d.classes[k]?=some x:=⟨d.classes[k],vE hkl⟩
  obtain⟨b,o,e1,r,c1,c2,h1⟩:=hk.2.2 k x hx
  obtain⟨b',o',e2,r',c3,c4,h2⟩:=hk'.2.2 k x hx
  exact⟨b,o,b',o',x.name,r,r',e1,e2,c1,c2,c3,c4,fun W hb=>XR r r' x.regs W (h1.below hb) (h2.below hb) (hf.classes x (vM hx)).2.1⟩
 have hOps:Hid (∀k,k<d.ops.length->∃ (b o b' o':Nat) (x:OpD) (u u' q q':SlV),op.a=some ⟨b,o,none⟩/\op'.a=some ⟨b',o',none⟩/\(w.cell? ⟨b,o+k*6,none⟩=some (.string x.name)/\w.cell? ⟨b,o+k*6+1,none⟩=some (.string x.d.cls)/\w.cell? ⟨b,o+k*6+2,none⟩=some (.string x.d.fix)/\w.cell? ⟨b,o+k*6+3,none⟩=some (.slice u.a u.n u.c)/\w.cell? ⟨b,o+k*6+4,none⟩=some (.int .i64 x.tie)/\w.cell? ⟨b,o+k*6+5,none⟩=some (.slice q.a q.n q.c)) /\
  (w.cell? ⟨b',o'+k*6,none⟩=some (.string x.name)/\w.cell? ⟨b',o'+k*6+1,none⟩=some (.string x.d.cls)/\w.cell? ⟨b',o'+k*6+2,none⟩=some (.string x.d.fix)/\w.cell? ⟨b',o'+k*6+3,none⟩=some (.slice u'.a u'.n u'.c)/\w.cell? ⟨b',o'+k*6+4,none⟩=some (.int .i64 x.tie)/\w.cell? ⟨b',o'+k*6+5,none⟩=some (.slice q'.a q'.n q'.c)) /\
  zY w u x.uses/\zY w u' x.uses/\x.uses.length<=100000 /\
  ∀W,BX w W->Calls prog 44 #[.slice q.a q.n q.c,.slice q'.a q'.n q'.c] W fun e w'=>e = .returned (.bool true)/\∃m,w'=W.drewN m):=vH fun k hkl=>by
  obtain⟨x,hx⟩:∃x,d.ops[k]?=some x:=⟨d.ops[k],vE hkl⟩
  obtain⟨b,o,e1,u,q,c0,c1,c2,c3,c4,c5,h1,h2⟩:=ho.2.2 k x hx
  obtain⟨b',o',e2,u',q',g0,g1,g2,g3,g4,g5,h3,h4⟩:=ho'.2.2 k x hx
  have hfit:=hf.ops x (vM hx)
  exact⟨b,o,b',o',x,u,u',q,q',e1,e2,⟨c0,c1,c2,c3,c4,c5⟩,⟨g0,g1,g2,g3,g4,g5⟩,h1,h3,hfit.2.2.1,fun W hb=>XR q q' x.clob W (h2.below hb) (h4.below hb) hfit.2.2.2.2.1⟩
 obtain⟨kla,kln,klc⟩:=kl
 obtain⟨kla',kln',klc'⟩:=kl'
 obtain⟨opa,opn,opc⟩:=op
 obtain⟨opa',opn',opc'⟩:=op'
 dsimp only at *
 generalize d.classes.length=cn at *
 generalize d.ops.length=on at *
 replace hkn:=hkn.symm
 replace hkn':=hkn'.symm
 replace hon:=hon.symm
 replace hon':=hon'.symm
 subst hkn hkn' hon hon'
 replace K1:=vH K1
 replace K2:=vH K2
 replace K3:=vH K3
 obtain⟨W0,hW0⟩:∃W0,W0=(w.alloc (.cells #[.string d.name,.slice rg.a rg.n rg.c,.slice kla cn klc,.slice opa on opc,.slice ar.a ar.n ar.c,.string d.result,.slice sv.a sv.n sv.c,.int .i64 d.slots] 27)).alloc (.cells #[.string d.name,.slice rg'.a rg'.n rg'.c,.slice kla' cn klc',.slice opa' on opc',.slice ar'.a ar'.n ar'.c,.string d.result,.slice sv'.a sv'.n sv'.c,.int .i64 d.slots] 27):=⟨_,rfl⟩
 have hb0:BX w W0:=by rw[hW0];exact qi.alloc (by simp) _
 have hX:qd W0 w.heap.size 27 #[.string d.name,.slice rg.a rg.n rg.c,.slice kla cn klc,.slice opa on opc,.slice ar.a ar.n ar.c,.string d.result,.slice sv.a sv.n sv.c,.int .i64 d.slots]:=by rw[hW0];exact(qd.new _ _ _).alloc _
 have hY:qd W0 (w.heap.size+1) 27 #[.string d.name,.slice rg'.a rg'.n rg'.c,.slice kla' cn klc',.slice opa' on opc',.slice ar'.a ar'.n ar'.c,.string d.result,.slice sv'.a sv'.n sv'.c,.int .i64 d.slots]:=by
  rw[hW0]
  have:=qd.new (w.alloc (.cells #[.string d.name,.slice rg.a rg.n rg.c,.slice kla cn klc,.slice opa on opc,.slice ar.a ar.n ar.c,.string d.result,.slice sv.a sv.n sv.c,.int .i64 d.slots] 27)) 27 #[.string d.name,.slice rg'.a rg'.n rg'.c,.slice kla' cn klc',.slice opa' on opc',.slice ar'.a ar'.n ar'.c,.string d.result,.slice sv'.a sv'.n sv'.c,.int .i64 d.slots]
  rw[vZ] at this;exact this
 have x0:=hX.cell (j:=0) (v:=.string d.name) rfl
 have x1:=hX.cell (j:=1) (v:=.slice rg.a rg.n rg.c) rfl
 have x2:=hX.cell (j:=2) (v:=.slice kla cn klc) rfl
 have x3:=hX.cell (j:=3) (v:=.slice opa on opc) rfl
 have x4:=hX.cell (j:=4) (v:=.slice ar.a ar.n ar.c) rfl
 have x5:=hX.cell (j:=5) (v:=.string d.result) rfl
 have x6:=hX.cell (j:=6) (v:=.slice sv.a sv.n sv.c) rfl
 have x7:=hX.cell (j:=7) (v:=.int .i64 d.slots) rfl
 have y0:=hY.cell (j:=0) (v:=.string d.name) rfl
 have y1:=hY.cell (j:=1) (v:=.slice rg'.a rg'.n rg'.c) rfl
 have y2:=hY.cell (j:=2) (v:=.slice kla' cn klc') rfl
 have y3:=hY.cell (j:=3) (v:=.slice opa' on opc') rfl
 have y4:=hY.cell (j:=4) (v:=.slice ar'.a ar'.n ar'.c) rfl
 have y5:=hY.cell (j:=5) (v:=.string d.result) rfl
 have y6:=hY.cell (j:=6) (v:=.slice sv'.a sv'.n sv'.c) rfl
 have y7:=hY.cell (j:=7) (v:=.int .i64 d.slots) rfl
 generalize hXB:w.heap.size+1=B2 at hY y0 y1 y2 y3 y4 y5 y6 y7
 replace hW0:=vH hW0
 replace hXB:=vH hXB
 clear hg hg' hl hk hk' ho ho' ha ha' hv hv' hf hX hY
 generalize d.name=dn at *
 generalize d.result=dr at *
 generalize d.slots=ds at *
 go_enter func11,ntmps11
 go_upto_region 1 with fail
 rw[←hW0.out,hXB.out]
 go_wp2_with (first
  |(go_at_call 44;refine(K3.out _ hB2).mono ?_;rintro e W3 ⟨rfl,m3,hm3⟩;have h3:BX W0 W3:=(by subst hm3;exact below_drewN h2 m3);clear hm3)
  |(go_at_call 44;refine(K2.out _ hB1).mono ?_;rintro e W2 ⟨rfl,m2,hm2⟩;have h2:BX W0 W2:=(by subst hm2;exact below_drewN h1 m2);clear hm2;have hB2:=hb0.trans (h2.mono hb0.size);have v6:=qb h2 x6;have v6':=qb h2 y6)
  |(go_at_call 43;refine(K1.out _ hb0).mono ?_;rintro e W1 ⟨rfl,m1,hm1⟩;have h1:BX W0 W1:=(by subst hm1;exact below_drewN (kB _ _) m1);clear hm1;have hB1:=hb0.trans (h1.mono hb0.size);have u4:=qb h1 x4;have u4':=qb h1 y4))
 clear K1 K2 K3 u4 u4' v6 v6' x0 x1 x4 x5 x6 x7 y0 y1 y4 y5 y6 y7 h1 h2 hB1 hB2
 go_loopw [8] (fun iv wr=>∃k:Nat,k<=cn/\iv = .int .i64 k/\BX W0 wr) (fun iv _=>cn-(intOf iv).toNat)
 case atStart=>exact⟨0,vO _,rfl,h3⟩
 case round=>
  clear h3
  obtain⟨k,hk,rfl,hb⟩:=hrel
  have k0:(0:Int)<=k:=vN _
  have hB:=hb0.trans (hb.mono hb0.size)
  have z2:=qb hb x2
  have z2':=qb hb y2
  by_cases hlt:k<cn
  ·obtain⟨b,o,b',o',nm,⟨ra,rn,rc⟩,⟨ra',rn',rc'⟩,rfl,rfl,c0,c1,g0,g1,K⟩:=hCls.out k hlt
   dsimp only at c1 g1 K
   have K4:∀q,Calls prog 44 #[.slice ra rn rc,.slice ra' rn' rc'] (wr.drewN q) fun e w'=>e = .returned (.bool true)/\∃m,w'=(wr.drewN q).drewN m:=fun q=>K _ (below_drewN hB q)
   have k1:(k:Int)<cn:=by omega
   have hi:IntKind.i64.wrap ((k:Int)+1)=k+1:=vI _ (by omega)
   replace c0:=qb hB c0
   replace c1:=qb hB c1
   replace g0:=qb hB g0
   replace g1:=qb hB g1
   clear hCls hOps K hB x2 y2 x3 y3
   go_wp2_with fail
   go_quiet ((go_at_call 44;exact Calls.quiet_of (K4 _)))
   go_wp2_with fail
   go_quiet (fail)
   go_wp2_with fail
   exact⟨⟨k+1,by omega,by go_num,by first|exact below_drewN (below_drewN hb _) _|exact below_drewN hb _⟩,by simp[intOf];omega⟩
  ·obtain rfl:k=cn:=by omega
   clear hCls z2'
   go_wp2_with fail
   have hb':=vH hb
   clear hb hB z2 x2 y2
   go_loopw [10] (fun iv wr=>∃k:Nat,k<=on/\iv = .int .i64 k/\BX W0 wr) (fun iv _=>on-(intOf iv).toNat)
   case atStart=>exact⟨0,vO _,rfl,hb'.out⟩
   case round=>
    clear hb'
    obtain⟨q2,hk2,rfl,hb⟩:=hrel
    have q0:(0:Int)<=q2:=vN _
    have hB:=hb0.trans (hb.mono hb0.size)
    have z3:=qb hb x3
    have z3':=qb hb y3
    by_cases hlt2:q2<on
    ·obtain⟨b,o,b',o',⟨xn,⟨xc,xf⟩,xu,xt,xk⟩,⟨ua,un,uc⟩,⟨ua',un',uc'⟩,⟨qa,qn,qc⟩,⟨qa',qn',qc'⟩,rfl,rfl,⟨c0,c1,c2,c3,c4,c5⟩,⟨g0,g1,g2,g3,g4,g5⟩,hu,hu',hul,K⟩:=hOps.out q2 hlt2
     dsimp only at c0 c1 c2 c3 c4 c5 g0 g1 g2 g3 g4 g5 hu hu' hul K
     have hun:=hu.1
     have hun':=hu'.1
     dsimp only at hun hun'
     subst hun hun'
     have k1:(q2:Int)<on:=by omega
     have hi:IntKind.i64.wrap ((q2:Int)+1)=q2+1:=vI _ (by omega)
     replace c0:=qb hB c0
     replace c1:=qb hB c1
     replace c2:=qb hB c2
     replace c3:=qb hB c3
     replace c4:=qb hB c4
     replace c5:=qb hB c5
     replace g0:=qb hB g0
     replace g1:=qb hB g1
     replace g2:=qb hB g2
     replace g3:=qb hB g3
     replace g4:=qb hB g4
     replace g5:=qb hB g5
     have hbq:=qi (w:=wr) (o:=.cells #[.string xn,.string xc,.string xf,.slice ua xu.length uc,.int .i64 xt,.slice qa qn qc] 47)
     have zq3:=qb hbq z3'
     have d0:=qb hbq g0
     have d1:=qb hbq g1
     have d2:=qb hbq g2
     have d3:=qb hbq g3
     have d4:=qb hbq g4
     have d5:=qb hbq g5
     clear hbq
     obtain⟨WP,hWP⟩:∃WP,WP=(wr.alloc (.cells #[.string xn,.string xc,.string xf,.slice ua xu.length uc,.int .i64 xt,.slice qa qn qc] 47)).alloc (.cells #[.string xn,.string xc,.string xf,.slice ua' xu.length uc',.int .i64 xt,.slice qa' qn' qc'] 47):=⟨_,rfl⟩
     have hbP:BX wr WP:=by rw[hWP];exact qi.alloc (by simp) _
     have hBP:=hB.trans (hbP.mono hB.size)
     have hP:qd WP wr.heap.size 47 #[.string xn,.string xc,.string xf,.slice ua xu.length uc,.int .i64 xt,.slice qa qn qc]:=by rw[hWP];exact(qd.new _ _ _).alloc _
     have hQ:qd WP (wr.heap.size+1) 47 #[.string xn,.string xc,.string xf,.slice ua' xu.length uc',.int .i64 xt,.slice qa' qn' qc']:=by
      rw[hWP]
      have:=qd.new (wr.alloc (.cells #[.string xn,.string xc,.string xf,.slice ua xu.length uc,.int .i64 xt,.slice qa qn qc] 47)) 47 #[.string xn,.string xc,.string xf,.slice ua' xu.length uc',.int .i64 xt,.slice qa' qn' qc']
      rw[vZ] at this;exact this
     have K5:=K WP hBP
     have hE:∀ (a b:ByteArray) (W:World),(binOp .neq 44 (.agg #[.string a,.string b]) (.agg #[.string a,.string b])).run prog W = .ok (.bool false) W:=fun a b W=>by rw[qgv,Qi,Qi];simp
     have hE1:=hE xc xf
     have hNx:∀W,BX WP W->BX W0 W:=fun W hW=>hb.trans ((hbP.trans (hW.mono hbP.size)).mono hb.size)
     replace hWP:=vH hWP
     replace hNx:=vH hNx
     replace hu:=vH hu
     replace hu':=vH hu'
     replace hE:=vH hE
     obtain⟨BQ,hBQ⟩:∃BQ,BQ=wr.heap.size+1:=⟨_,rfl⟩
     rw[←hBQ] at hQ
     replace hBQ:=vH hBQ
     clear hOps K
     go_upto_region 19 with fail
     rw[←hWP.out,←hBQ.out]
     have p0:=hP.cell (j:=0) (v:=.string xn) rfl
     have p1:=hP.cell (j:=1) (v:=.string xc) rfl
     have p2:=hP.cell (j:=2) (v:=.string xf) rfl
     have p3:=hP.cell (j:=3) (v:=.slice ua xu.length uc) rfl
     have p4:=hP.cell (j:=4) (v:=.int .i64 xt) rfl
     have p5:=hP.cell (j:=5) (v:=.slice qa qn qc) rfl
     have r0:=hQ.cell (j:=0) (v:=.string xn) rfl
     have r1:=hQ.cell (j:=1) (v:=.string xc) rfl
     have r2:=hQ.cell (j:=2) (v:=.string xf) rfl
     have r3:=hQ.cell (j:=3) (v:=.slice ua' xu.length uc') rfl
     have r4:=hQ.cell (j:=4) (v:=.int .i64 xt) rfl
     have r5:=hQ.cell (j:=5) (v:=.slice qa' qn' qc') rfl
     clear c0 c1 c2 c3 c4 c5 g0 g1 g2 g3 g4 g5 d0 d1 d2 d3 d4 d5 zq3 z3 z3' hP hQ
     obtain⟨PB,hPB⟩:∃PB,PB=wr.heap.size:=⟨_,rfl⟩
     rw[←hPB] at p0 p1 p2 p3 p4 p5 ⊢
     replace hPB:=vH hPB
     go_wp2_with (go_at_call 44;refine K5.mono ?_;clear K5;rintro e W5 ⟨rfl,m5,hm5⟩;have h5:BX WP W5:=(by subst hm5;exact below_drewN (kB _ _) m5);clear hm5;have p0':=qb h5 p0;have p1':=qb h5 p1;have p2':=qb h5 p2;have p3':=qb h5 p3;have p4':=qb h5 p4;have r0':=qb h5 r0;have r1':=qb h5 r1;have r2':=qb h5 r2;have r3':=qb h5 r3;have r4':=qb h5 r4)
     clear p0' p1' p2' p3' p4' r0' r1' r2' r3' r4' hE1
     go_loopw [14] (fun iv wr=>∃k:Nat,k<=xu.length/\iv = .int .i64 k/\BX WP wr) (fun iv _=>xu.length-(intOf iv).toNat)
     case atStart=>exact⟨0,vO _,rfl,h5⟩
     case round=>
      clear h5
      obtain⟨q3,hk3,rfl,h6⟩:=hrel
      have q30:(0:Int)<=q3:=vN _
      have p3':=qb h6 p3
      have r3':=qb h6 r3
      by_cases hlt3:q3<xu.length
      ·obtain⟨v,hv⟩:∃v,xu[q3]?=some v:=⟨xu[q3],vE hlt3⟩
       have hB6:=hBP.trans (h6.mono hBP.size)
       obtain⟨b1,o1,f1,s0,s1⟩:=hu.out.2.2 q3 v hv
       obtain⟨b2,o2,f2,t0,t1⟩:=hu'.out.2.2 q3 v hv
       dsimp only at f1 f2
       subst f1 f2
       have s0':=qb hB6 s0
       have s1':=qb hB6 s1
       have t0':=qb hB6 t0
       have t1':=qb hB6 t1
       have hE2:=hE.out v.cls v.fix
       have k31:(q3:Int)<xu.length:=by omega
       have hi3:IntKind.i64.wrap ((q3:Int)+1)=q3+1:=vI _ (by omega)
       clear s0 s1 t0 t1 hB6 hv
       go_wp2_with fail
       go_quiet (fail)
       go_wp2_with fail
       exact⟨⟨q3+1,by omega,by go_num,below_drewN h6 _⟩,by simp[intOf];omega⟩
      ·obtain rfl:q3=xu.length:=by omega
       have hfin:=vH (hNx.out _ h6)
       go_wp2_with fail
       exact⟨⟨q2+1,by omega,by go_num,hfin.out⟩,by simp[intOf];omega⟩
    ·obtain rfl:q2=on:=by omega
     clear hOps
     go_wp2_with fail
     go_ret
     exact⟨rfl,hB⟩
end Go.Proofs.YtomlgdnafeeeiaaGreatDoor
