
import Derived.Test.YtomlgdnafeeeiaaGreatDoorTiD
set_option maxHeartbeats 1000000
set_option maxRecDepth 100000
/-
 TableKeeps of any machine: the walk.
-/
namespace Go.Proofs.YtomlgdnafeeeiaaGreatDoor
open Proofs.Tryz
open Go.RowKit
def qih(lo hi:Nat)(V:World)(t:TypeId)(size off:Nat)(t2:TypeId)(size2:Nat)(a:Option Addr)(n:Nat):Prop:=
 ∀i,i<n->∃ (g:Nat) (cs:Array Value) (ra:Option Addr) (rn rc:Nat),a=some ⟨g,0,none⟩/\lo<=g/\g<hi/\qd V g t cs/\n*size<=cs.size/\cs[i*size+off]?=some (.slice ra rn rc)/\rn<=100000/\YG lo hi V t2 size2 ra rn
theorem qih.cls{lo:Nat}{A V:World}{s:SlV}{l:List qp}(h:XW lo A s l)(hl:∀k,k∈l->k.regs.length<=100000)(hb:BX A V):qih lo A.heap.size V 42 2 1 9 1 s.a s.n:=fun i hi=>by
 obtain⟨vs,h1,h2,h3⟩:=h
 have hn:=(jk h2).1
 obtain⟨p,hp⟩:∃p,vs[i]?=some p:=⟨vs[i]'(by omega),vE _⟩
 obtain⟨b,e1,c1⟩:=zj h2 (ze (f:=jK) (size:=2) (fun _=>rfl) hp (r:=1) (v:=.slice p.2.a p.2.n p.2.c) rfl)
 have hbd:p.2.n<=100000:=by rw[(jk (h3 _ (vM hp))).1];exact hl _ (by rw[←h1];exact vQ (vM hp))
 obtain⟨⟨nm,l0⟩,⟨ra,rn,rc⟩⟩:=p
 have h4:=h3 _ (vM hp)
 have h5:=(jk h4).1
 dsimp only at h4 h5 c1
 rw[←h5] at h4
 have hO:=YG.of h4 hb
 obtain⟨sa,sn,sc⟩:=s
 dsimp only at hn e1 hi ⊢
 subst hn
 have hO2:=YG.of h2 hb
 rcases hO2 with h6|⟨g,cs,e2,g1,g2,g3,g4⟩
 ·have h7:vs.length=0:=h6
  omega
 ·rw[e1] at e2
  obtain rfl:b=g:=by injection e2 with e2;injection e2
  refine⟨b,cs,ra,rn,rc,e1,g1,g2,g3,g4,?_,hbd,hO⟩
  have:=qb hb c1
  rw[cell_of_row V b _ cs _ _ g3] at this
  exact this
theorem qih.ops{lo:Nat}{A V:World}{s:SlV}{l:List OpD}(h:XX lo A s l)(hl:∀o,o∈l->o.uses.length<=100000)(hb:BX A V):qih lo A.heap.size V 47 6 3 44 2 s.a s.n:=fun i hi=>by
 obtain⟨vs,h1,h2,h3⟩:=h
 have hn:=(jk h2).1
 obtain⟨p,hp⟩:∃p,vs[i]?=some p:=⟨vs[i]'(by omega),vE _⟩
 obtain⟨b,e1,c1⟩:=zj h2 (ze (f:=jL) (size:=6) (fun _=>rfl) hp (r:=3) (v:=.slice p.2.1.a p.2.1.n p.2.1.c) rfl)
 have hbd:p.2.1.n<=100000:=by rw[(jk (h3 _ (vM hp)).1).1];exact hl _ (by rw[←h1];exact vQ (vM hp))
 obtain⟨x,⟨ra,rn,rc⟩,q⟩:=p
 have h4:=(h3 _ (vM hp)).1
 have h5:=(jk h4).1
 dsimp only at h4 h5 c1
 rw[←h5] at h4
 have hO:=YG.of h4 hb
 obtain⟨sa,sn,sc⟩:=s
 dsimp only at hn e1 hi ⊢
 subst hn
 have hO2:=YG.of h2 hb
 rcases hO2 with h6|⟨g,cs,e2,g1,g2,g3,g4⟩
 ·have h7:vs.length=0:=h6
  omega
 ·rw[e1] at e2
  obtain rfl:b=g:=by injection e2 with e2;injection e2
  refine⟨b,cs,ra,rn,rc,e1,g1,g2,g3,g4,?_,hbd,hO⟩
  have:=qb hb c1
  rw[cell_of_row V b _ cs _ _ g3] at this
  exact this
def qgJ(V W:World)(t:TypeId)(a:Option Addr)(q:Nat):Prop:=∀g cs,a=some ⟨g,0,none⟩->qd V g t cs->∃cs',qd W g t cs'/\cs'.size=cs.size/\∀j,q<=j->cs'[j]?=cs[j]?
theorem qeP{V:World}{a b:Nat}{t u:TypeId}{cs ds:Array Value}(h:qd V a t cs)(k:qd V b u ds)(hne:t≠u):a≠b:=fun e=>by
 subst e
 have:=(show _=_ from h).symm.trans k
 cases this
 exact hne rfl
theorem qgg{w:World}{m:MV}{d:qz}{L:qg}(hE:Env w)(hA:Zi w)(h:Xf w m d L)(hbits:Go.Proofs.TabAt 0 Lib.deBruijn64tab w)
 (hMk:∀W,BX w W->Calls prog 6 #[m.val] W fun e w'=>(∃ (p:Option Addr) (x:Int),e = .returned (.tuple #[.pointer p,.int .i64 x]))/\BX W w')
 (hAl:∀W,BX w W->Calls prog 4 #[] W fun e w'=>e = .returned (.bool true)/\BX W w') :
 Calls prog 3 #[m.val] w fun e w'=>e = .returned (.bool true)/\BX w w':=by
 obtain⟨mn,rg,kl,op,ar,rs,sv,sl⟩:=m
 show Calls prog 3 #[.agg #[.string mn,.slice rg.a rg.n rg.c,.slice kl.a kl.n kl.c,.slice op.a op.n op.c,.slice ar.a ar.n ar.c,.string rs,.slice sv.a sv.n sv.c,.int .i64 sl]] w _
 obtain⟨W0,hW0⟩:∃W0,W0=w.alloc (.cells #[.string mn,.slice rg.a rg.n rg.c,.slice kl.a kl.n kl.c,.slice op.a op.n op.c,.slice ar.a ar.n ar.c,.string rs,.slice sv.a sv.n sv.c,.int .i64 sl] 27):=⟨_,rfl⟩
 have hb0:BX w W0:=by rw[hW0];exact qi
 have hbx:qd W0 w.heap.size 27 #[.string mn,.slice rg.a rg.n rg.c,.slice kl.a kl.n kl.c,.slice op.a op.n op.c,.slice ar.a ar.n ar.c,.string rs,.slice sv.a sv.n sv.c,.int .i64 sl]:=by rw[hW0];exact qd.new _ _ _
 have A:=hAl W0 hb0
 have hX:∀W,BX W0 W->W.cell? ⟨w.heap.size,0,none⟩=some (.string mn)/\W.cell? ⟨w.heap.size,1,none⟩=some (.slice rg.a rg.n rg.c)/\W.cell? ⟨w.heap.size,2,none⟩=some (.slice kl.a kl.n kl.c)/\W.cell? ⟨w.heap.size,3,none⟩=some (.slice op.a op.n op.c)/\W.cell? ⟨w.heap.size,4,none⟩=some (.slice ar.a ar.n ar.c)/\W.cell? ⟨w.heap.size,5,none⟩=some (.string rs)/\W.cell? ⟨w.heap.size,6,none⟩=some (.slice sv.a sv.n sv.c)/\W.cell? ⟨w.heap.size,7,none⟩=some (.int .i64 sl):=fun W hb=>
  have q:=hbx.below hb hbx.lt
  ⟨q.cell rfl,q.cell rfl,q.cell rfl,q.cell rfl,q.cell rfl,q.cell rfl,q.cell rfl,q.cell rfl⟩
 replace hX:=vH hX
 replace hW0:=vH hW0
 replace h:=vH h
 clear hAl
 go_enter func3,ntmps3
 go_upto_region 1 with fail
 rw[←hW0.out]
 go_upto_region 2 with(go_at_call 4;refine A.mono ?_;clear A;rintro e W1 ⟨rfl,hb1⟩)
 have hB1:BX w W1:=hb0.trans (hb1.mono hb0.size)
 obtain⟨y0,y1,y2,y3,y4,y5,y6,y7⟩:=hX.out _ hb1
 have h1:=vH (h.out.below hB1)
 have KB:=qlq h1.out
 change Calls _ _ #[.agg #[.string mn,.slice rg.a rg.n rg.c,.slice kl.a kl.n kl.c,.slice op.a op.n op.c,.slice ar.a ar.n ar.c,.string rs,.slice sv.a sv.n sv.c,.int .i64 sl]] W1 _ at KB
 clear hbx
 go_upto_region 3 with(go_at_call 5;refine KB.mono ?_;clear KB;rintro e W2 ⟨g,rfl,hg,hb2⟩)
 have hB2:BX w W2:=hB1.trans (hb2.mono hB1.size)
 have hX2:=hb1.trans (hb2.mono hb1.size)
 obtain⟨z0,z1,z2,z3,z4,z5,z6,z7⟩:=hX.out _ hX2
 clear y0 y1 y2 y3 y4 y5 y6 y7
 cases g with
 |true=>
  have K:=hMk W2 hB2
  change Calls _ _ #[.agg #[.string mn,.slice rg.a rg.n rg.c,.slice kl.a kl.n kl.c,.slice op.a op.n op.c,.slice ar.a ar.n ar.c,.string rs,.slice sv.a sv.n sv.c,.int .i64 sl]] W2 _ at K
  clear hg hMk
  go_wp2_with (go_at_call 6;refine K.mono ?_;clear K;rintro e W3 ⟨⟨p,x,rfl⟩,hb3⟩)
  go_ret
  exact⟨rfl,hB2.trans (hb3.mono hB2.size)⟩
 |false=>
  have hN:=hg rfl
  clear hMk hg
  have hcap:=h.out.regs.2.1
  dsimp only at hcap
  have hM1:=qhE (m:=⟨mn,rg,kl,op,ar,rs,sv,sl⟩) (hE.below hB1) (hA.below hB1) h1.out hN
  have hI1:=qhF (m:=⟨mn,rg,kl,op,ar,rs,sv,sl⟩) h1.out hN
  have hM2:=hM1.belowT hb2
  have hI2:=hI1.below hb2
  have hsame:=h.out.same
  have K:=qcT (m:=⟨mn,rg,kl,op,ar,rs,sv,sl⟩) hsame hI2 hM2.regs hcap
  change Calls _ _ #[.agg #[.string mn,.slice rg.a rg.n rg.c,.slice kl.a kl.n kl.c,.slice op.a op.n op.c,.slice ar.a ar.n ar.c,.string rs,.slice sv.a sv.n sv.c,.int .i64 sl]] W2 _ at K
  by_cases hx:yu d L=0
  ·have hMK:∀W,BX W2 W->Calls prog 6 #[.agg #[.string mn,.slice rg.a rg.n rg.c,.slice kl.a kl.n kl.c,.slice op.a op.n op.c,.slice ar.a ar.n ar.c,.string rs,.slice sv.a sv.n sv.c,.int .i64 sl]] W (qcn W ⟨mn,rg,kl,op,ar,rs,sv,sl⟩ d L):=fun W hb=>qcT (m:=⟨mn,rg,kl,op,ar,rs,sv,sl⟩) hsame (hI2.below hb) (hM2.belowT hb).regs hcap
   have ht:=qeH h.out
   have hs:=XD hM1 ht hx
   have hCp:∀W,BX W2 W->Calls prog 7 #[.agg #[.string mn,.slice rg.a rg.n rg.c,.slice kl.a kl.n kl.c,.slice op.a op.n op.c,.slice ar.a ar.n ar.c,.string rs,.slice sv.a sv.n sv.c,.int .i64 sl]] W (qeU W d L):=fun W hb=>by
    have hM:=hM2.belowT hb
    exact qkS ⟨mn,rg,kl,op,ar,rs,sv,sl⟩ d L L W hM.same hM.result hM.slots (hM.regs.slice hs.fit.total fun _=>hcap) hs.fit.total hM.classes hM.ops hM.args hM.saved hs.fit
   replace hMK:=vH hMK
   replace hCp:=vH hCp
   replace hM2:=vH hM2
   replace hI2:=vH hI2
   replace hs:=vH hs
   have hx0:=vH hx
   have ht0:=vH ht
   have hM10:=vH hM1
   replace hsame:=vH hsame
   clear hM1 hI1 h1 hN ht
   go_upto_region 4 with(go_at_call 6;refine K.mono ?_;clear K;rintro e W3 ⟨hb3,h2,_⟩;obtain⟨T0,nV0,pV0,cV0,rfl,_,_⟩:=h2 hx0.out;clear h2)
   have hX3:=hX2.trans (hb3.mono hX2.size)
   have hB3:=hB2.trans (hb3.mono hB2.size)
   obtain⟨y0,y1,y2,y3,y4,y5,y6,y7⟩:=hX.out _ hX3
   clear z0 z1 z2 z3 z4 z5 z6 z7
   have KC:=hCp.out W3 hb3
   go_upto_region 7 with(go_at_call 7;refine KC.mono ?_;clear KC;rintro e W4 ⟨hb4,⟨n0,⟨ga,gn,gc⟩,⟨ka,kn,kc⟩,⟨pa,pn,pc⟩,⟨aa,an,ac⟩,n1,⟨va,vn,vc⟩,ns⟩,M',rfl,hOw,hlk⟩;replace hOw:=vH hOw;replace hlk:=vH hlk)
   obtain⟨W5,hW5⟩:∃W5,W5=W4.alloc (.cells #[.string n0,.slice ga gn gc,.slice ka kn kc,.slice pa pn pc,.slice aa an ac,.string n1,.slice va vn vc,.int .i64 ns] 27):=⟨_,rfl⟩
   have hb5:BX W4 W5:=by rw[hW5];exact qi
   have hO5:qd W5 W4.heap.size 27 #[.string n0,.slice ga gn gc,.slice ka kn kc,.slice pa pn pc,.slice aa an ac,.string n1,.slice va vn vc,.int .i64 ns]:=by rw[hW5];exact qd.new _ _ _
   rw[←hW5]
   replace hW5:=vH hW5
   have hb24:=hb3.trans (hb4.mono hb3.size)
   have hb25:=hb24.trans (hb5.mono hb24.size)
   have hX4:=hX3.trans (hb4.mono hX3.size)
   have hX5:=hX4.trans (hb5.mono hX4.size)
   have hu:∀o:OpD,o∈d.ops->o.uses.length<=100000:=hM2.out.oub
   have hM4:zP W4 ⟨n0,⟨ga,gn,gc⟩,⟨ka,kn,kc⟩,⟨pa,pn,pc⟩,⟨aa,an,ac⟩,n1,⟨va,vn,vc⟩,ns⟩ d M':=hOw.out.at_ (hM2.out.env.below hb24) (hM2.out.envA.below hb24) hu
   have K7:=qeD ⟨n0,⟨ga,gn,gc⟩,⟨ka,kn,kc⟩,⟨pa,pn,pc⟩,⟨aa,an,ac⟩,n1,⟨va,vn,vc⟩,ns⟩ d M' W5 (hM4.belowT hb5) ht0.out (fun _=>hOw.out.cap)
   change Calls _ _ #[.agg #[.string n0,.slice ga gn gc,.slice ka kn kc,.slice pa pn pc,.slice aa an ac,.string n1,.slice va vn vc,.int .i64 ns]] W5 _ at K7
   have hx':zV qj d (zB M') (qC M') (qQ M')=0:=by
    rw[←qaT hlk.out,show qC M'=qC L from(Ya hlk.out).symm,show qQ M'=qQ L from(qaU hlk.out).symm];exact hx0.out
   have o0:=hO5.cell (j:=0) (v:=.string n0) rfl
   have o1:=hO5.cell (j:=1) (v:=.slice ga gn gc) rfl
   have o2:=hO5.cell (j:=2) (v:=.slice ka kn kc) rfl
   have o3:=hO5.cell (j:=3) (v:=.slice pa pn pc) rfl
   have o4:=hO5.cell (j:=4) (v:=.slice aa an ac) rfl
   have o5:=hO5.cell (j:=5) (v:=.string n1) rfl
   have o6:=hO5.cell (j:=6) (v:=.slice va vn vc) rfl
   have o7:=hO5.cell (j:=7) (v:=.int .i64 ns) rfl
   replace hx':=vH hx'
   clear y0 y1 y2 y3 y4 y5 y6 y7 hM4 hu
   go_upto_region 8 with(go_at_call 8;refine K7.mono ?_;clear K7;rintro e W6 ⟨hb6,(⟨hne,_⟩|⟨_,C,M,tb,rl,cl,ol,rfl,hC0,hTab⟩)⟩;· exact absurd hx'.out hne)
   replace hTab:=vH hTab
   have hb26:=hb25.trans (hb6.mono hb25.size)
   have hX6:=hX5.trans (hb6.mono hX5.size)
   obtain⟨y0,y1,y2,y3,y4,y5,y6,y7⟩:=hX.out _ hX6
   have K8:=hMK.out W6 hb26
   go_wp2_with (first
    |(go_at_call 9;refine(qlQ _ _).mono ?_;rintro e W8 ⟨rfl,rfl⟩)
    |(go_at_call 6;refine K8.mono ?_;clear K8;rintro e W7 ⟨hb7,h2,_⟩;obtain⟨T,nV,pV,cV,rfl,hSt,hLs⟩:=h2 hx0.out;clear h2;replace hSt:=vH hSt;replace hLs:=vH hLs))
   have hb57:BX W5 W7:=hb6.trans (hb7.mono hb6.size)
   have hV4:BX W4 W7:=hb5.trans (hb57.mono hb5.size)
   have c1:=qb hb57 o1
   have c2:=qb hb57 o2
   have c3:=qb hb57 o3
   have c4:=qb hb57 o4
   have c6:=qb hb57 o6
   have hR1:Hid (YG W3.heap.size W4.heap.size W7 40 4 ga gn):=vH (by
    obtain⟨xs,hr⟩:=hOw.out.rrow
    have hn:=(jk hr).1
    dsimp only at hn hr
    rw[←hn] at hr
    exact YG.of hr hV4)
   have hS1:Hid (YG W3.heap.size W4.heap.size W7 9 1 va vn):=vH (by
    have hr:=hOw.out.saved
    have hn:=(jk hr).1
    dsimp only at hn hr
    rw[←hn] at hr
    exact YG.of hr hV4)
   have hA1:Hid (YG W3.heap.size W4.heap.size W7 9 1 aa an):=vH (by
    have hr:=hOw.out.args
    have hn:=(jk hr).1
    dsimp only at hn hr
    rw[←hn] at hr
    exact YG.of hr hV4)
   have hK1:=vH (qih.cls hOw.out.classes (fun k hk=>by have:=(hs.out.kls k hk).2.1;omega) hV4)
   have hP1:=vH (qih.ops hOw.out.ops (fun o ho=>by have:=(hs.out.opk o ho).1;omega) hV4)
   have hgn:gn<=1000:=by
    obtain⟨xs,hr⟩:=hOw.out.rrow
    have h1:=(jk hr).1
    have h2:=qg.length_total M'
    have h3:=hlk.out.total
    have h4:=hs.out.fit.total
    dsimp only at h1
    omega
   have hkn:kn<=64:=by have h1:=hOw.out.classes.at_.1;have h2:=hs.out.cn;dsimp only at h1;omega
   have hpn:pn<=64:=by have h1:=hOw.out.ops.at_.1;have h2:=hs.out.on;dsimp only at h1;omega
   have hvn:vn<=64:=by have h1:=(jk hOw.out.saved).1;have h2:=hs.out.sn.1;dsimp only at h1;omega
   have han:an<=64:=by have h1:=(jk hOw.out.args).1;have h2:=hs.out.an.1;dsimp only at h1;omega
   obtain⟨iR,hiR,hiR0,hiR1,hiR2⟩:=info_parts qaW
   obtain⟨iC,hiC,hiC0,hiC1,hiC2⟩:=info_parts Jz
   obtain⟨iO,hiO,hiO0,hiO1,hiO2⟩:=info_parts qcX
   obtain⟨iP,hiP,hiP0,hiP1,hiP2⟩:=info_parts YE
   clear o0 o1 o2 o3 o4 o5 o6 o7 y0 y1 y2 y3 y4 y5 y6 y7 hO5
   go_loopw [12] (fun iv wr=>∃i:Nat,i<=gn/\iv = .int .i64 i/\Hid (Sp [40] W3.heap.size W4.heap.size W7 wr)) (fun iv _=>gn-(intOf iv).toNat)
   case atStart=>exact⟨0,vO _,rfl,vH (Sp.refl _ _ _ _)⟩
   case round=>
    obtain⟨i,hi,rfl,hsp⟩:=hrel
    have i0:(0:Int)<=i:=vN _
    have d1:=hsp.out.cell (b:=W4.heap.size) (.inr (vL _)) c1
    by_cases hlt:i<gn
    ·rcases hR1.out with h0|⟨g,cs,rfl,g1,g2,hC,hsz⟩
     ·omega
     obtain⟨cs',hC',hsz'⟩:=hsp.out.cells _ _ _ hC
     have f0:=hC'.cell (Array.getElem?_eq_getElem (show i*4<cs'.size by omega))
     have f1:=hC'.cell (Array.getElem?_eq_getElem (show i*4+1<cs'.size by omega))
     have f2:=hC'.cell (Array.getElem?_eq_getElem (show i*4+2<cs'.size by omega))
     have f3:=hC'.cell (Array.getElem?_eq_getElem (show i*4+3<cs'.size by omega))
     have fr:=fun j=>hC'.frozen j
     have i1:(i:Int)<gn:=by omega
     have hiw:IntKind.i64.wrap ((i:Int)+1)=i+1:=vI _ (by omega)
     generalize cs'[i*4]'(by omega)=v0 at f0
     generalize cs'[i*4+1]'(by omega)=v1 at f1
     generalize cs'[i*4+2]'(by omega)=v2 at f2
     generalize cs'[i*4+3]'(by omega)=v3 at f3
     have hC9:=vH hC
     clear hC hC' hsz hsz'
     go_wp2_with fail
     refine⟨⟨i+1,by omega,by go_num,vH ?_⟩,by simp[intOf];omega⟩
     (repeat' (first|with_reducible exact hsp.out|refine Sp.set ?_ hC9.out (by simp) g1 g2 _ _))
    ·obtain rfl:i=gn:=by omega
     clear hR1 c1
     go_wp2_with fail
     clear d1
     generalize wr=V1 at *
     go_loopw [13] (fun iv wr=>∃i:Nat,i<=kn/\iv = .int .i64 i/\Hid (Sp [40,9,42] W3.heap.size W4.heap.size W7 wr)/\Hid (qgJ W7 wr 42 ka (i*2))) (fun iv _=>kn-(intOf iv).toNat)
     case atStart=>exact⟨0,vO _,rfl,vH (hsp.out.more (by simp)),vH fun g cs _ hc=>⟨cs,hsp.out.stay _ _ _ (by decide) hc,rfl,fun _ _=>rfl⟩⟩
     case round=>
      clear hsp
      obtain⟨i,hi,rfl,hsp,hkq⟩:=hrel
      have i0:(0:Int)<=i:=vN _
      have d2:=hsp.out.cell (b:=W4.heap.size) (.inr (vL _)) c2
      by_cases hlt:i<kn
      ·obtain⟨g,cs,ra,rn,rc,rfl,g1,g2,hC,hsz,hent,hbd,hO1⟩:=hK1.out i hlt
       obtain⟨cs',hC',hsz',hkeep⟩:=hkq.out g cs rfl hC
       have hent':cs'[i*2+1]?=some (.slice ra rn rc):=(hkeep _ (by omega)).trans hent
       have i1:(i:Int)<kn:=by omega
       have hiw:IntKind.i64.wrap ((i:Int)+1)=i+1:=vI _ (by omega)
       have hO1':=vH hO1
       have hCC:=vH hC
       have hkeep':=vH hkeep
       have hC2:=vH hC'
       clear hO1 hC hC' hkeep hkq hent
       go_wp2_with fail
       clear d2
       generalize wr=V2 at *
       go_loopw [14] (fun iv wr=>∃k:Nat,k<=rn/\iv = .int .i64 k/\Hid (Sp [40,9,42] W3.heap.size W4.heap.size W7 wr)/\Hid (qd wr g 42 cs')) (fun iv _=>rn-(intOf iv).toNat)
       case atStart=>exact⟨0,vO _,rfl,hsp,hC2⟩
       case round=>
        clear hsp hC2
        obtain⟨k,hk,rfl,hsp,hC2⟩:=hrel
        have k0:(0:Int)<=k:=vN _
        have d2:=hsp.out.cell (b:=W4.heap.size) (.inr (vL _)) c2
        have eh:=hC2.out.cell hent'
        by_cases hlt2:k<rn
        ·rcases hO1'.out with h0|⟨gs,c5,rfl,s1,s2,hCs,hss⟩
         ·omega
         obtain⟨c7,hC7,hs7⟩:=hsp.out.cells _ _ _ hCs
         have es:=hC7.cell (Array.getElem?_eq_getElem (show k<c7.size by omega))
         generalize c7[k]'(by omega)=y at es
         have fr:=hC7.frozen k
         have hne:g≠gs:=qeP hCC.out hCs (by decide)
         have k1:(k:Int)<rn:=by omega
         have hkw:IntKind.i64.wrap ((k:Int)+1)=k+1:=vI _ (by omega)
         have q1:=vH (hsp.out.set hCs (by simp) s1 s2 k (.string ⟨#[103,111,110,101]⟩))
         have q2:=vH (hC2.out.other hne (j:=k) (.string ⟨#[103,111,110,101]⟩))
         clear hCs hC7 hsp hC2
         go_wp2_with fail
         exact⟨⟨k+1,by omega,by go_num,q1,q2⟩,by simp[intOf];omega⟩
        ·obtain rfl:k=rn:=by omega
         have f0:=hC2.out.cell (Array.getElem?_eq_getElem (show i*2<cs'.size by omega))
         generalize cs'[i*2]'(by omega)=v0 at f0
         have fr:=fun j=>hC2.out.frozen j
         have hkf:Hid (∀v0 v1:Value,qgJ W7 ((wr.setCell ⟨g,i*2,none⟩ v0).setCell ⟨g,i*2+1,none⟩ v1) 42 (some ⟨g,0,none⟩) ((i+1)*2)):=vH fun v0 v1 g' cs1 e hc=>by
          obtain rfl:g=g':=by injection e with e;injection e
          have:=(show _=_ from hCC.out).symm.trans hc
          cases this
          refine⟨_,(hC2.out.set v0).set v1,by rw[Array.size_setIfInBounds,Array.size_setIfInBounds];exact hsz',fun j hj=>?_⟩
          rw[Array.getElem?_setIfInBounds_ne (by omega),Array.getElem?_setIfInBounds_ne (by omega)]
          exact hkeep'.out j (by omega)
         clear hC2
         go_wp2_with fail
         refine⟨⟨i+1,by omega,by go_num,vH ?_,vH (hkf.out _ _)⟩,by simp[intOf];omega⟩
         (repeat' (first|with_reducible exact hsp.out|refine Sp.set ?_ hCC.out (by simp) g1 g2 _ _))
      ·obtain rfl:i=kn:=by omega
       clear hK1 c2 hkq
       go_wp2_with fail
       clear d2
       generalize wr=V3 at *
       go_loopw [15] (fun iv wr=>∃i:Nat,i<=pn/\iv = .int .i64 i/\Hid (Sp MTs W3.heap.size W4.heap.size W7 wr)/\Hid (qgJ W7 wr 47 pa (i*6))) (fun iv _=>pn-(intOf iv).toNat)
       case atStart=>exact⟨0,vO _,rfl,vH (hsp.out.more (by simp[MTs])),vH fun g cs _ hc=>⟨cs,hsp.out.stay _ _ _ (by decide) hc,rfl,fun _ _=>rfl⟩⟩
       case round=>
        clear hsp
        obtain⟨i,hi,rfl,hsp,hkq⟩:=hrel
        have i0:(0:Int)<=i:=vN _
        have d3:=hsp.out.cell (b:=W4.heap.size) (.inr (vL _)) c3
        by_cases hlt:i<pn
        ·obtain⟨g,cs,ra,rn,rc,rfl,g1,g2,hC,hsz,hent,hbd,hO1⟩:=hP1.out i hlt
         obtain⟨cs',hC',hsz',hkeep⟩:=hkq.out g cs rfl hC
         have hent':cs'[i*6+3]?=some (.slice ra rn rc):=(hkeep _ (by omega)).trans hent
         have i1:(i:Int)<pn:=by omega
         have hiw:IntKind.i64.wrap ((i:Int)+1)=i+1:=vI _ (by omega)
         have hO1':=vH hO1
         have hCC:=vH hC
         have hkeep':=vH hkeep
         have hC2:=vH hC'
         clear hO1 hC hC' hkeep hkq hent
         go_wp2_with fail
         clear d3
         generalize wr=V4 at *
         go_loopw [16] (fun iv wr=>∃k:Nat,k<=rn/\iv = .int .i64 k/\Hid (Sp MTs W3.heap.size W4.heap.size W7 wr)/\Hid (qd wr g 47 cs')) (fun iv _=>rn-(intOf iv).toNat)
         case atStart=>exact⟨0,vO _,rfl,hsp,hC2⟩
         case round=>
          clear hsp hC2
          obtain⟨k,hk,rfl,hsp,hC2⟩:=hrel
          have k0:(0:Int)<=k:=vN _
          have d3:=hsp.out.cell (b:=W4.heap.size) (.inr (vL _)) c3
          have eh:=hC2.out.cell hent'
          by_cases hlt2:k<rn
          ·rcases hO1'.out with h0|⟨gs,c5,rfl,s1,s2,hCs,hss⟩
           ·omega
           obtain⟨c7,hC7,hs7⟩:=hsp.out.cells _ _ _ hCs
           have es:=hC7.cell (Array.getElem?_eq_getElem (show k*2<c7.size by omega))
           have et:=hC7.cell (Array.getElem?_eq_getElem (show k*2+1<c7.size by omega))
           generalize c7[k*2]'(by omega)=y at es
           generalize c7[k*2+1]'(by omega)=y2 at et
           have fr:=fun j=>hC7.frozen j
           have hne:g≠gs:=qeP hCC.out hCs (by decide)
           have k1:(k:Int)<rn:=by omega
           have hkw:IntKind.i64.wrap ((k:Int)+1)=k+1:=vI _ (by omega)
           have hCs9:=vH hCs
           clear hCs hC7
           go_wp2_with fail
           refine⟨⟨k+1,by omega,by go_num,vH ?_,vH ?_⟩,by simp[intOf];omega⟩
           ·(repeat' (first|with_reducible exact hsp.out|refine Sp.set ?_ hCs9.out (by simp[MTs]) s1 s2 _ _))
           ·(repeat' (first|with_reducible exact hC2.out|refine qd.other ?_ hne _))
          ·obtain rfl:k=rn:=by omega
           have f0:=hC2.out.cell (Array.getElem?_eq_getElem (show i*6<cs'.size by omega))
           have f1:=hC2.out.cell (Array.getElem?_eq_getElem (show i*6+1<cs'.size by omega))
           have f2:=hC2.out.cell (Array.getElem?_eq_getElem (show i*6+2<cs'.size by omega))
           have f4:=hC2.out.cell (Array.getElem?_eq_getElem (show i*6+4<cs'.size by omega))
           have f5:=hC2.out.cell (Array.getElem?_eq_getElem (show i*6+5<cs'.size by omega))
           generalize cs'[i*6]'(by omega)=v0 at f0
           generalize cs'[i*6+1]'(by omega)=v1 at f1
           generalize cs'[i*6+2]'(by omega)=v2 at f2
           generalize cs'[i*6+4]'(by omega)=v4 at f4
           generalize cs'[i*6+5]'(by omega)=v5 at f5
           have fr:=fun j=>hC2.out.frozen j
           have hkf:Hid (∀u0 u1 u2 u3 u4 u5:Value,qgJ W7 ((((((wr.setCell ⟨g,i*6,none⟩ u0).setCell ⟨g,i*6+1,none⟩ u1).setCell ⟨g,i*6+2,none⟩ u2).setCell ⟨g,i*6+3,none⟩ u3).setCell ⟨g,i*6+4,none⟩ u4).setCell ⟨g,i*6+5,none⟩ u5) 47 (some ⟨g,0,none⟩) ((i+1)*6)):=vH fun u0 u1 u2 u3 u4 u5 g' cs1 e hc=>by
            obtain rfl:g=g':=by injection e with e;injection e
            have:=(show _=_ from hCC.out).symm.trans hc
            cases this
            refine⟨_,(((((hC2.out.set u0).set u1).set u2).set u3).set u4).set u5,by simp only[Array.size_setIfInBounds];exact hsz',fun j hj=>?_⟩
            rw[Array.getElem?_setIfInBounds_ne (by omega),Array.getElem?_setIfInBounds_ne (by omega),Array.getElem?_setIfInBounds_ne (by omega),Array.getElem?_setIfInBounds_ne (by omega),Array.getElem?_setIfInBounds_ne (by omega),Array.getElem?_setIfInBounds_ne (by omega)]
            exact hkeep'.out j (by omega)
           clear hC2
           go_wp2_with fail
           refine⟨⟨i+1,by omega,by go_num,vH ?_,vH (hkf.out _ _ _ _ _ _)⟩,by simp[intOf];omega⟩
           (repeat' (first|with_reducible exact hsp.out|refine Sp.set ?_ hCC.out (by simp[MTs]) g1 g2 _ _))
        ·obtain rfl:i=pn:=by omega
         clear hP1 c3 hkq
         go_wp2_with fail
         clear d3
         generalize wr=V5 at *
         go_loopw [17] (fun iv wr=>∃i:Nat,i<=vn/\iv = .int .i64 i/\Hid (Sp MTs W3.heap.size W4.heap.size W7 wr)) (fun iv _=>vn-(intOf iv).toNat)
         case atStart=>exact⟨0,vO _,rfl,hsp⟩
         case round=>
          clear hsp
          obtain⟨i,hi,rfl,hsp⟩:=hrel
          have i0:(0:Int)<=i:=vN _
          have d6:=hsp.out.cell (b:=W4.heap.size) (.inr (vL _)) c6
          by_cases hlt:i<vn
          ·rcases hS1.out with h0|⟨g,cs,rfl,g1,g2,hC,hsz⟩
           ·omega
           obtain⟨cs',hC',hsz'⟩:=hsp.out.cells _ _ _ hC
           have f0:=hC'.cell (Array.getElem?_eq_getElem (show i<cs'.size by omega))
           generalize cs'[i]'(by omega)=v0 at f0
           have fr:=hC'.frozen i
           have i1:(i:Int)<vn:=by omega
           have hiw:IntKind.i64.wrap ((i:Int)+1)=i+1:=vI _ (by omega)
           have q1:=vH (hsp.out.set hC (by simp[MTs]) g1 g2 i (.string ⟨#[103,111,110,101]⟩))
           clear hC hC' hsz hsz' hsp
           go_wp2_with fail
           exact⟨⟨i+1,by omega,by go_num,q1⟩,by simp[intOf];omega⟩
          ·obtain rfl:i=vn:=by omega
           clear hS1 c6
           go_wp2_with fail
           clear d6
           generalize wr=V6 at *
           go_loopw [18] (fun iv wr=>∃i:Nat,i<=an/\iv = .int .i64 i/\Hid (Sp MTs W3.heap.size W4.heap.size W7 wr)) (fun iv _=>an-(intOf iv).toNat)
           case atStart=>exact⟨0,vO _,rfl,hsp⟩
           case round=>
            clear hsp
            obtain⟨i,hi,rfl,hsp⟩:=hrel
            have i0:(0:Int)<=i:=vN _
            have d4:=hsp.out.cell (b:=W4.heap.size) (.inr (vL _)) c4
            by_cases hlt:i<an
            ·rcases hA1.out with h0|⟨g,cs,rfl,g1,g2,hC,hsz⟩
             ·omega
             obtain⟨cs',hC',hsz'⟩:=hsp.out.cells _ _ _ hC
             have f0:=hC'.cell (Array.getElem?_eq_getElem (show i<cs'.size by omega))
             generalize cs'[i]'(by omega)=v0 at f0
             have fr:=hC'.frozen i
             have i1:(i:Int)<an:=by omega
             have hiw:IntKind.i64.wrap ((i:Int)+1)=i+1:=vI _ (by omega)
             have q1:=vH (hsp.out.set hC (by simp[MTs]) g1 g2 i (.string ⟨#[103,111,110,101]⟩))
             clear hC hC' hsz hsz' hsp
             go_wp2_with fail
             exact⟨⟨i+1,by omega,by go_num,q1⟩,by simp[intOf];omega⟩
            ·obtain rfl:i=an:=by omega
             clear hA1 c4
             go_upto_region 39 with fail
             clear d4
             have hB4:=hB3.trans (hb4.mono hB3.size)
             have hB5:=hB4.trans (hb5.mono hB4.size)
             have hB6:=hB5.trans (hb6.mono hB5.size)
             have hB7:=hB6.trans (hb7.mono hB6.size)
             have hBw:BX w wr:=hB7.trans (hsp.out.below.mono hB3.size)
             have hX7:=hX6.trans (hb7.mono hX6.size)
             have hXr:BX W0 wr:=hX7.trans (hsp.out.below.mono hX3.size)
             have hb2r:BX W2 wr:=(hb26.trans (hb7.mono hb26.size)).trans (hsp.out.below.mono hb3.size)
             have hTabW:=((hTab.out.below hb7).relike hlk.out).sp hsp.out hb5.size (hE.below hBw) (hA.below hBw)
             have h45:=hb5.trans (hb6.mono hb5.size)
             have hStW:=jn.sp (w0:=W3) (w1:=W6) hSt.out (hI2.out.below hb3) (hb4.trans (h45.mono hb4.size)) hsp.out (vL _) h45.size
             have hLsW:=(hLs.out.lists).sp hsp.out.stays (by decide) (by decide)
             have hbd:BX wr wr.drew:=(kB _ _).drew
             have KR:=qeO (qkX hM10.out ht0.out hx0.out (hTabW.below hbd) (hStW.step hbd) (hLsW.below hbd) (fun j hj=>qb hBw.drew (hbits j hj)))
             have hfM:yP d M:=hs.out.fit.like hTabW.like (Ya hTabW.like) (fun s hx=>by have:=hs.out.names s hx;unfold zy;omega)
             have hlk2:=hTabW.like
             have KMc:Hid (∀W,BX wr W->Calls prog 12 #[.pointer (some ⟨C,0,none⟩)] W (qlh d M W)):=vH fun W hb=>by
              have hT:=hTabW.below hb
              exact qgf C tb d M W hT.tab hT.mach hfM hT.cap
             have KSm:Hid (∀ (W:World) (m':MV) (M'':qg),BX wr W->zP W m' d M''->M.Like M''->(m'.regs.a≠none->m'.regs.n<=m'.regs.c) ->
              Calls prog 11 #[.agg #[.string m'.name,.slice m'.regs.a m'.regs.n m'.regs.c,.slice m'.classes.a m'.classes.n m'.classes.c,.slice m'.ops.a m'.ops.n m'.ops.c,.slice m'.args.a m'.args.n m'.args.c,.string m'.result,.slice m'.saved.a m'.saved.n m'.saved.c,.int .i64 m'.slots],
               .agg #[.string mn,.slice rg.a rg.n rg.c,.slice kl.a kl.n kl.c,.slice op.a op.n op.c,.slice ar.a ar.n ar.c,.string rs,.slice sv.a sv.n sv.c,.int .i64 sl]] W fun e w'=>e = .returned (.bool true)/\BX W w'):=vH fun W m' M'' hb hm' hl' hc'=>by
              have hMW:=(hM2.out.belowT hb2r).belowT hb
              have hl2:=hlk2.trans hl'
              exact qkR m' ⟨mn,rg,kl,op,ar,rs,sv,sl⟩ d M'' L L W hm'.same hMW.same hm'.result hMW.result hm'.slots hMW.slots (hm'.regs.slice (by rw[←hl2.total];exact hs.out.fit.total) hc') (hMW.regs.slice hs.out.fit.total fun _=>hcap) hl2.symm hm'.classes hMW.classes hm'.ops hMW.ops hm'.args hMW.args hm'.saved hMW.saved hs.out.fit
             have hZ:Hid (∀W,BX wr W->BX W0 W):=vH fun W hb=>hXr.trans (hb.mono hXr.size)
             obtain⟨y0,y1,y2,y3,y4,y5,y6,y7⟩:=hX.out _ hXr
             clear hTabW hStW hLsW hfM hlk2 hb2r hX7 hb4 hb5 hb6 hb7 hB4 hB5 hB6 hB7 hX2 hX3 hX4 hX5 hX6 hb24 hb25 hb26 h45 hV4 hb57 hTab hSt hLs hOw hMK hCp hM2 hI2 hM10 hs ht0 hx0 hx' hsp hsame h hXr hbits
             go_wp2_with fail
             go_region_held3 (fun w'=>w'.cell? ⟨w.heap.size,0,none⟩=some (.string mn)/\w'.cell? ⟨w.heap.size,1,none⟩=some (.slice rg.a rg.n rg.c)/\w'.cell? ⟨w.heap.size,2,none⟩=some (.slice kl.a kl.n kl.c)/\w'.cell? ⟨w.heap.size,3,none⟩=some (.slice op.a op.n op.c)/\w'.cell? ⟨w.heap.size,4,none⟩=some (.slice ar.a ar.n ar.c)/\w'.cell? ⟨w.heap.size,5,none⟩=some (.string rs)/\w'.cell? ⟨w.heap.size,6,none⟩=some (.slice sv.a sv.n sv.c)/\w'.cell? ⟨w.heap.size,7,none⟩=some (.int .i64 sl))
              (go_keep)
              ((first
                |(go_at_call 11;refine(KSm.out _ m2 M2 G2 hm.out hl.out hc.out).mono ?_;rintro e U3 ⟨rfl,g3⟩;have G3:=G2.trans (g3.mono G2.size);obtain⟨a0,a1,a2,a3,a4,a5,a6,a7⟩:=hX.out _ (hZ.out _ G3))
                |(go_at_call 12;refine(KMc.out _ G1).mono ?_;rintro e U2 ⟨g2,m2,M2,rfl,hm,hl,hc⟩;have G2:=G1.trans (g2.mono G1.size);replace hm:=vH hm;replace hl:=vH hl;replace hc:=vH hc;obtain⟨b0,b1,b2,b3,b4,b5,b6,b7⟩:=hX.out _ (hZ.out _ G2))
                |(go_at_call 10;refine KR.mono ?_;clear KR;rintro e U1 ⟨rfl,g1⟩;have G1:BX wr U1:=hbd.trans g1;obtain⟨e0,e1,e2,e3,e4,e5,e6,e7⟩:=hX.out _ (hZ.out _ G1))))
             go_wp2_with fail
             go_ret
             exact⟨qq (by simp),hBw.trans (G3.mono hBw.size)⟩
  ·replace hsame:=vH hsame
   obtain⟨x,hxe⟩:∃x,x=yu d L:=⟨_,rfl⟩
   have hne:(x ==(0:Int))=false:=by rw[hxe];simpa using hx
   have hne2:(x !=(0:Int))=true:=by rw[hxe];simpa using hx
   have hxe2:=vH hxe
   clear hxe
   go_wp2_with (go_at_call 6;refine K.mono ?_;clear K;rintro e W3 ⟨hb3,_,h3⟩;obtain rfl:=h3 hx;rw[←hxe2.out];clear h3)
   go_ret
   exact⟨rfl,hB2.trans (hb3.mono hB2.size)⟩
end Go.Proofs.YtomlgdnafeeeiaaGreatDoor
namespace Go.Proofs.YtomlgdnafeeeiaaGreatDoor
open Proofs.Tryz
open Go.RowKit
theorem YH{n:Nat}{W:World} : ∀ {L:qg} {b o:Nat},xE n W b o L->qB n W b o L
 | .nil,_,_,_=>trivial
 | .cons _ _ _ _ _ _,_,_,⟨h1,h2,_,h4,h5⟩=>⟨h1,h2,YH h4,h5.imp id fun⟨b',o',c',e1,e2,e3,e4⟩=>⟨b',o',c',e1,e2,e3,YH e4⟩⟩
theorem qjX{w:World}{m:MV}{d:qz}{L:qg}(h:Xf w m d L):Zc w m d where
 kls:=h.classes
 ops:=h.ops
 args:=h.args
 saved:=h.saved
 res:=h.result
 sl:=h.slots
 kb:=h.fk.1
 ob:=h.fp.1
 ab:=h.fa.1
 sb:=h.fs.1
 rb:=fun k hk=>(h.fk.2 k hk).2.1
 cb:=fun o ho=>(h.fp.2 o ho).2.2.2.2.1
 ub:=fun o ho=>(h.fp.2 o ho).2.2.2.1.1
theorem qjY{w:World}{m:MV}{d:qz}{L:qg}(h:Xf w m d L):yl w m.regs L:=by
 obtain⟨h1,h2,h3,h4,h5⟩:=h.regs
 rcases h.spot with hs|⟨b,o,hs⟩
 ·rcases h4 with⟨h6,h7⟩|⟨b,o,h6⟩
  ·refine .inl ⟨?_,?_⟩
   ·have:m.regs=⟨m.regs.a,m.regs.n,m.regs.c⟩:=rfl
    rw[this,hs,h6,h7]
   ·cases L with
    | nil=>rfl
    | cons=>simp[qg.length] at h1;omega
  ·rw[hs] at h6;cases h6
 ·refine .inr ⟨b,o,m.regs.c,?_,YH (h5 b o hs),by omega⟩
  have:m.regs=⟨m.regs.a,m.regs.n,m.regs.c⟩:=rfl
  rw[this,hs,h1]
theorem qlT{w:World}{m:MV}{d:qz}{L:qg}(h:Xf w m d L) :
 Calls prog 6 #[m.val] w fun e w'=>(∃ (p:Option Addr) (x:Int),e = .returned (.tuple #[.pointer p,.int .i64 x]))/\BX w w':=
 (qcT h.same (qjX h) (qjY h) h.regs.2.1).mono fun e w' hp=>by
   obtain⟨p,he,hb⟩:=qeq hp
   exact⟨⟨p,_,he⟩,hb⟩
end Go.Proofs.YtomlgdnafeeeiaaGreatDoor
