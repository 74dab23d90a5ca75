
import Derived.Test.YtomlgdnafeeeiaaGreatDoorRefTwo
import Derived.Test.YtomlgdnafeeeiaaGreatDoorMeAll
set_option maxHeartbeats 8000000
set_option maxRecDepth 100000
/-
 The reference's Width,ops,Begin and Make.
-/
namespace Go.Proofs.YtomlgdnafeeeiaaGreatDoor
open Proofs.Tryz
open Go.RowKit
theorem qei(T:Nat)(t:TV)(ps:List Plc)(cls:List (List Int))(k:Nat)(l:List Int)(x:Int)(w:World)(hT:TabAt w T t)(hP:xg w t.cv ps)(hL:zW w t.classes cls)(hl:cls[k]?=some l)(hx:l[0]?=some x)(hn:Num ps x) :
 Calls prog 103 #[.pointer (some ⟨T,0,none⟩),.int .i64 k] w fun e w'=>e = .returned (.int .i64 (plc ps x).2.2)/\∃m,w'=w.drewN m:=by
 obtain⟨b,o,v,ha,hcell,hI,hlen,_,hcap⟩:=hL.get hl
 obtain⟨va,vn,vc⟩:=v
 have hvn:=hI.len
 have hIat:=hI.at_
 obtain⟨bl,ol,hla,hcl⟩:=hIat.2.2 0 x hx
 obtain⟨bp,op,hpa,p0,p1,p2⟩:=hP.at_ x.toNat (plc ps x) hn.get
 have hpl:=hP.len
 have hkl:=(vS.1 hl).1
 have hxl:=(vS.1 hx).1
 have hcn:=hL.len
 have c9:=qd.cell hT (j:=9) (v:=.slice t.places.a t.places.n t.places.c) rfl
 have c10:=qd.cell hT (j:=10) (v:=.slice t.classes.a t.classes.n t.classes.c) rfl
 obtain⟨i,rfl⟩:∃i:Nat,x=i:=⟨x.toNat,by have:=hn.1;omega⟩
 have i0:(0:Int)<=i:=vN _
 change t.places.n=ps.length at hpl
 change t.places.a=some _ at hpa
 have i1:i<t.places.n:=by have:=hn.2;omega
 have i2:(i:Int)<t.places.n:=by omega
 have k0:(0:Int)<=k:=vN _
 have k1:k<t.classes.n:=by omega
 have k2:(k:Int)<t.classes.n:=by omega
 dsimp only at hla hvn hcell
 have v1:0<vn:=by omega
 have v2:(0:Int)<vn:=by omega
 have v3:((vn:Int)==0)=false:=by simp;omega
 have d1:decide ((k:Int)<0)=false:=vF (by omega)
 have d2:decide ((t.classes.n:Int)<=k)=false:=vF (by omega)
 rw[ha] at c10
 rw[hpa] at c9
 subst hla
 simp only[Nat.add_zero,Int.toNat_natCast] at hcl p2
 generalize(plc ps (i:Int)).2.2=z at *
 generalize t.places.n=pn at *
 generalize t.places.c=pc at *
 generalize t.classes.n=cn at *
 generalize t.classes.c=cc at *
 clear hT hP hL hl hx hn hI hIat hlen hcap hkl hxl hcn p0 p1 hpa ha hvn hpl
 go_enter func103,ntmps103
 go_wp2_with fail
 go_quiet (fail)
 go_wp2_with fail
 go_ret
 exact⟨rfl,_,rfl⟩
theorem qgv(a b c d:ByteArray)(w:World):(binOp .neq 44 (.agg #[.string a,.string b]) (.agg #[.string c,.string d])).run prog w = .ok (.bool (!(eqB a c&&eqB b d))) w:=by
 have u9:=underlying9
 have a9:=isAgg9
 have z9:=sizeOf9
 have hS:prog.underlying 44=some (.struct (prog.fieldsOf 44)):=by kernel_rfl
 have hp:prog.stoodInHeld 44=false:=by kernel_rfl
 rw[run_neq_struct,show(10000:Nat)=9999+1 from rfl,run_equalIn_agg w 9999 44 _ _ hS hp]
 simp only[Program.fieldsOf,underlying44]
 rw[Qi,Qi]
 go_simp
 cases h1:(a.toList==c.toList) <;> cases h2:(b.toList==d.toList) <;> simp_all
theorem qjj{ns:List ByteArray}{ps:List Plc}{cs:List qp}{pre:List OpD}{o:OpD}(h:ZL ps (qr ns cs))(h5:(decide (zk o.name=0)||decide (0<=zM (fun x:OpD=>eqB x.name o.name) pre))=false)(hn:¬ Qc ns ps cs o):jI ns ps cs pre o=9:=by
 unfold jI
 rw[h5,if_neg (by decide),if_neg (fun hf=>hn ((Jv h o).1 hf))]
theorem qhz{ns:List ByteArray}{ps:List Plc}{cs:List qp}{pre:List OpD}{o:OpD}(h:ZL ps (qr ns cs))(h5:(decide (zk o.name=0)||decide (0<=zM (fun x:OpD=>eqB x.name o.name) pre))=false)(hn:Qc ns ps cs o):jI ns ps cs pre o=0:=by
 unfold jI
 rw[h5,if_neg (by decide),if_pos ((Jv h o).2 hn)]
theorem qcb{ps:List Plc}{cls:List (List Int)}{k:Nat}{l:List Int}{x:Int}(hl:cls[k]?=some l)(hx:l[0]?=some x):jZ ps cls (k:Int)=(plc ps x).2.2:=by
 have hk:=(vS.1 hl).1
 have hg:cls.getD (k:Int).toNat []=l:=by rw[Int.toNat_natCast,vG,hl];rfl
 unfold jZ
 cases l with
 | nil=>simp at hx
 |cons a r=>
  rw[if_pos ⟨by omega,by omega,by rw[hg];simp⟩,hg]
  cases hx;rfl
theorem Jl{ns:List ByteArray}{ps:List Plc}{cs:List qp}{o:zL}(h:ZL ps (qr ns cs))(hnum:∀l,l∈qr ns cs->∀x,x∈l->Num ps x)(ho:zI ns cs o=true) :
 ∃ (k:Nat) (l:List Int) (x:Int),xB cs o.cls=k/\(qr ns cs)[k]?=some l/\l[0]?=some x/\Num ps x:=by
 have hr:=QC cs o.cls
 have hlen:(qr ns cs).length=cs.length:=by simp[qr]
 unfold zI at ho
 rw[Bool.and_eq_true,decide_eq_true_eq] at ho
 have hlt:(xB cs o.cls).toNat<(qr ns cs).length:=by omega
 have hmem:=List.getElem_mem hlt
 obtain⟨h1,_⟩:=h _ hmem
 cases hl:(qr ns cs)[(xB cs o.cls).toNat] with
 | nil=>exact absurd hl h1
 |cons a r=>
  refine⟨(xB cs o.cls).toNat,a::r,a,by omega,by rw[vE hlt,hl],rfl,?_⟩
  exact hnum _ hmem a (by rw[hl];exact List.mem_cons_self)
theorem qlp(T:Nat)(mn rs:ByteArray)(rg kl ar sv:SlV)(oa:Option Addr)(on oc:Nat)(sl:Int)(nV pV cV:SlV)(d:qz)(ns:List ByteArray)(ps:List Plc)(w:World)
 (h:jy w T ⟨⟨mn,rg,kl,⟨oa,on,oc⟩,ar,rs,sv,sl⟩,nV,pV,cV⟩ d ns ps (qr ns d.classes)) (hw1:ZL ps (qr ns d.classes)) (hnum:∀l,l∈qr ns d.classes->∀x,x∈l->Num ps x) :
 Calls prog 50 #[.pointer (some ⟨T,0,none⟩)] w fun e w'=>e = .returned (.int .i64 (jf ns ps d.classes d.ops))/\BX w w':=by
 obtain⟨os,hos⟩:∃os,os=d.ops:=⟨_,rfl⟩
 have hO:jP w ⟨oa,on,oc⟩ os:=by rw[hos];exact h.ops
 have hub:∀o:OpD,o∈os->o.uses.length<=140737488355328:=by rw[hos];exact h.ub
 have hcb:∀o:OpD,o∈os->o.clob.length<=140737488355328:=by rw[hos];exact h.cb
 have hob:os.length<=140737488355328:=by rw[hos];exact h.ob
 rw[←hos]
 have hon:=hO.1
 have hoc:=hO.2.1
 dsimp only at hon hoc
 have c3:=qd.cell h.tab (j:=3) (v:=.slice oa on oc) rfl
 obtain⟨res,hres⟩:∃res,res=jf ns ps d.classes os:=⟨_,rfl⟩
 rw[←hres]
 by_cases hlong:(64:Int)<on
 ·have hr:Hid (res=2):=vH (by rw[hres];unfold jf;rw[if_pos (by omega)])
  clear hO h hon hres hos hub hcb hob hw1 hnum
  go_enter func50,ntmps50
  go_wp2_with fail
  go_ret
  exact⟨qI hr.out.symm,kB _ _⟩
 ·have hr:Hid (res=jj ns ps d.classes [] os):=vH (by rw[hres];unfold jf;rw[if_neg (by omega)])
  have on0:(0:Int)<=on:=vN _
  have on64:on<=64:=by omega
  replace hon:=vH hon
  replace hO:=vH hO
  replace h:=vH h
  replace hub:=vH hub
  replace hcb:=vH hcb
  replace hos:=vH hos
  replace hw1:=vH hw1
  replace hnum:=vH hnum
  clear hres hob
  go_enter func50,ntmps50
  go_wp2_with fail
  go_loopw [3] (fun i wr=>∃ (k:Nat),k<=on/\i = .int .i64 k/\BX w wr/\Hid (jj ns ps d.classes [] os=jj ns ps d.classes (os.take k) (os.drop k))) (fun i _=>on-(intOf i).toNat)
  case atStart=>exact⟨0,vO _,rfl,kB _ _,vH rfl⟩
  case round=>
   obtain⟨k,hk,rfl,hB,hT⟩:=hrel
   have k0:(0:Int)<=k:=vN _
   have c3r:=qb hB c3
   by_cases hlt:k<on
   ·obtain⟨x,hx⟩:∃x,os[k]?=some x:=⟨os[k]'(by have:=hon.out;omega),vE _⟩
    obtain⟨b,o,hoa,u,kk,hc0,hc1,hc2,hc3,hc4,hc5,hcu,hck⟩:=hO.out.2.2 k x hx
    dsimp only at hoa
    have hmem:=vM hx
    have hux:=hub.out x hmem
    have hcx:=hcb.out x hmem
    have hT2:=vH (hT.out.trans (qbU ns ps d.classes os k x hx))
    have k1:(k:Int)<on:=by omega
    obtain⟨ua,un,uc⟩:=u
    obtain⟨ka,kn,kc⟩:=kk
    have hun:=hcu.1
    have huc:=hcu.2.1
    have hkn:=hck.1
    have hkc:=hck.2.1
    dsimp only at hun huc hkn hkc hc3 hc5
    subst hun hkn
    have e0:=qb hB hc0
    have e1:=qb hB hc1
    have e2:=qb hB hc2
    have e3:=qb hB hc3
    have e4:=qb hB hc4
    have e5:=qb hB hc5
    obtain⟨W0,hW0⟩:∃W0,W0=wr.alloc (.cells #[.string x.name,.string x.d.cls,.string x.d.fix,.slice ua x.uses.length uc,.int .i64 x.tie,.slice ka x.clob.length kc] 47):=⟨_,rfl⟩
    have hb0:BX wr W0:=by rw[hW0];exact qi
    have hbx:qd W0 wr.heap.size 47 #[.string x.name,.string x.d.cls,.string x.d.fix,.slice ua x.uses.length uc,.int .i64 x.tie,.slice ka x.clob.length kc]:=by rw[hW0];exact qd.new _ _ _
    have hA0:BX w W0:=hB.trans (hb0.mono hB.size)
    have hO0:=h.out.below hA0
    have hOs0:=hO.out.below hA0
    have hcu0:=hcu.below hA0
    have hck0:=hck.below hA0
    have hno:∀ (W:World) (c:Int),BX w W->c≠0->jI ns ps d.classes (os.take k) x=c->Ending.returned (.int .i64 c) = .returned (.int .i64 res)/\BX w W:=fun W c hW hc he=>
     ⟨qI (by rw[hr.out,hT2.out,he,if_neg hc]),hW⟩
    have hidx:=ZJ (p:=fun y:OpD=>eqB y.name x.name) hx (by simp[eqB])
    have KA:=fun W=>qjd x.name W
    have KO:=qkn T _ os x.name W0 hO0.tab hOs0 (by dsimp only;omega)
    have hci:decide (0<=zM (fun y:OpD=>eqB y.name x.name) (os.take k))=decide (zM (fun y:OpD=>eqB y.name x.name) os<(k:Int)):=by
     rw[Bool.eq_iff_iff,decide_eq_true_iff,decide_eq_true_iff];exact hidx.symm
    have hfive:(decide (zk x.name=0)||decide (0<=zM (fun y:OpD=>eqB y.name x.name) (os.take k)))=true->jI ns ps d.classes (os.take k) x=5:=fun h=>by unfold jI;rw[if_pos h]
    have hnine:=qjj (pre:=os.take k) (o:=x) hw1.out
    have hzero:=qhz (pre:=os.take k) (o:=x) hw1.out
    rw[hci] at hfive hnine hzero
    have hgl:Qc ns ps d.classes x->x.uses.length=zk x.name:=fun h=>h.len
    have hlg:Hid (x.uses.length=zk x.name->x.uses.length<=2):=vH fun h=>by rw[h];unfold zk;split;omega;split <;> omega
    generalize zM (fun y:OpD=>eqB y.name x.name) os=oi at KO hfive hnine hzero
    obtain⟨an,han⟩:∃an,an=zk x.name:=⟨_,rfl⟩
    rw[←han] at KA hfive hnine hzero hgl hlg
    replace han:=vH han
    replace hfive:=vH hfive
    replace hnine:=vH hnine
    replace hzero:=vH hzero
    replace hgl:=vH hgl
    replace hno:=vH hno
    replace hW0:=vH hW0
    replace hO0:=vH hO0
    replace hOs0:=vH hOs0
    replace hcu0:=vH hcu0
    replace hck0:=vH hck0
    replace hx:=vH hx
    have x0:=hbx.cell (j:=0) (v:=.string x.name) rfl
    have x1:=hbx.cell (j:=1) (v:=.string x.d.cls) rfl
    have x2:=hbx.cell (j:=2) (v:=.string x.d.fix) rfl
    have x3:=hbx.cell (j:=3) (v:=.slice ua x.uses.length uc) rfl
    have x4:=hbx.cell (j:=4) (v:=.int .i64 x.tie) rfl
    have x5:=hbx.cell (j:=5) (v:=.slice ka x.clob.length kc) rfl
    subst hoa
    clear hci hidx hcu hck hc0 hc1 hc2 hc3 hc4 hc5 hT hmem
    have an0:(0:Int)<=an:=vN _
    go_upto_region 8 with(go_at_call 100;refine(KA _).mono ?_;clear KA;rintro e W1 ⟨rfl,rfl⟩)
    rw[←hW0.out]
    go_cut [47] from 38 to 47 (fun s Wx=>s = .bool (decide (an=0)||decide (oi<(k:Int)))/\Wx=W0)
    case first=>
     by_cases h1:an=0
     ·have h1i:((an:Int)==0)=true:=by simp[h1]
      subst h1
      go_wp2_with fail
      go_meet
      exact⟨by simp,rfl⟩
     ·have h1i:((an:Int)==0)=false:=by simp;omega
      have h1d:decide (an=0)=false:=vF h1
      by_cases h2:oi<(k:Int)
      all_goals
       go_wp2_with (go_at_call 101;refine KO.mono ?_;clear KO;rintro e W1 ⟨rfl,rfl⟩)
       go_meet
       exact⟨by rw[h1d];simp[h2],rfl⟩
    case rest=>
     obtain⟨rfl,hwc⟩:=hcut
     subst wc
     clear KO
     cases hb5:(decide (an=0)||decide (oi<(k:Int))) with
     |true=>
      have hfin:=vH (hno.out W0 5 hA0 (by decide) (hfive.out hb5))
      clear hb5
      go_wp2_with fail
      go_ret
      exact hfin.out
     |false=>
      have hnine2:=vH (hnine.out hb5)
      have hzero2:=vH (hzero.out hb5)
      clear hb5 hfive hnine hzero
      by_cases hlen:x.uses.length=an
      ·subst hlen
       have hl2:=hlg.out rfl
       have KD:=qaJ T _ ns d.classes x.d W0 hO0.out.tab hO0.out.kls hO0.out.kbig hO0.out.names hO0.out.nbig hO0.out.lists
       have KU:∀ (W:World) (j:Nat) (v:zL),BX W0 W->x.uses[j]?=some v->Calls prog 102 #[.pointer (some ⟨T,0,none⟩),.agg #[.string v.cls,.string v.fix]] W fun e w'=>e = .returned (.bool (zI ns d.classes v))/\BX W w':=fun W j v hW _=>by
        have hO1:=hO0.out.below hW
        exact qaJ T _ ns d.classes v W hO1.tab hO1.kls hO1.kbig hO1.names hO1.nbig hO1.lists
       obtain⟨gd,hgd⟩:∃gd,gd=zI ns d.classes x.d:=⟨_,rfl⟩
       rw[←hgd] at KD
       replace hgd:=vH hgd
       replace KU:=vH KU
       clear hgl hlg
       obtain⟨wo,rfl⟩:∃wo:World,wo=wr:=⟨_,rfl⟩
       go_wp2_with (go_at_call 102;refine KD.mono ?_;clear KD;rintro e W1 ⟨rfl,hb1⟩)
       go_loopw [6,7] (fun g q W=>∃ (j:Nat) (gb:Bool),j<=x.uses.length/\q = .int .i64 j/\g = .bool gb/\Hid (gb=true->zI ns d.classes x.d=true/\∀ (i:Nat) (v:zL),i<j->x.uses[i]?=some v->zI ns d.classes v=true)/\Hid (gb=false->¬ Qc ns ps d.classes x)/\BX W0 W) (fun _ q _=>x.uses.length-(intOf q).toNat)
       case atStart=>
        exact⟨0,gd,vO _,rfl,rfl,vH (fun hg=>⟨by rw[←hgd.out,hg],fun i v hi=>absurd hi (Nat.not_lt_zero _)⟩),vH (fun hg hG=>by have:=hG.d;rw[←hgd.out,hg] at this;cases this),hb1⟩
       case round=>
        obtain⟨j,gb,hj,rfl,rfl,hY,hN,hBj⟩:=hrel
        have hAj:BX w wr:=hA0.trans (hBj.mono hA0.size)
        have j0:(0:Int)<=j:=vN _
        have y3:=qb hBj x3
        cases gb with
        |false=>
         have hfin:=vH (hno.out wr 9 hAj (by decide) (hnine2.out (hN.out rfl)))
         clear hY hN
         by_cases hlj:j<x.uses.length
         all_goals
          go_wp2_with fail
          go_ret
          exact hfin.out
        |true=>
         by_cases hlj:j<x.uses.length
         ·obtain⟨v,hv⟩:∃v,x.uses[j]?=some v:=⟨x.uses[j],vE hlj⟩
          obtain⟨bu,ou,hua,v0,v1⟩:=hcu0.out.2.2 j v hv
          dsimp only at hua
          have f0:=qb hBj v0
          have f1:=qb hBj v1
          have K:=KU.out wr j v hBj hv
          obtain⟨gv,hgv⟩:∃gv,gv=zI ns d.classes v:=⟨_,rfl⟩
          rw[←hgv] at K
          have hY2:Hid (gv=true->zI ns d.classes x.d=true/\∀ (i:Nat) (v:zL),i<j+1->x.uses[i]?=some v->zI ns d.classes v=true):=vH fun hg=>⟨(hY.out rfl).1,fun i v' hi hv'=>by
           by_cases hij:i<j
           ·exact(hY.out rfl).2 i v' hij hv'
           ·obtain rfl:i=j:=by omega
            rw[hv] at hv';cases hv'
            rw[←hgv,hg]⟩
          have hN2:Hid (gv=false->¬ Qc ns ps d.classes x):=vH fun hg hG=>by
           have:=hG.u v (vM hv)
           rw[←hgv,hg] at this;cases this
          subst hua
          have hlj2:(j:Int)<x.uses.length:=by omega
          replace hv:=vH hv
          replace hgv:=vH hgv
          clear hY hN v0 v1
          go_wp2_with (go_at_call 102;refine K.mono ?_;clear K;rintro e W2 ⟨rfl,hb2⟩)
          exact⟨⟨j+1,gv,by omega,by go_num,rfl,hY2,hN2,hBj.trans (hb2.mono hBj.size)⟩,by simp[intOf];omega⟩
         ·have hyd:=vH (hY.out rfl).1
          have hU:Hid (∀v,v∈x.uses->zI ns d.classes v=true):=vH fun v hv=>by
           obtain⟨i,hi⟩:=List.getElem?_of_mem hv
           exact(hY.out rfl).2 i v (by have:=(vS.1 hi).1;omega) hi
          clear hY hN
          obtain⟨w2,rfl⟩:∃w2:World,w2=wr:=⟨_,rfl⟩
          go_wp2_with fail
          go_loopw [8] (fun q W=>∃ (j:Nat),j<=x.uses.length/\q = .int .i64 j/\Hid (∀ (i:Nat) (v:zL),i<j->x.uses[i]?=some v->jZ ps (qr ns d.classes) (xB d.classes v.cls)=jZ ps (qr ns d.classes) (xB d.classes x.d.cls))/\BX W0 W) (fun q _=>x.uses.length-(intOf q).toNat)
          case atStart=>exact⟨0,vO _,rfl,vH fun i v hi=>absurd hi (Nat.not_lt_zero _),hBj⟩
          case round=>
           obtain⟨q,hq,rfl,hY3,hB3⟩:=hrel
           have hA3:BX w wr:=hA0.trans (hB3.mono hA0.size)
           have q0:(0:Int)<=q:=vN _
           have z1:=qb hB3 x1
           have z2:=qb hB3 x2
           have z3:=qb hB3 x3
           have z4:=qb hB3 x4
           have z5:=qb hB3 x5
           by_cases hlq:q<x.uses.length
           ·obtain⟨v,hv⟩:∃v,x.uses[q]?=some v:=⟨x.uses[q],vE hlq⟩
            obtain⟨bu,ou,hua,v0,v1⟩:=hcu0.out.2.2 q v hv
            dsimp only at hua
            have f0:=qb hB3 v0
            obtain⟨kv,lv,xv,hkv,hlv,hxv,hnv⟩:=Jl hw1.out hnum.out (hU.out v (vM hv))
            obtain⟨kd,ld,xd,hkd,hld,hxd,hnd⟩:=Jl hw1.out hnum.out hyd.out
            have hO3:=fun n=>hO0.out.below (below_drewN hB3 n)
            have KC1:=fun n=>QD T _ d.classes v.cls (wr.drewN n) (hO3 n).tab (hO3 n).kls (hO3 n).kbig
            have KC2:=fun n=>QD T _ d.classes x.d.cls (wr.drewN n) (hO3 n).tab (hO3 n).kls (hO3 n).kbig
            change ∀n,Calls _ _ _ _ fun e w'=>e = .returned (.int .i64 (xB d.classes v.cls))/\_ at KC1
            change ∀n,Calls _ _ _ _ fun e w'=>e = .returned (.int .i64 (xB d.classes x.d.cls))/\_ at KC2
            have KW1:=fun n=>qei T _ ps (qr ns d.classes) kv lv xv (wr.drewN n) (hO3 n).tab (hO3 n).places (hO3 n).lists hlv hxv hnv
            have KW2:=fun n=>qei T _ ps (qr ns d.classes) kd ld xd (wr.drewN n) (hO3 n).tab (hO3 n).places (hO3 n).lists hld hxd hnd
            have hwv:jZ ps (qr ns d.classes) (xB d.classes v.cls)=(plc ps xv).2.2:=by rw[hkv,qcb hlv hxv]
            have hwd:jZ ps (qr ns d.classes) (xB d.classes x.d.cls)=(plc ps xd).2.2:=by rw[hkd,qcb hld hxd]
            rw[hkv] at KC1
            rw[hkd] at KC2
            generalize(plc ps xv).2.2=zv at KW1 hwv
            generalize(plc ps xd).2.2=zd at KW2 hwd
            have hlq2:(q:Int)<x.uses.length:=by omega
            subst hua
            replace hv:=vH hv
            replace hwv:=vH hwv
            replace hwd:=vH hwd
            replace hO3:=vH hO3
            clear v0 v1 hkv hlv hxv hnv hkd hld hxd hnd
            by_cases heq:zv=zd
            ·have heq2:(zv != zd)=false:=by simpa using heq
             have hY4:Hid (∀ (i:Nat) (v:zL),i<q+1->x.uses[i]?=some v->jZ ps (qr ns d.classes) (xB d.classes v.cls)=jZ ps (qr ns d.classes) (xB d.classes x.d.cls)):=vH fun i v' hi hv'=>by
              by_cases hij:i<q
              ·exact hY3.out i v' hij hv'
              ·obtain rfl:i=q:=by omega
               have:=hv.out
               rw[this] at hv';cases hv'
               rw[hwv.out,hwd.out,heq]
             subst heq
             clear hY3
             go_upto_region 22 with fail
             go_quiet ((first
              |(go_at_call 99;first|with_reducible exact Calls.quiet_of_same ((KC1 _).mono fun _ _ ⟨he,hw⟩=>⟨he,hw.symm⟩)|with_reducible exact Calls.quiet_of_same ((KC2 _).mono fun _ _ ⟨he,hw⟩=>⟨he,hw.symm⟩))
              |(go_at_call 103;first|with_reducible exact Calls.quiet_of (KW1 _)|with_reducible exact Calls.quiet_of (KW2 _))))
             go_wp2_with fail
             exact⟨⟨q+1,by omega,by go_num,hY4,below_drewN hB3 _⟩,by simp[intOf];omega⟩
            ·have heq2:(zv != zd)=true:=by simpa using heq
             have hfin:∀n,Hid _:=fun n=>vH (hno.out (wr.drewN n) 9 (below_drewN hA3 n) (by decide) (hnine2.out fun hG=>by
              have:=hG.w v (vM hv.out)
              rw[hwv.out,hwd.out] at this
              exact heq this))
             clear hY3
             go_upto_region 22 with fail
             go_quiet ((first
              |(go_at_call 99;first|with_reducible exact Calls.quiet_of_same ((KC1 _).mono fun _ _ ⟨he,hw⟩=>⟨he,hw.symm⟩)|with_reducible exact Calls.quiet_of_same ((KC2 _).mono fun _ _ ⟨he,hw⟩=>⟨he,hw.symm⟩))
              |(go_at_call 103;first|with_reducible exact Calls.quiet_of (KW1 _)|with_reducible exact Calls.quiet_of (KW2 _))))
             go_wp2_with fail
             go_ret
             exact(hfin _).out
           ·have hWd:Hid (∀v,v∈x.uses->jZ ps (qr ns d.classes) (xB d.classes v.cls)=jZ ps (qr ns d.classes) (xB d.classes x.d.cls)):=vH fun v hv=>by
             obtain⟨i,hi⟩:=List.getElem?_of_mem hv
             exact hY3.out i v (by have:=(vS.1 hi).1;omega) hi
            have hO3:=hO0.out.below hB3
            have KDi:=qeb T _ ns x.clob ⟨ka,x.clob.length,kc⟩ wr hO3.tab hO3.names hO3.nbig (hck0.out.below hB3) (by dsimp only;omega)
            have hdi:=vH (ZM ns x.clob)
            generalize(zx ns x.clob 64 && !qW [] (qh ns x.clob))=dz at KDi hdi
            have hfin:∀n,¬ Qc ns ps d.classes x->Ending.returned (.int .i64 9) = .returned (.int .i64 res)/\BX w (wr.drewN n):=fun n hn=>hno.out (wr.drewN n) 9 (below_drewN hA3 n) (by decide) (hnine2.out hn)
            have hgo:Qc ns ps d.classes x->Hid (jj ns ps d.classes [] os=jj ns ps d.classes (os.take (k+1)) (os.drop (k+1))):=fun hG=>vH (by rw[hT2.out,hzero2.out hG];rfl)
            have hend:∀n,BX w (wr.drewN n):=fun n=>below_drewN hA3 n
            replace hfin:=vH hfin
            replace hgo:=vH hgo
            replace hend:=vH hend
            replace hO3:=vH hO3
            obtain⟨tie,htie⟩:∃tie,tie=x.tie:=⟨_,rfl⟩
            rw[←htie] at z4
            have hdn:dz=false->¬ Qc ns ps d.classes x:=fun hd hG=>by
             have:=hdi.out.2 ⟨hG.few,hG.clob⟩
             rw[hd] at this;cases this
            have htn:qeS x=false->¬ Qc ns ps d.classes x:=fun ht hG=>by
             have:=hG.tie
             rw[ht] at this;cases this
            have hgood:dz=true->qeS x=true->Qc ns ps d.classes x:=fun hd ht=>⟨han.out,hyd.out,hU.out,hWd.out,ht,(hdi.out.1 hd).1,(hdi.out.1 hd).2⟩
            have htR:qeS x = !(decide (tie < -1)||(decide ((x.uses.length:Int)<=tie)||(decide (0<=tie) && !(match x.uses[tie.toNat]? with|some u=>ZA u x.d|none=>true)))):=by rw[htie];rfl
            generalize qeS x=tr at htn hgood htR
            replace hdn:=vH hdn
            replace htn:=vH htn
            replace hgood:=vH hgood
            replace htie:=vH htie
            clear hY3 hWd hdi
            go_upto_region 25 with(go_at_call 104;refine KDi.mono ?_;clear KDi;rintro e W3 ⟨rfl,rfl⟩)
            by_cases t1:tie < -1
            ·have hf:=vH (htn.out (by rw[htR,vT t1];rfl))
             clear htR
             go_quiet (fail)
             go_wp2_with fail
             go_ret
             exact hfin.out _ hf.out
            ·have d1:decide (tie < -1)=false:=vF t1
             by_cases t2:(x.uses.length:Int)<=tie
             ·have hf:=vH (htn.out (by rw[htR,d1,vT t2];rfl))
              clear htR
              go_quiet (fail)
              go_wp2_with fail
              go_ret
              exact hfin.out _ hf.out
             ·have d2:decide ((x.uses.length:Int)<=tie)=false:=vF t2
              by_cases t3:0<=tie
              ·obtain⟨jt,rfl⟩:∃jt:Nat,tie=jt:=⟨tie.toNat,by omega⟩
               have jt1:jt<x.uses.length:=by omega
               have jt2:(jt:Int)<x.uses.length:=by omega
               obtain⟨v,hv⟩:∃v,x.uses[jt]?=some v:=⟨x.uses[jt],vE jt1⟩
               obtain⟨bu,ou,hua,v0,v1⟩:=hcu0.out.2.2 jt v hv
               dsimp only at hua
               have f0:=qb hB3 v0
               have f1:=qb hB3 v1
               have hE:=qgv v.cls v.fix x.d.cls x.d.fix
               rw[d1,d2,vT t3,Int.toNat_natCast,hv] at htR
               have htR2:tr=(eqB v.cls x.d.cls&&eqB v.fix x.d.fix):=by rw[htR];simp[ZA]
               rw[←htR2] at hE
               subst hua
               replace hv:=vH hv
               clear htR htR2 v0 v1
               cases tr with
               |false=>
                have hf:=vH (htn.out rfl)
                go_quiet (fail)
                go_wp2_with fail
                go_ret
                exact hfin.out _ hf.out
               |true=>
                cases dz with
                |false=>
                 have hf:=vH (hdn.out rfl)
                 go_quiet (fail)
                 go_wp2_with fail
                 go_ret
                 exact hfin.out _ hf.out
                |true=>
                 have hf:=hgo.out (hgood.out rfl rfl)
                 go_quiet (fail)
                 go_wp2_with fail
                 exact⟨⟨k+1,by omega,by go_num,hend.out _,hf⟩,by simp[intOf];omega⟩
              ·have d3:decide (0<=tie)=false:=vF t3
               rw[d1,d2,d3] at htR
               have ht1:tr=true:=htR
               subst ht1
               clear htR
               cases dz with
               |false=>
                have hf:=vH (hdn.out rfl)
                go_quiet (fail)
                go_wp2_with fail
                go_ret
                exact hfin.out _ hf.out
               |true=>
                have hf:=hgo.out (hgood.out rfl rfl)
                go_quiet (fail)
                go_wp2_with fail
                exact⟨⟨k+1,by omega,by go_num,hend.out _,hf⟩,by simp[intOf];omega⟩
      ·have hlenI:((x.uses.length:Int) !=(an:Int))=true:=by simp;omega
       have hfin:=vH (hno.out W0 9 hA0 (by decide) (hnine2.out fun hG=>hlen (hgl.out hG)))
       go_wp2_with fail
       go_ret
       exact hfin.out
   ·obtain rfl:k=on:=by omega
    have hres:Hid (res=0):=vH (by rw[hr.out,hT.out,List.drop_eq_nil_of_le (by have:=hon.out;omega)];rfl)
    clear hT
    go_wp2_with fail
    go_ret
    exact⟨qI hres.out.symm,hB⟩
def xZ(d:qz)(L:qg)(pts:Int):Int:=
 if jU d L≠0 then jU d L
 else if qy qj (qC L) (qQ L) d.classes≠0 then qy qj (qC L) (qQ L) d.classes
 else if 4<=pts then jf (qC L) (qQ L) d.classes d.ops else 0
def XJ(w:World)(m:MV)(d:qz)(L:qg)(pts:Int)(e:Ending)(w':World):Prop:=
 BX w w' /\
 (xZ d L pts=0->∃ (T:Nat) (nV pV cV:SlV),e = .returned (.tuple #[.pointer (some ⟨T,0,none⟩),.int .i64 0])/\jn w w' T ⟨m,nV,pV,cV⟩ d (qC L) (qQ L)/\zC w w' cV (qr (qC L) d.classes)) /\
 (xZ d L pts≠0->e = .returned (.tuple #[.pointer none,.int .i64 (xZ d L pts)]))
theorem qej{d:qz}{L:qg}{pts:Int}(h:xZ d L pts=0):jU d L=0/\qy qj (qC L) (qQ L) d.classes=0/\(4<=pts->jf (qC L) (qQ L) d.classes d.ops=0):=by
 unfold xZ at h
 by_cases h1:jU d L=0
 ·rw[if_neg (by simp[h1])] at h
  by_cases h2:qy qj (qC L) (qQ L) d.classes=0
  ·rw[if_neg (by simp[h2])] at h
   exact⟨h1,h2,fun h4=>by rwa [if_pos h4] at h⟩
  ·rw[if_pos h2] at h;exact absurd h h2
 ·rw[if_pos h1] at h;exact absurd h h1
theorem qjk{w:World}{m:MV}{d:qz}{L:qg}(hn:m.name=d.name)(hI:Zc w m d)(hR:yl w m.regs L)(hcap:m.regs.n<=m.regs.c)(pts:Int) :
 Calls prog 20 #[m.val,.int .i64 pts] w (XJ w m d L pts):=by
 obtain⟨mn,⟨ra,rn,rc⟩,⟨ka,kn,kc⟩,⟨oa,on,oc⟩,ar,rs,sv,sl⟩:=m
 dsimp only at hn hR hcap
 have hLn:L.length=rn/\L.length<=4611686018427387904/\(L = .nil∨∃b o,ra=some ⟨b,o,none⟩/\qB w.heap.size w b o L):=by
  rcases hR with⟨h1,h2⟩|⟨b,o,c,h1,h2,h3⟩
  ·injection h1 with e1 e2 e3
   subst h2
   exact⟨e2.symm,by simp[qg.length],.inl rfl⟩
  ·injection h1 with e1 e2 e3
   exact⟨e2.symm,h3,.inr ⟨b,o,e1,h2⟩⟩
 obtain⟨hL1,hL2,hL3⟩:=hLn
 have hfew:zB L=0->(qo 0 L).length<=200/\∀p,p∈(qo 0 L).map qA.place->xT p:=fun h0=>by
  rcases hL3 with rfl|⟨b,o,_,hh⟩
  ·exact⟨by simp[qo],fun p hp=>by simp[qo] at hp⟩
  ·exact YR hh h0
 show Calls prog 20 #[.agg #[.string mn,.slice ra rn rc,.slice ka kn kc,.slice oa on oc,.slice ar.a ar.n ar.c,.string rs,.slice sv.a sv.n sv.c,.int .i64 sl],.int .i64 pts] w _
 obtain⟨W0,hW0⟩:∃W0,W0=w.alloc (.cells #[.string mn,.slice ra rn rc,.slice ka kn kc,.slice oa on oc,.slice ar.a ar.n ar.c,.string rs,.slice sv.a sv.n sv.c,.int .i64 sl] 27):=⟨_,rfl⟩
 have hb0:BX w W0:=by rw[hW0];exact qi
 have hbx:qd W0 w.heap.size 27 #[.string mn,.slice ra rn rc,.slice ka kn kc,.slice oa on oc,.slice ar.a ar.n ar.c,.string rs,.slice sv.a sv.n sv.c,.int .i64 sl]:=by rw[hW0];exact qd.new _ _ _
 have KN:=fun W=>XH mn W
 have KP:=qhy ra rc L W0 (by omega) hL2 (hL3.imp id fun⟨b,o,h1,h2⟩=>⟨b,o,h1,qB.below hb0 h2⟩)
 rw[hL1] at KP
 unfold qcS at KP
 change Calls _ _ _ _ fun e w'=>BX W0 w'/\(zB L=0->_)/\(zB L≠0->e = .returned (.tuple #[.slice none 0 0,.slice none 0 0,.int .i64 (zB L)])) at KP
 have hfin:∀ (W:World) (x:Int),BX w W->x≠0->xZ d L pts=x->XJ w ⟨mn,⟨ra,rn,rc⟩,⟨ka,kn,kc⟩,⟨oa,on,oc⟩,ar,rs,sv,sl⟩ d L pts (.returned (.tuple #[.pointer none,.int .i64 x])) W:=fun W x hW hx he=>
  ⟨hW,fun h=>absurd (he.symm.trans h) hx,fun _=>by rw[he]⟩
 have hdef:xZ d L pts=if jU d L≠0 then jU d L else if qy qj (qC L) (qQ L) d.classes≠0 then qy qj (qC L) (qQ L) d.classes else if 4<=pts then jf (qC L) (qQ L) d.classes d.ops else 0:=rfl
 have hfall:jU d L=if qj d.name=false then 5 else if zB L≠0 then zB L else if qo 0 L = [] then 1 else 0:=rfl
 have x0:=hbx.cell (j:=0) (v:=.string mn) rfl
 have x1:=hbx.cell (j:=1) (v:=.slice ra rn rc) rfl
 have x2:=hbx.cell (j:=2) (v:=.slice ka kn kc) rfl
 have x3:=hbx.cell (j:=3) (v:=.slice oa on oc) rfl
 have x4:=hbx.cell (j:=4) (v:=.slice ar.a ar.n ar.c) rfl
 have x5:=hbx.cell (j:=5) (v:=.string rs) rfl
 have x6:=hbx.cell (j:=6) (v:=.slice sv.a sv.n sv.c) rfl
 have x7:=hbx.cell (j:=7) (v:=.int .i64 sl) rfl
 rw[←hn] at hfall
 replace hfin:=vH hfin
 replace hdef:=vH hdef
 replace hfall:=vH hfall
 replace hfew:=vH hfew
 replace hI:=vH hI
 replace hb0:=vH hb0
 replace hW0:=vH hW0
 clear hL1 hL2 hL3 hR hn
 cases hnb:qj mn with
 |false=>
  have hx:Hid (xZ d L pts=5):=vH (by
   have:jU d L=5:=by rw[hfall.out,if_pos hnb]
   rw[hdef.out,if_pos (by rw[this];decide),this])
  have hf:=vH (hfin.out W0 5 hb0.out (by decide) hx.out)
  rw[hnb] at KN
  clear KP
  go_enter func20,ntmps20
  go_upto_region 1 with fail
  rw[←hW0.out]
  go_wp2_with (go_at_call 47;refine(KN _).mono ?_;clear KN;rintro e W1 ⟨rfl,rfl⟩)
  go_ret2
  exact hf.out
 |true=>
  rw[hnb] at KN
  by_cases hrx:zB L=0
  ·have hlen:(qQ L).length=(qC L).length:=by simp[qC,qQ]
   have hfew2:(qC L).length<=200:=by have:=(hfew.out hrx).1;simpa[qC] using this
   have KP3:Calls prog 48 #[.slice ra rn rc] W0 fun e w'=>∃na nc pa pc,e = .returned (.tuple #[.slice na (qC L).length nc,.slice pa (qC L).length pc,.int .i64 0])/\BX W0 w'/\Hid (w'.ownsRow W0.heap.size 9 1 (.slice na (qC L).length nc) (qC L).length ((qC L).map Value.string))/\Hid (w'.ownsRow W0.heap.size 87 3 (.slice pa (qC L).length pc) (qQ L).length (qK (qQ L))):=KP.mono fun e w' ⟨h1,h2,_⟩=>by
    obtain⟨nV,pV,he,hn,hp⟩:=h2 hrx
    obtain⟨na,nc,hv1⟩:=qx hn
    obtain⟨pa,pc,hv2⟩:=qx hp
    obtain⟨n1,n2,n3⟩:=nV
    obtain⟨p1,p2,p3⟩:=pV
    unfold SlV.v at hv1 hv2
    injection hv1 with g1 g2 g3
    injection hv2 with g4 g5 g6
    dsimp only at g1 g2 g3 g4 g5 g6
    subst g1 g2 g3 g4 g5 g6
    refine⟨n1,n3,p1,p3,?_,h1,vH hn,vH ?_⟩
    ·rw[he]
     have e1:((qo 0 L).map fun x:qA=>x.name).length=(qC L).length:=rfl
     have e2:((qo 0 L).map qA.place).length=(qC L).length:=hlen
     dsimp only
     rw[e1,e2]
    ·have e2:((qo 0 L).map qA.place).length=(qC L).length:=hlen
     unfold SlV.v at hp
     dsimp only at hp
     rw[e2] at hp
     show w'.ownsRow W0.heap.size 87 3 (.slice p1 (qC L).length p3) (qQ L).length (qK (qQ L))
     rw[hlen]
     exact hp
   have hokP:=vH (hfew.out hrx).2
   by_cases hem:qo 0 L = []
   ·have hx:Hid (xZ d L pts=1):=vH (by
     have:jU d L=1:=by rw[hfall.out,if_neg (by simp[hnb]),if_neg (by simp[hrx]),if_pos hem]
     rw[hdef.out,if_pos (by rw[this];decide),this])
    have hN:(qC L).length=0:=by simp[qC,hem]
    rw[hN] at KP3
    have hf:Hid (∀W,BX W0 W->XJ w ⟨mn,⟨ra,rn,rc⟩,⟨ka,kn,kc⟩,⟨oa,on,oc⟩,ar,rs,sv,sl⟩ d L pts (.returned (.tuple #[.pointer none,.int .i64 1])) W):=vH fun W hW=>hfin.out W _ (hb0.out.trans (hW.mono hb0.out.size)) (by decide) hx.out
    clear KP hrx hem hN hlen hfew2
    go_enter func20,ntmps20
    go_upto_region 1 with fail
    rw[←hW0.out]
    go_wp2_with (first
     |(go_at_call 47;refine(KN _).mono ?_;clear KN;rintro e W1 ⟨rfl,rfl⟩)
     |(go_at_call 48;refine KP3.mono ?_;clear KP3;rintro e W2 ⟨na,nc,pa,pc,rfl,hb2,hrn,hrp⟩))
    go_ret2
    exact hf.out _ hb2
   ·have hx0:Hid (jU d L=0):=vH (by rw[hfall.out,if_neg (by simp[hnb]),if_neg (by simp[hrx]),if_neg hem])
    obtain⟨N,hN⟩:∃N,N=(qC L).length:=⟨_,rfl⟩
    have hN0:0<N:=by rw[hN];unfold qC;rw[vP];exact List.length_pos_iff.2 hem
    rw[←hN] at KP3 hlen hfew2
    have hN1:((N:Int)==0)=false:=by simp;omega
    have hN2:((N:Int) != 0)=true:=by simp;omega
    replace hN:=vH hN
    replace hlen:=vH hlen
    clear KP hrx hem
    go_enter func20,ntmps20
    go_upto_region 1 with fail
    rw[←hW0.out]
    go_upto_region 9 with(first
     |(go_at_call 47;refine(KN _).mono ?_;clear KN;rintro e W1 ⟨rfl,rfl⟩)
     |(go_at_call 48;refine KP3.mono ?_;clear KP3;rintro e W2 ⟨na,nc,pa,pc,rfl,hb2,hrn,hrp⟩))
    have hB2:BX w W2:=hb0.out.trans (hb2.mono hb0.out.size)
    have x0:=qb hb2 x0
    have x1:=qb hb2 x1
    have x2:=qb hb2 x2
    have x3:=qb hb2 x3
    have x4:=qb hb2 x4
    have x5:=qb hb2 x5
    have x6:=qb hb2 x6
    have x7:=qb hb2 x7
    obtain⟨W3,hW3⟩:∃W3,W3=W2.alloc (.cells #[.string mn,.slice ra rn rc,.slice ka kn kc,.slice oa on oc,.slice ar.a ar.n ar.c,.string rs,.slice sv.a sv.n sv.c,.int .i64 sl,.slice na N nc,.slice pa N pc,.slice none 0 0] 67):=⟨_,rfl⟩
    have hb3:BX W2 W3:=by rw[hW3];exact qi
    have hS:jn w W3 W2.heap.size ⟨⟨mn,⟨ra,rn,rc⟩,⟨ka,kn,kc⟩,⟨oa,on,oc⟩,ar,rs,sv,sl⟩,⟨na,N,nc⟩,⟨pa,N,pc⟩,⟨none,0,0⟩⟩ d (qC L) (qQ L):=by
     refine⟨hB2.trans (hb3.mono hB2.size),hB2.size,?_,?_,?_,by rw[←hN.out];exact hfew2,by rw[hlen.out,hN.out],hokP.out,hI.out⟩
     ·rw[hW3];exact qd.new _ _ _
     ·have:=qe hrn.out hb3
      show W3.ownsRow w.heap.size 9 1 (.slice na N nc) (qC L).length ((qC L).map Value.string)
      rw[←hN.out]
      exact qm this hb0.out.size
     ·exact qm (qe hrp.out hb3) hb0.out.size
    have KC:=qfL W2.heap.size mn rs ⟨ra,rn,rc⟩ ⟨oa,on,oc⟩ ar sv ka kn kc sl ⟨na,N,nc⟩ ⟨pa,N,pc⟩ d (qC L) (qQ L) w W3 hS
    unfold XI at KC
    have hsame:=vH hS.same
    replace hW3:=vH hW3
    replace hS:=vH hS
    replace hB2:=vH hB2
    by_cases hcl:qy qj (qC L) (qQ L) d.classes=0
    ·have hwide:=vH (qaH (ns:=qC L) (ps:=qQ L) (xD hcl).2)
     have hnums:=vH (Zl hsame.out hcl)
     have KC2:Calls prog 49 #[.pointer (some ⟨W2.heap.size,0,none⟩)] W3 fun e w'=>e = .returned (.int .i64 0)/\Hid (∃cV,jn w w' W2.heap.size ⟨⟨mn,⟨ra,rn,rc⟩,⟨ka,kn,kc⟩,⟨oa,on,oc⟩,ar,rs,sv,sl⟩,⟨na,N,nc⟩,⟨pa,N,pc⟩,cV⟩ d (qC L) (qQ L)/\zC w w' cV (qr (qC L) d.classes)):=KC.mono fun e w' ⟨h1,h2,h3⟩=>⟨by rw[h1,hcl],vH (h3 hcl)⟩
     have hbe:Hid (xZ d L pts=if 4<=pts then jf (qC L) (qQ L) d.classes d.ops else 0):=vH (by rw[hdef.out,if_neg (by simp[hx0.out]),if_neg (by simp[hcl])])
     clear KC hcl
     go_upto_region 10 with fail
     rw[←hW3.out]
     go_upto_region 11 with(go_at_call 49;refine KC2.mono ?_;clear KC2;rintro e W4 ⟨rfl,hC⟩)
     obtain⟨cV,hS4,hL4⟩:=hC.out
     have hB4:=vH hS4.below
     by_cases h4:4<=pts
     ·have KO:=qlp W2.heap.size mn rs ⟨ra,rn,rc⟩ ⟨ka,kn,kc⟩ ar sv oa on oc sl ⟨na,N,nc⟩ ⟨pa,N,pc⟩ cV d (qC L) (qQ L) W4 (hS4.tabOk hL4.lists) hwide.out hnums.out
      have hbe2:Hid (xZ d L pts=jf (qC L) (qQ L) d.classes d.ops):=vH (by rw[hbe.out,if_pos h4])
      by_cases ho:jf (qC L) (qQ L) d.classes d.ops=0
      ·have hf:Hid (∀W,BX W4 W->XJ w ⟨mn,⟨ra,rn,rc⟩,⟨ka,kn,kc⟩,⟨oa,on,oc⟩,ar,rs,sv,sl⟩ d L pts (.returned (.tuple #[.pointer (some ⟨W2.heap.size,0,none⟩),.int .i64 0])) W):=vH fun W hW=>
        ⟨hB4.out.trans (hW.mono hB4.out.size),fun _=>⟨_,_,_,cV,rfl,hS4.step hW,hL4.below hW⟩,fun hn=>absurd (hbe2.out.trans ho) hn⟩
       rw[ho] at KO
       clear ho hS4 hL4
       go_wp2_with (go_at_call 50;refine KO.mono ?_;clear KO;rintro e W5 ⟨rfl,hb5⟩)
       go_ret2
       exact hf.out _ hb5
      ·have hf:Hid (∀W,BX W4 W->XJ w ⟨mn,⟨ra,rn,rc⟩,⟨ka,kn,kc⟩,⟨oa,on,oc⟩,ar,rs,sv,sl⟩ d L pts (.returned (.tuple #[.pointer none,.int .i64 (jf (qC L) (qQ L) d.classes d.ops)])) W):=vH fun W hW=>
        hfin.out W _ (hB4.out.trans (hW.mono hB4.out.size)) ho hbe2.out
       have ho1:(jf (qC L) (qQ L) d.classes d.ops != 0)=true:=by simpa using ho
       generalize jf (qC L) (qQ L) d.classes d.ops=ox at *
       clear ho hS4 hL4
       go_wp2_with (go_at_call 50;refine KO.mono ?_;clear KO;rintro e W5 ⟨rfl,hb5⟩)
       go_ret2
       exact hf.out _ hb5
     ·have hf:Hid (XJ w ⟨mn,⟨ra,rn,rc⟩,⟨ka,kn,kc⟩,⟨oa,on,oc⟩,ar,rs,sv,sl⟩ d L pts (.returned (.tuple #[.pointer (some ⟨W2.heap.size,0,none⟩),.int .i64 0])) W4):=vH
       ⟨hB4.out,fun _=>⟨_,_,_,cV,rfl,hS4,hL4⟩,fun hn=>absurd (by rw[hbe.out,if_neg h4]) hn⟩
      clear hS4 hL4
      go_wp2_with fail
      go_ret2
      exact hf.out
    ·have KC2:Calls prog 49 #[.pointer (some ⟨W2.heap.size,0,none⟩)] W3 fun e w'=>e = .returned (.int .i64 (qy qj (qC L) (qQ L) d.classes))/\BX w w':=KC.mono fun e w' ⟨h1,h2,_⟩=>⟨h1,h2⟩
     have hf:Hid (∀W,BX w W->XJ w ⟨mn,⟨ra,rn,rc⟩,⟨ka,kn,kc⟩,⟨oa,on,oc⟩,ar,rs,sv,sl⟩ d L pts (.returned (.tuple #[.pointer none,.int .i64 (qy qj (qC L) (qQ L) d.classes)])) W):=vH fun W hW=>
      hfin.out W _ hW hcl (by rw[hdef.out,if_neg (by simp[hx0.out]),if_pos hcl])
     have hc1:(qy qj (qC L) (qQ L) d.classes != 0)=true:=by simpa using hcl
     have hc2:(qy qj (qC L) (qQ L) d.classes==0)=false:=by simpa using hcl
     generalize qy qj (qC L) (qQ L) d.classes=cx at *
     clear KC hcl
     go_upto_region 10 with fail
     rw[←hW3.out]
     go_wp2_with (go_at_call 49;refine KC2.mono ?_;clear KC2;rintro e W4 ⟨rfl,hb4⟩)
     go_ret2
     exact hf.out _ hb4
  ·have hx:Hid (xZ d L pts=zB L):=vH (by
    have:jU d L=zB L:=by rw[hfall.out,if_neg (by simp[hnb]),if_pos hrx]
    rw[hdef.out,if_pos (by rw[this];exact hrx),this])
   have KP2:Calls prog 48 #[.slice ra rn rc] W0 fun e w'=>e = .returned (.tuple #[.slice none 0 0,.slice none 0 0,.int .i64 (zB L)])/\BX W0 w':=KP.mono fun e w' ⟨h1,_,h3⟩=>⟨h3 hrx,h1⟩
   have hf:Hid (∀W,BX W0 W->XJ w ⟨mn,⟨ra,rn,rc⟩,⟨ka,kn,kc⟩,⟨oa,on,oc⟩,ar,rs,sv,sl⟩ d L pts (.returned (.tuple #[.pointer none,.int .i64 (zB L)])) W):=vH fun W hW=>hfin.out W _ (hb0.out.trans (hW.mono hb0.out.size)) hrx hx.out
   have hr1:(zB L != 0)=true:=by simpa using hrx
   have hr2:(zB L==0)=false:=by simpa using hrx
   generalize zB L=rx at *
   clear KP hrx
   go_enter func20,ntmps20
   go_upto_region 1 with fail
   rw[←hW0.out]
   go_wp2_with (first
    |(go_at_call 47;refine(KN _).mono ?_;clear KN;rintro e W1 ⟨rfl,rfl⟩)
    |(go_at_call 48;refine KP2.mono ?_;clear KP2;rintro e W2 ⟨rfl,hb2⟩))
   go_ret2
   exact hf.out _ hb2
def yu(d:qz)(L:qg):Int:=zV qj d (zB L) (qC L) (qQ L)
theorem qek{L:qg} : qC L = []↔qo 0 L = []:=by unfold qC;rw[List.map_eq_nil_iff]
theorem qfM{d:qz}{L:qg}(h:xZ d L 4≠0):yu d L=xZ d L 4:=by
 unfold yu zV xZ jU at *
 simp only[qek]
 by_cases h1:qj d.name=false
 ·simp[h1]
 ·by_cases h2:zB L=0
  ·by_cases h3:qo 0 L = []
   ·simp[h1,h2,h3]
   ·by_cases h4:qy qj (qC L) (qQ L) d.classes=0
    ·by_cases h5:jf (qC L) (qQ L) d.classes d.ops=0
     ·exact absurd (by simp[h1,h2,h3,h4,h5]) h
     ·simp[h1,h2,h3,h4,h5]
    ·simp[h1,h2,h3,h4]
  ·simp[h1,h2]
theorem qhA{d:qz}{L:qg}(h:xZ d L 4=0):yu d L =
 if qL (qC L) (qQ L) d.args d.result d.saved d.slots=false then 10
 else if qX (qr (qC L) d.classes) (qh (qC L) d.args++[qv (qC L) d.result])=false then 10
 else if zQ (qQ L) (qr (qC L) d.classes) (d.ops.map (opR (qC L) d.classes))=false then 11 else 0:=by
 obtain⟨h1,h2,h3⟩:=qej h
 have h3:=h3 (by decide)
 unfold jU at h1
 have h4:qj d.name=true:=by
  cases hn:qj d.name
  ·rw[if_pos hn] at h1;cases h1
  ·rfl
 rw[if_neg (by simp[h4])] at h1
 have h5:zB L=0:=by
  by_cases he:zB L=0
  ·exact he
  ·rw[if_pos he] at h1;exact h1
 rw[if_neg (by simp[h5])] at h1
 have h6:¬ qo 0 L = []:=fun he=>by rw[if_pos he] at h1;cases h1
 unfold yu zV
 simp only[qek]
 rw[if_neg (by simp[h4]),if_neg (by simp[h5]),if_neg h6,if_neg (by simp[h2]),if_neg (by simp[h3])]
theorem JV(ns:List ByteArray)(ps:List Plc)(cs:List qp):∀ (os pre:List OpD),jj ns ps cs pre os=0->∀o,o∈os->zk o.name≠0
 | [],_,_,k,hk=>by cases hk
 |c::rest,pre,h,k,hk=>by
  unfold jj at h
  split at h
  ·rename_i h0
   rcases List.mem_cons.1 hk with rfl|hk
   ·intro h1
    unfold jI at h0
    rw[h1] at h0
    simp at h0
   ·exact JV ns ps cs rest _ h k hk
  ·rename_i h0
   exact absurd h h0
theorem qaM{nm:ByteArray->Bool}{ns:List ByteArray}{ps:List Plc}{cs:List qp}(h:qy nm ns ps cs=0)(o:zL):(ql ns cs o).length<=1000:=by
 unfold ql
 split
 ·simp
 ·rename_i k hk
  have hl:((qr ns cs).getD k []).length<=1000:=by
   rw[vG]
   cases hg:(qr ns cs)[k]? with
   | none=>simp
   |some l=>
    have hm:=vM hg
    obtain⟨c,hc,rfl⟩:=List.mem_map.1 hm
    have:=((Ji ns ps c).1 ((xD h).2 c hc)).1
    show(qh ns c.regs).length<=1000
    unfold qh
    rw[vP];omega
  split
  ·exact hl
  ·split <;> simp
theorem qkw{ns:List ByteArray}{ps:List Plc}{cs:List qp}{os:List OpD}(hs:ps.length=ns.length)(hc:qy qj ns ps cs=0)(ho:jf ns ps cs os=0){x:OpD}(hx:x∈os):qjf ns ps cs x:=by
 have hw:=qaH (ns:=ns) (ps:=ps) (xD hc).2
 have hG:=(Jv hw x).1 ((Zk ho).2 x hx)
 have hcl:=Zl hs hc
 have hch:∀q:zL,∀r,r∈ql ns cs q->Num ps r:=fun q r hr=>by
  obtain⟨l,h1,h2⟩:=yI hr
  exact hcl l h1 r h2
 have har:zk x.name≠0:=by
  unfold jf at ho
  rw[if_neg (by have:=(Zk (ns:=ns) (ps:=ps) (cs:=cs) (os:=os) (by unfold jf;exact ho)).1;omega)] at ho
  exact JV ns ps cs os [] ho x hx
 have ha2:zk x.name=1∨zk x.name=2:=by
  unfold zk at har ⊢
  split
  ·exact .inr rfl
  ·split
   ·exact .inl rfl
   ·rename_i h1 h2
    rw[if_neg h1,if_neg h2] at har
    exact absurd rfl har
 exact⟨hG,by rw[hG.len];exact ha2,hch x.d,fun u _=>hch u,qaM hc x.d,fun u _=>qaM hc u⟩
theorem qkx{ns:List ByteArray}{ps:List Plc}{cs:List qp}{x:OpD}(h:qjf ns ps cs x):Kf ps (opR ns cs x)=yf ps (opR ns cs x):=by
 have ht:=h.good.tie
 rw[qfD] at ht
 unfold jd at ht
 rw[Bool.or_eq_true,decide_eq_true_eq,Bool.and_eq_true,Bool.and_eq_true,decide_eq_true_eq,decide_eq_true_eq] at ht
 refine qiZ ?_ ?_ ?_ (fun r hr=>(h.dn r hr).1) (fun l hl r hr=>?_)
 ·show(x.uses.map _).length=1∨(x.uses.map _).length=2
  rw[vP];exact h.one
 ·show x.tie<((x.uses.map _).length:Int)
  rw[vP]
  rcases ht with ht|ht
  ·have:=h.one;omega
  ·exact ht.1.2
 ·intro h0
  show(x.uses.map (ql ns cs))[x.tie.toNat]?=some (ql ns cs x.d)
  rcases ht with ht|ht
  ·exact absurd h0 (by show ¬ 0<=x.tie;omega)
  ·cases hu:x.uses[x.tie.toNat]? with
   | none=>rw[hu] at ht;simp at ht
   |some u=>
    rw[hu] at ht
    have he:=ht.2
    dsimp only at he
    unfold ZA eqB at he
    rw[Bool.and_eq_true,decide_eq_true_eq,decide_eq_true_eq] at he
    have:u=x.d:=by
     obtain⟨a,b⟩:=u
     cases hd:x.d with
     | mk c e=>rw[hd] at he;dsimp only at he;rw[he.1,he.2]
    rw[vY,hu,this];rfl
 ·obtain⟨u,hu,rfl⟩:=List.mem_map.1 hl
  exact(h.un u hu r hr).1
theorem qhB(cls:List (List Int))(l:List Int):qX cls l=true↔∀ (i:Nat) (r:Int),l[i]?=some r->(cls.any fun k=>k.contains r)=true:=by
 unfold qX
 rw[vV]
 constructor
 ·exact fun h i r hr=>h r (vM hr)
 ·intro h r hr
  obtain⟨i,hi⟩:=List.getElem?_of_mem hr
  exact h i r hi
theorem qjl(ps:List Plc)(cls:List (List Int))(ops:List OpR):zQ ps cls ops=true↔(∀ (i:Nat) (o:OpR),ops[i]?=some o->yf ps o=true)/\∀ (i j:Nat) (x y:List Int),i<=j->cls[i]?=some x->cls[j]?=some y->qP ps [x,y]=true:=by
 unfold zQ
 rw[Bool.and_eq_true,vV,Jk]
 refine and_congr ⟨fun h i o ho=>h o (vM ho),fun h o ho=>?_⟩ Iff.rfl
 obtain⟨i,hi⟩:=List.getElem?_of_mem ho
 exact h i o hi
theorem qjm{ps:List Plc}{cls:List (List Int)}{i j:Nat}{x y:List Int}(hx:cls[i]?=some x)(hy:cls[j]?=some y):qee ps cls i j=qP ps [x,y]:=by
 have hi:=(vS.1 hx).1
 have hj:=(vS.1 hy).1
 unfold qee
 rw[vT (by omega),vT (by omega),vT (by omega),vT (by omega)]
 simp only[Int.toNat_natCast,vG,hx,hy]
 rfl
def qcn(w:World)(m:MV)(d:qz)(L:qg)(e:Ending)(w':World):Prop:=
 BX w w' /\
 (yu d L=0->∃ (T:Nat) (nV pV cV:SlV),e = .returned (.tuple #[.pointer (some ⟨T,0,none⟩),.int .i64 0])/\jn w w' T ⟨m,nV,pV,cV⟩ d (qC L) (qQ L)/\zC w w' cV (qr (qC L) d.classes)) /\
 (yu d L≠0->e = .returned (.tuple #[.pointer none,.int .i64 (yu d L)]))
theorem Zc.below{w w':World}{m:MV}{d:qz}(h:Zc w m d)(hb:BX w w'):Zc w' m d:=
 { h with kls:=h.kls.below hb,ops:=h.ops.below hb,args:=h.args.below hb,saved:=h.saved.below hb }
theorem yl.below{w w':World}{s:SlV}{L:qg}(h:yl w s L)(hb:BX w w'):yl w' s L:=
 h.imp id fun⟨b,o,c,h1,h2,h3⟩=>⟨b,o,c,h1,h2.below hb,h3⟩
theorem jn.base'{w W0 W1:World}{T:Nat}{t:TV}{d:qz}{ns:List ByteArray}{ps:List Plc}(h:jn W0 W1 T t d ns ps)(hb:BX w W0)(hI:Zc w t.m d):jn w W1 T t d ns ps:=
 ⟨hb.trans (h.below.mono hb.size),vR hb.size h.base,h.tab,qm h.names hb.size,qm h.places hb.size,h.few,h.same,h.ok,hI⟩
theorem zC.base'{w W0 W1:World}{s:SlV}{ls:List (List Int)}(h:zC W0 W1 s ls)(hb:w.heap.size<=W0.heap.size):zC w W1 s ls:=by
 obtain⟨vs,h1,h2,h3⟩:=h
 exact⟨vs,h1,qm h2 hb,h3⟩
theorem XY{P:Program}{w:World}{ops:Array Oper}{rest:List Oper}{o:Oper}{a:Act}{Q:Exit->Act->World->Prop}(hgd:o.guard=none)(s x:Operand)(t:TypeId)
 (ho:o.op = .call { callee:=.builtin .append,args:=#[s,x],argTypes:=#[t,t] })
 (e:TypeId) (i:TypeInfo) (z:Value) (bytes:Nat) (ht:P.underlying t=some (.slice e)) (hi:P.info? e=some i) (hz:i.zero=some z) (hsize:i.size=1) (hby:i.bytes=bytes) (hzs:z.cells.size=1)
 (hs:a.eval s = .slice none 0 0) (base:Nat) (sa:Option Addr) (n c:Nat) (xs:List Value) (hx:a.eval x = .slice sa n c) (hown:w.ownsRow base e 1 (.slice sa n c) n xs) (h1:∀u,u∈xs->u.oneCell'=true) (hl:xs.length=n) (hn:n<=100000) (hb:bytes<=100)
 (h:∀v' w',w'.ownsRow w.heap.size e 1 v' n xs->BX w w'->wpList P ops Q rest (a.put o.dst v') w'):wpList P ops Q (o::rest) a w:=by
 cases sa with
 |none=>
  rcases hown.2 with⟨h2,h3⟩|⟨g,cap,cur,h2,_⟩
  ·injection h2 with _ e2 e3
   subst e3
   have hn0:n=0:=e2
   subst hn0
   have hxs:xs = []:=vJ.1 hl
   subst hxs
   exact Qz hgd s x t ho e i z ht hi hz none 0 0 hs hx (vL _) (fun _=>⟨rfl,rfl⟩) (by decide) (h _ _ (kO _ _ _ _) (kB _ _))
  ·injection h2 with e1;cases e1
 |some ad=>
  have had:∃g,ad=⟨g,0,none⟩:=by
   rcases hown.2 with⟨h2,_⟩|⟨g,cap,cur,h2,_⟩
   ·injection h2 with e1;cases e1
   ·injection h2 with e1;exact⟨g,Option.some.inj e1⟩
  obtain⟨g,rfl⟩:=had
  refine wpList_append_own_at w hgd s x t ho w.heap.size e i z 1 bytes ht hi hz hsize hby hzs (by decide) (.slice none 0 0) 0 [] hs (kO _ _ _ _) ⟨g,0,none⟩ n c xs hx (by rw[hl,Nat.mul_one]) ?_ h1 (by unfold maxLen;omega) ?_ (vL _) ?_
  ·exact World.ownsRow.cells hown rfl
  ·have:(0+n)*bytes<=100000*100:=Nat.mul_le_mul (by omega) hb
   omega
  ·intro v' w' hrow hg _ _
   rw[Nat.zero_add,List.nil_append] at hrow
   exact h v' w' hrow ((kB _ _).grown hg (vL _) (fun k hk=>by simp[Value.ownBlock] at hk))
theorem qcT{w:World}{m:MV}{d:qz}{L:qg}(hn:m.name=d.name)(hI:Zc w m d)(hR:yl w m.regs L)(hcap:m.regs.n<=m.regs.c) :
 Calls prog 6 #[m.val] w (qcn w m d L):=by
 obtain⟨mn,⟨ra,rn,rc⟩,kl,⟨oa,on,oc⟩,⟨aa,an,ac⟩,rs,⟨sa,sn,sc⟩,sl⟩:=m
 dsimp only at hn hR hcap
 show Calls prog 6 #[.agg #[.string mn,.slice ra rn rc,.slice kl.a kl.n kl.c,.slice oa on oc,.slice aa an ac,.string rs,.slice sa sn sc,.int .i64 sl]] w _
 obtain⟨W0,hW0⟩:∃W0,W0=w.alloc (.cells #[.string mn,.slice ra rn rc,.slice kl.a kl.n kl.c,.slice oa on oc,.slice aa an ac,.string rs,.slice sa sn sc,.int .i64 sl] 27):=⟨_,rfl⟩
 have hb0:BX w W0:=by rw[hW0];exact qi
 have hbx:qd W0 w.heap.size 27 #[.string mn,.slice ra rn rc,.slice kl.a kl.n kl.c,.slice oa on oc,.slice aa an ac,.string rs,.slice sa sn sc,.int .i64 sl]:=by rw[hW0];exact qd.new _ _ _
 have KB:=qjk (w:=W0) (m:=⟨mn,⟨ra,rn,rc⟩,kl,⟨oa,on,oc⟩,⟨aa,an,ac⟩,rs,⟨sa,sn,sc⟩,sl⟩) hn (hI.below hb0) (hR.below hb0) hcap 4
 change Calls _ _ #[.agg #[.string mn,.slice ra rn rc,.slice kl.a kl.n kl.c,.slice oa on oc,.slice aa an ac,.string rs,.slice sa sn sc,.int .i64 sl],.int .i64 4] _ _ at KB
 have x0:=hbx.cell (j:=0) (v:=.string mn) rfl
 have x1:=hbx.cell (j:=1) (v:=.slice ra rn rc) rfl
 have x2:=hbx.cell (j:=2) (v:=.slice kl.a kl.n kl.c) rfl
 have x3:=hbx.cell (j:=3) (v:=.slice oa on oc) rfl
 have x4:=hbx.cell (j:=4) (v:=.slice aa an ac) rfl
 have x5:=hbx.cell (j:=5) (v:=.string rs) rfl
 have x6:=hbx.cell (j:=6) (v:=.slice sa sn sc) rfl
 have x7:=hbx.cell (j:=7) (v:=.int .i64 sl) rfl
 have hfin:∀ (W:World) (x:Int),BX w W->x≠0->yu d L=x->qcn w ⟨mn,⟨ra,rn,rc⟩,kl,⟨oa,on,oc⟩,⟨aa,an,ac⟩,rs,⟨sa,sn,sc⟩,sl⟩ d L (.returned (.tuple #[.pointer none,.int .i64 x])) W:=fun W x hW hx he=>
  ⟨hW,fun h=>absurd (he.symm.trans h) hx,fun _=>by rw[he]⟩
 by_cases hbe:xZ d L 4=0
 ·have hrest:=qhA hbe
  obtain⟨_,hcl,hos⟩:=qej hbe
  have hos:=hos (by decide)
  have KB2:Calls prog 20 #[.agg #[.string mn,.slice ra rn rc,.slice kl.a kl.n kl.c,.slice oa on oc,.slice aa an ac,.string rs,.slice sa sn sc,.int .i64 sl],.int .i64 4] W0 fun e w'=>∃ (T:Nat) (nV pV cV:SlV),e = .returned (.tuple #[.pointer (some ⟨T,0,none⟩),.int .i64 0])/\Hid (jn W0 w' T ⟨⟨mn,⟨ra,rn,rc⟩,kl,⟨oa,on,oc⟩,⟨aa,an,ac⟩,rs,⟨sa,sn,sc⟩,sl⟩,nV,pV,cV⟩ d (qC L) (qQ L))/\Hid (zC W0 w' cV (qr (qC L) d.classes))/\BX W0 w':=KB.mono fun e w' ⟨h1,h2,_⟩=>by
   obtain⟨T,nV,pV,cV,he,hS,hL⟩:=h2 hbe
   exact⟨T,nV,pV,cV,he,vH hS,vH hL,h1⟩
  have hargs:=hI.args
  have hsaved:=hI.saved
  have hops:=hI.ops
  have hres:=hI.res
  have hsl:=hI.sl
  have hab:=hI.ab
  have hsb:=hI.sb
  have hob:=hI.ob
  dsimp only at hargs hsaved hops hres hsl
  have han:=hargs.1
  have hac:=hargs.2.1
  have hsn:=hsaved.1
  have hsc:=hsaved.2.1
  have hon:=hops.1
  have hoc:=hops.2.1
  dsimp only at han hac hsn hsc hon hoc
  obtain⟨ns,hns⟩:∃ns,ns=qC L:=⟨_,rfl⟩
  obtain⟨ps,hps⟩:∃ps,ps=qQ L:=⟨_,rfl⟩
  rw[←hns,←hps] at hrest hcl hos KB2
  obtain⟨cls,hclsd⟩:∃cls,cls=qr ns d.classes:=⟨_,rfl⟩
  rw[←hclsd] at hrest KB2
  obtain⟨res,hresd⟩:∃res,res=qv ns d.result:=⟨_,rfl⟩
  rw[←hresd] at hrest
  rw[←hsl] at hrest
  have hten:qL ns ps d.args d.result d.saved sl=false->yu d L=10:=fun h=>by rw[hrest,if_pos h]
  have hten2:qL ns ps d.args d.result d.saved sl=true->qX cls (qh ns d.args++[res])=false->yu d L=10:=fun h h2=>by rw[hrest,if_neg (by simp[h]),if_pos h2]
  have helev:qL ns ps d.args d.result d.saved sl=true->qX cls (qh ns d.args++[res])=true->zQ ps cls (d.ops.map (opR ns d.classes))=false->yu d L=11:=fun h h2 h3=>by rw[hrest,if_neg (by simp[h]),if_neg (by simp[h2]),if_pos h3]
  have hzero:qL ns ps d.args d.result d.saved sl=true->qX cls (qh ns d.args++[res])=true->zQ ps cls (d.ops.map (opR ns d.classes))=true->yu d L=0:=fun h h2 h3=>by rw[hrest,if_neg (by simp[h]),if_neg (by simp[h2]),if_neg (by simp[h3])]
  have hconv:=qiX ns ps d.args d.result d.saved d.slots
  rw[hsl.symm] at hconv
  replace hten:=vH hten
  replace hten2:=vH hten2
  replace helev:=vH helev
  replace hzero:=vH hzero
  replace hconv:=vH hconv
  replace hfin:=vH hfin
  replace hI:=vH hI
  replace hargs:=vH hargs
  replace hsaved:=vH hsaved
  replace hops:=vH hops
  replace hres:=vH hres
  replace hsl:=vH hsl
  replace han:=vH han
  replace hsn:=vH hsn
  replace hon:=vH hon
  replace hns:=vH hns
  replace hps:=vH hps
  replace hclsd:=vH hclsd
  replace hresd:=vH hresd
  replace hcl:=vH hcl
  replace hos:=vH hos
  replace hb0:=vH hb0
  replace hW0:=vH hW0
  have anb:an<=140737488355328:=by have:=han.out;omega
  have snb:sn<=140737488355328:=by have:=hsn.out;omega
  have onb:on<=140737488355328:=by have:=hon.out;omega
  clear KB hrest hbe hR hn
  go_enter func6,ntmps6
  go_upto_region 1 with fail
  rw[←hW0.out]
  go_upto_region 4 with(go_at_call 20;refine KB2.mono ?_;clear KB2;rintro e W1 ⟨T,nV,pV,⟨ca,cn,cc⟩,rfl,hS,hL,hb1⟩)
  have hA1:Hid (BX w W1):=vH (hb0.out.trans (hb1.mono hb0.out.size))
  have hTab:Hid (∀W,BX W1 W->jy W T ⟨⟨mn,⟨ra,rn,rc⟩,kl,⟨oa,on,oc⟩,⟨aa,an,ac⟩,rs,⟨sa,sn,sc⟩,sl⟩,nV,pV,⟨ca,cn,cc⟩⟩ d ns ps cls):=vH fun W hb=>(hS.out.step hb).tabOk (hL.out.below hb).lists
  have hAll:Hid (∀W,BX W1 W->BX w W):=vH fun W hb=>hA1.out.trans (hb.mono hA1.out.size)
  have hsame:=vH hS.out.same
  have tc10:=qd.cell hS.out.tab (j:=10) (v:=.slice ca cn cc) rfl
  have hcn:Hid (cn=cls.length):=vH hL.out.lists.len
  have cnb:cn<=64:=by
   have h1:=(xD hcl.out).1
   have h2:=hcn.out
   rw[hclsd.out] at h2
   unfold qr at h2
   rw[vP] at h2
   omega
  have hend:Hid (∀W,BX W1 W->yu d L=0->qcn w ⟨mn,⟨ra,rn,rc⟩,kl,⟨oa,on,oc⟩,⟨aa,an,ac⟩,rs,⟨sa,sn,sc⟩,sl⟩ d L (.returned (.tuple #[.pointer (some ⟨T,0,none⟩),.int .i64 0])) W):=vH fun W hb h0=>by
   have e1:=hns.out
   have e2:=hps.out
   have e3:=hclsd.out
   subst e1 e2 e3
   exact⟨hAll.out W hb,fun _=>⟨T,nV,pV,⟨ca,cn,cc⟩,rfl,(hS.out.step hb).base' hb0.out hI.out,(hL.out.below hb).base' hb0.out.size⟩,fun h=>absurd h0 h⟩
  have y3:=qb hb1 x3
  have y4:=qb hb1 x4
  have y6:=qb hb1 x6
  have y7:=qb hb1 x7
  clear x0 x1 x2 x3 x4 x5 x6 x7
  have KA:=qeg T _ d ns ps cls ⟨aa,an,ac⟩ d.args W1 (hTab.out W1 (kB _ _)) (hargs.out.below (hAll.out W1 (kB _ _))) hab
  have hApi:=vH (ZP ns ps d.args)
  generalize ZW ns ps d.args=Ab at KA hApi
  go_upto_region 5 with(go_at_call 21;refine KA.mono ?_;clear KA;rintro e W2 ⟨rfl,hb2⟩)
  have z6:=qb hb2 y6
  have KS:=qeg T _ d ns ps cls ⟨sa,sn,sc⟩ d.saved W2 (hTab.out W2 hb2) (hsaved.out.below (hAll.out W2 hb2)) hsb
  have hSpi:=vH (ZP ns ps d.saved)
  generalize ZW ns ps d.saved=Sb at KS hSpi
  go_upto_region 6 with(go_at_call 21;refine KS.mono ?_;clear KS;rintro e W3 ⟨rfl,hb3⟩)
  have hB3:BX W1 W3:=hb2.trans (hb3.mono hb2.size)
  clear z6
  have z3:=qb hB3 y3
  have z4:=qb hB3 y4
  have z6:=qb hB3 y6
  have z7:=qb hB3 y7
  have KR:∀W,BX W1 W->Calls prog 22 #[.pointer (some ⟨T,0,none⟩)] W fun e w'=>e = .returned (.int .i64 res)/\W=w':=fun W hb=>by
   rw[hresd.out];exact qhu T _ d ns ps cls W (hTab.out W hb)
  replace KR:=vH KR
  have KR3:=KR.out W3 hB3
  go_cut [67] from 35 to 67 (fun s Wx=>s = .bool (decide ((16:Int)<an) || !Ab||decide (res<0)||decide ((64:Int)<sn) || !Sb||decide (sl<0)||decide ((1000:Int)<sl))/\Wx=W3)
  case first=>
   by_cases c1:(16:Int)<an
   ·go_wp2_with fail
    go_meet
    exact⟨by simp[c1],rfl⟩
   ·cases Ab with
    |false=>
     go_wp2_with fail
     go_meet
     exact⟨by simp,rfl⟩
    |true=>
     by_cases c3:res<0
     ·go_wp2_with (go_at_call 22;refine KR3.mono ?_;clear KR3;rintro e W4 ⟨rfl,rfl⟩)
      go_meet
      exact⟨by simp[c3],rfl⟩
     ·by_cases c4:(64:Int)<sn
      ·go_wp2_with (go_at_call 22;refine KR3.mono ?_;clear KR3;rintro e W4 ⟨rfl,rfl⟩)
       go_meet
       exact⟨by simp[c4],rfl⟩
      ·cases Sb with
       |false=>
        go_wp2_with (go_at_call 22;refine KR3.mono ?_;clear KR3;rintro e W4 ⟨rfl,rfl⟩)
        go_meet
        exact⟨by simp,rfl⟩
       |true=>
        by_cases c6:sl<0
        ·go_wp2_with (go_at_call 22;refine KR3.mono ?_;clear KR3;rintro e W4 ⟨rfl,rfl⟩)
         go_meet
         exact⟨by simp[c6],rfl⟩
        ·by_cases c7:(1000:Int)<sl
         all_goals
          go_wp2_with (go_at_call 22;refine KR3.mono ?_;clear KR3;rintro e W4 ⟨rfl,rfl⟩)
          go_meet
          exact⟨by rw[vF (show ¬ (16:Int)<an by omega),vF (show ¬ res<0 by omega),vF (show ¬ (64:Int)<sn by omega),vF (show ¬ sl<0 by omega)];first|(rw[vT (show(1000:Int)<sl by omega)];rfl)|(rw[vF (show ¬ (1000:Int)<sl by omega)];rfl),rfl⟩
  case rest=>
   obtain⟨rfl,hwc⟩:=hcut
   subst wc
   clear KR3
   cases hbad:(decide ((16:Int)<an) || !Ab||decide (res<0)||decide ((64:Int)<sn) || !Sb||decide (sl<0)||decide ((1000:Int)<sl)) with
   |true=>
    have hf:=vH (hfin.out W3 10 (hAll.out W3 hB3) (by decide) (hten.out (by
     rw[vD]
     intro hc
     have hG:=hconv.out.1 hc
     have h1:=hG.few
     have h2:=hApi.out.2 hG.argsG
     have h3:=hG.res
     have h4:=hG.fewS
     have h5:=hSpi.out.2 hG.savedG
     have h6:=hG.s0
     have h7:=hG.s1
     rw[←hresd.out] at h3
     have e1:=han.out
     have e2:=hsn.out
     subst h2 h5
     simp only[Bool.not_true,Bool.or_false,Bool.or_eq_true,decide_eq_true_eq] at hbad
     omega)))
    clear hbad
    go_wp2_with fail
    go_ret2
    exact hf.out
   |false=>
    simp only[Bool.or_eq_false_iff,decide_eq_false_iff_not,Bool.not_eq_false'] at hbad
    obtain⟨⟨⟨⟨⟨⟨c1,hAb⟩,c3⟩,c4⟩,hSb⟩,c6⟩,c7⟩:=hbad
    have hag:=vH (hApi.out.1 hAb)
    have hsg:=vH (hSpi.out.1 hSb)
    subst hAb hSb
    have hnres:Hid (Num ps res):=vH ⟨by omega,by have:=zO ns d.result;rw[←hresd.out] at this;have:=hsame.out;omega⟩
    have hnsv:Hid (∀x,x∈d.saved->Num ps (qv ns x)):=vH fun x hx=>by
     obtain⟨j,hj⟩:=List.getElem?_of_mem hx
     have h1:=(hsg.out j x hj).1
     have h2:=zO ns x
     have:=hsame.out
     exact⟨h1,by omega⟩
    clear hApi hSpi
    go_wp2_with fail
    go_loopw [8] (fun i W=>∃ (k:Nat),k<=sn/\i = .int .i64 k/\Hid (∀ (j:Nat) (x:ByteArray),j<k->d.saved[j]?=some x->zR (plc ps res) (plc ps (qv ns x))=false)/\BX W1 W) (fun i _=>sn-(intOf i).toNat)
    case atStart=>exact⟨0,vO _,rfl,vH fun j x hj=>absurd hj (Nat.not_lt_zero _),hB3⟩
    case round=>
     obtain⟨k,hk,rfl,hY,hB⟩:=hrel
     have k0:(0:Int)<=k:=vN _
     have v6:=qb hB y6
     by_cases hks:k<sn
     ·obtain⟨x,hx⟩:∃x,d.saved[k]?=some x:=⟨d.saved[k]'(by have:=hsn.out;omega),vE _⟩
      obtain⟨bs,os,hsa,hcx⟩:=hsaved.out.2.2 k x hx
      dsimp only at hsa
      have ex:=qb (hAll.out wr hB) hcx
      have hks2:(k:Int)<sn:=by omega
      have hnx:=hnsv.out x (vM hx)
      have KG:=fun W (hb:BX wr W)=>ZN T _ ns x W (hTab.out W (hB.trans (hb.mono hB.size))).tab (hTab.out W (hB.trans (hb.mono hB.size))).names (hTab.out W (hB.trans (hb.mono hB.size))).nbig
      have KR4:=fun W (hb:BX wr W)=>KR.out W (hB.trans (hb.mono hB.size))
      have KL:=fun W (hb:BX wr W)=>Zn T _ ps res (qv ns x) W (hTab.out W (hB.trans (hb.mono hB.size))).tab (hTab.out W (hB.trans (hb.mono hB.size))).places hnres.out hnx
      subst hsa
      cases hl:zR (plc ps res) (plc ps (qv ns x)) with
      |true=>
       have hf:=vH (fun W (hb:BX wr W)=>hfin.out W 10 (hAll.out W (hB.trans (hb.mono hB.size))) (by decide) (hten.out (by
        rw[vD]
        intro hc
        have:=(hconv.out.1 hc).clear x (vM hx)
        rw[←hresd.out,hl] at this;cases this)))
       rw[hl] at KL
       generalize qv ns x=rx at *
       replace hx:=vH hx
       clear hY hl
       go_wp2_with fail
       go_region_held3 (fun w'=>w'.cell? ⟨w.heap.size,6,none⟩=some (.slice (some ⟨bs,os,none⟩) sn sc)/\w'.cell? ⟨bs,os+k,none⟩=some (.string x))
        (go_keep)
        ((first
          |(go_at_call 22;refine(KR4 _ (kB _ _).drew).mono ?_;rintro e W4 ⟨rfl,rfl⟩)
          |(go_at_call 24;refine(KG _ (kB _ _).drew).mono ?_;rintro e W4 ⟨rfl,rfl⟩)
          |(go_at_call 23;refine(KL _ (kB _ _).drew).mono ?_;rintro e W4 ⟨rfl,hb4⟩;have q0:=qb hb4 v6;have q1:=qb hb4 ex)))
       go_wp2_with fail
       go_ret2
       exact hf.out _ ((kB _ _).drew.trans hb4)
      |false=>
       have hY2:Hid (∀ (j:Nat) (x:ByteArray),j<k+1->d.saved[j]?=some x->zR (plc ps res) (plc ps (qv ns x))=false):=vH fun j x' hj hx'=>by
        by_cases hjk:j<k
        ·exact hY.out j x' hjk hx'
        ·obtain rfl:j=k:=by omega
         rw[hx] at hx';cases hx';exact hl
       rw[hl] at KL
       generalize qv ns x=rx at KG KL
       replace hx:=vH hx
       clear hY hl
       go_wp2_with fail
       go_region_held3 (fun w'=>w'.cell? ⟨w.heap.size,6,none⟩=some (.slice (some ⟨bs,os,none⟩) sn sc)/\w'.cell? ⟨bs,os+k,none⟩=some (.string x))
        (go_keep)
        ((first
          |(go_at_call 22;refine(KR4 _ (kB _ _).drew).mono ?_;rintro e W4 ⟨rfl,rfl⟩)
          |(go_at_call 24;refine(KG _ (kB _ _).drew).mono ?_;rintro e W4 ⟨rfl,rfl⟩)
          |(go_at_call 23;refine(KL _ (kB _ _).drew).mono ?_;rintro e W4 ⟨rfl,hb4⟩;have q0:=qb hb4 v6;have q1:=qb hb4 ex)))
       go_wp2_with fail
       exact⟨⟨k+1,by omega,by go_num,hY2,hB.trans (((kB _ _).drew.trans hb4).mono hB.size)⟩,by simp[intOf];omega⟩
     ·have hC:Hid (qL ns ps d.args d.result d.saved sl=true):=vH (hconv.out.2 ⟨by have:=han.out;omega,hag.out,by rw[←hresd.out];omega,by have:=hsn.out;omega,hsg.out,by omega,by omega,fun x hx=>by
       obtain⟨j,hj⟩:=List.getElem?_of_mem hx
       have:=hY.out j x (by have:=(vS.1 hj).1;have:=hsn.out;omega) hj
       rw[←hresd.out];exact this⟩)
      have anb:an<=100000:=by omega
      have KArgs:=qkp T _ d ns ps cls wr (hTab.out wr hB) (by have:=han.out;omega)
      rw[Yz (fun x hx=>by
       obtain⟨j,hj⟩:=List.getElem?_of_mem hx
       exact(hag.out j x hj).1)] at KArgs
      unfold yT at KArgs
      have hrl:(qh ns d.args).length=an:=by unfold qh;rw[vP];exact han.out.symm
      rw[hrl] at KArgs
      obtain⟨i0,hi0,hz0,hz1,hz2⟩:=info_parts ji
      replace hten:=vH (hten2.out hC.out)
      replace helev:=vH (helev.out hC.out)
      replace hzero:=vH (hzero.out hC.out)
      obtain⟨RL,hRL⟩:∃RL,RL=qh ns d.args:=⟨_,rfl⟩
      rw[←hRL] at KArgs hten helev hzero hrl
      replace hRL:=vH hRL
      replace hrl:=vH hrl
      obtain⟨w2,rfl⟩:∃w2:World,w2=wr:=⟨_,rfl⟩
      clear hY hconv hag hsg hnsv hten2
      go_wp2_with fail
      go_at_call 25
      refine KArgs.mono ?_
      clear KArgs
      rintro e W4 ⟨⟨ga,gn,gc⟩,rfl,hrow4,hb4⟩
      have hB4:=hB.trans (hb4.mono hB.size)
      obtain⟨ga',gc',hg4⟩:=qx hrow4
      have hgn:gn=an:=by(unfold SlV.v at hg4;injection hg4 with _ e2 _)
      subst hgn
      clear hg4
      go_wp2_with (first
       |(at_builtin;refine XY rfl _ _ 55 rfl 3 i0 _ 8 underlying55 hi0 hz0 hz1 hz2 rfl rfl _ ga gn gc (RL.map (Value.int .i64)) rfl hrow4 (fun u hu=>by obtain⟨y,_,rfl⟩:=List.mem_map.1 hu;rfl) (by rw[vP];exact hrl.out) anb (by decide) ?_;intro v5 W5 hrow5 hb5;have hB5:=hB4.trans (hb5.mono hB4.size);have KR5:=KR.out W5 hB5)
       |(go_at_call 22;refine KR5.mono ?_;clear KR5;rintro e W6 ⟨rfl,rfl⟩)
       |(at_builtin;go_loud (refine wpList_append_own_at _ rfl _ _ 55 rfl W4.heap.size 3 i0 _ 1 8 underlying55 hi0 hz0 hz1 hz2 rfl (by decide) _ gn (RL.map (Value.int .i64)) rfl (hrow5.alloc _) ⟨W5.heap.size,0,none⟩ 1 1 [.int .i64 res] rfl rfl (zo _ _ _ _ rfl) (by simp[Value.oneCell']) (by unfold maxLen;omega) (by omega) (by have:=hb5.size;simp;omega) ?_;intro v' W7 hown7 hgrow _ hblk;obtain⟨g',cap',rfl⟩:=ownsRow_succ hown7)))
      have hB7:BX W1 W7:=(hB5.alloc hB5.size _).grown hgrow (by have:=hB5.size;simp;omega) (fun g hg=>vR hB4.size (qf hrow5 hg).1)
      have hAlen:(RL++[res]).length=gn+1:=by rw[kA,hrl.out];rfl
      have h7:W7.ownsRow W4.heap.size 3 1 (SlV.v ⟨some ⟨g',0,none⟩,gn+1,cap'⟩) (RL++[res]).length ((RL++[res]).map (Value.int .i64)):=by rw[hAlen,kM];exact hown7
      have hAat:qJ W7 ⟨some ⟨g',0,none⟩,gn+1,cap'⟩ (RL++[res]):=qJ.of_row h7 (by rw[hAlen])
      obtain⟨AL,hAL⟩:∃AL,AL=RL++[res]:=⟨_,rfl⟩
      rw[←hAL] at hAat hAlen hten helev hzero
      replace hAL:=vH hAL
      replace hAat:=vH hAat
      replace hAlen:=vH hAlen
      have hhom:=vH (qhB cls AL)
      have gn0:(0:Int)<=gn:=vN _
      clear hrow4 hrow5 hown7 h7 hgrow hblk hnres
      go_wp2_with fail
      go_loopw [11] (fun i W=>∃ (k:Nat),k<=gn+1/\i = .int .i64 k/\Hid (∀ (j:Nat) (r:Int),j<k->AL[j]?=some r->(cls.any fun c=>c.contains r)=true)/\BX W7 W) (fun i _=>gn+1-(intOf i).toNat)
      case atStart=>exact⟨0,vO _,rfl,vH fun j r hj=>absurd hj (Nat.not_lt_zero _),kB _ _⟩
      case round=>
       obtain⟨k,hk,rfl,hY,hB8⟩:=hrel
       have k0:(0:Int)<=k:=vN _
       have hB9:BX W1 wr:=hB7.trans (hB8.mono hB7.size)
       by_cases hka:k<gn+1
       ·obtain⟨r,hr⟩:∃r,AL[k]?=some r:=⟨AL[k]'(by have:=hAlen.out;omega),vE _⟩
        obtain⟨bg,og,hbg,hcr⟩:=hAat.out.2.2 k r hr
        cases hbg
        have er:=qb hB8 hcr
        have hka2:(k:Int)<(gn:Int)+1:=by omega
        rw[Nat.zero_add] at er
        replace hr:=vH hr
        obtain⟨w3,rfl⟩:∃w3:World,w3=wr:=⟨_,rfl⟩
        go_wp2_with fail
        go_loopw [12,13] (fun g c W=>∃ (j:Nat) (gb:Bool),j<=cn/\c = .int .i64 j/\g = .bool gb/\Hid (gb=(cls.take j).any fun c=>c.contains r)/\BX W7 W) (fun _ c _=>cn-(intOf c).toNat)
        case atStart=>exact⟨0,false,vO _,rfl,rfl,vH rfl,hB8⟩
        case round=>
         obtain⟨j,gb,hj,rfl,rfl,hG,hB10⟩:=hrel
         have j0:(0:Int)<=j:=vN _
         have hB11:BX W1 wr:=hB7.trans (hB10.mono hB7.size)
         have t10:=qb hB11 tc10
         have er2:=qb hB10 hcr
         rw[Nat.zero_add] at er2
         by_cases hjc:j<cn
         ·have hjc2:(j:Int)<cn:=by omega
          obtain⟨l,hl⟩:∃l,cls[j]?=some l:=⟨cls[j]'(by have:=hcn.out;omega),vE _⟩
          have KI:=qea T _ cls j r wr (hTab.out wr hB11).tab (hTab.out wr hB11).lists (.inr ⟨j0,by have:=(vS.1 hl).1;omega⟩)
          have hlc:(decide ((0:Int)<=(j:Int))&&(cls.getD (j:Int).toNat []).contains r)=l.contains r:=by
           rw[vT j0,Bool.true_and,Int.toNat_natCast,vG,hl];rfl
          rw[hlc] at KI
          have htk:(cls.take (j+1)).any (fun c=>c.contains r)=(((cls.take j).any fun c=>c.contains r)||l.contains r):=by
           rw[vX,hl,List.any_append];simp
          replace hl:=vH hl
          replace htk:=vH htk
          cases gb with
          |true=>
           have hG2:Hid (true=(cls.take (j+1)).any fun c=>c.contains r):=vH (by rw[htk.out,←hG.out];rfl)
           clear hG KI hlc
           go_wp2_with fail
           exact⟨⟨j+1,true,by omega,by go_num,rfl,hG2,hB10⟩,by simp[intOf];omega⟩
          |false=>
           have hG2:Hid (l.contains r=(cls.take (j+1)).any fun c=>c.contains r):=vH (by rw[htk.out,←hG.out];rfl)
           generalize l.contains r=lr at *
           clear hG hlc
           go_wp2_with (go_at_call 26;refine KI.mono ?_;clear KI;rintro e W12 ⟨rfl,rfl⟩)
           exact⟨⟨j+1,lr,by omega,by go_num,rfl,hG2,hB10⟩,by simp[intOf];omega⟩
         ·have hG2:Hid (gb=cls.any fun c=>c.contains r):=vH (by rw[hG.out,List.take_of_length_le (by have:=hcn.out;omega)])
          clear hG
          cases gb with
          |false=>
           have hf:=vH (hfin.out wr 10 (hAll.out wr hB11) (by decide) (hten.out (by
            rw[vD]
            intro hc
            have:=hhom.out.1 hc k r hr.out
            rw[←hG2.out] at this;cases this)))
           go_wp2_with fail
           go_ret2
           exact hf.out
          |true=>
           have hY2:Hid (∀ (j:Nat) (r:Int),j<k+1->AL[j]?=some r->(cls.any fun c=>c.contains r)=true):=vH fun j r' hj hr'=>by
            by_cases hjk:j<k
            ·exact hY.out j r' hjk hr'
            ·obtain rfl:j=k:=by omega
             have:=hr.out
             rw[this] at hr';cases hr'
             exact hG2.out.symm
           clear hY hG2
           go_wp2_with fail
           exact⟨⟨k+1,by omega,by go_num,hY2,hB10⟩,by simp[intOf];omega⟩
       ·have hH:Hid (qX cls AL=true):=vH (hhom.out.2 fun j r hr=>hY.out j r (by have:=(vS.1 hr).1;have:=hAlen.out;omega) hr)
        replace helev:=vH (helev.out hH.out)
        replace hzero:=vH (hzero.out hH.out)
        have hroom:=vH (qjl ps cls (d.ops.map (opR ns d.classes)))
        have hTab2:Hid (∀W,BX W1 W->jy W T ⟨⟨mn,⟨ra,rn,rc⟩,kl,⟨oa,on,oc⟩,⟨aa,gn,ac⟩,rs,⟨sa,sn,sc⟩,sl⟩,nV,pV,⟨ca,cn,cc⟩⟩ d ns ps (qr ns d.classes)):=vH fun W hb=>by rw[←hclsd.out];exact hTab.out W hb
        have hnum:Hid (∀l,l∈cls->∀x,x∈l->Num ps x):=vH (by rw[hclsd.out];exact Zl hsame.out hcl.out)
        have u3:=qb hB9 y3
        obtain⟨w3,rfl⟩:∃w3:World,w3=wr:=⟨_,rfl⟩
        have hka2:¬ (k:Int)<(gn:Int)+1:=by omega
        clear hY hhom hten
        go_wp2_with fail
        go_loopw [14] (fun i W=>∃ (k:Nat),k<=on/\i = .int .i64 k/\Hid (∀ (j:Nat) (o:OpR),j<k->(d.ops.map (opR ns d.classes))[j]?=some o->yf ps o=true)/\BX W7 W) (fun i _=>on-(intOf i).toNat)
        case atStart=>exact⟨0,vO _,rfl,vH fun j o hj=>absurd hj (Nat.not_lt_zero _),hB8⟩
        case round=>
         obtain⟨q,hq,rfl,hF,hB12⟩:=hrel
         have q0:(0:Int)<=q:=vN _
         have hB13:BX W1 wr:=hB7.trans (hB12.mono hB7.size)
         have u3:=qb hB13 y3
         by_cases hqo:q<on
         ·obtain⟨x,hx⟩:∃x,d.ops[q]?=some x:=⟨d.ops[q]'(by have:=hon.out;omega),vE _⟩
          have hqo2:(q:Int)<on:=by omega
          have hok:=qkw hsame.out hcl.out hos.out (vM hx)
          have KF:=qku T _ d ns ps q x wr (hTab2.out wr hB13) hx hok
          rw[qkx hok] at KF
          have hm:(d.ops.map (opR ns d.classes))[q]?=some (opR ns d.classes x):=by rw[vY,hx];rfl
          replace hx:=vH hx
          replace hok:=vH hok
          cases hfb:yf ps (opR ns d.classes x) with
          |true=>
           have hF2:Hid (∀ (j:Nat) (o:OpR),j<q+1->(d.ops.map (opR ns d.classes))[j]?=some o->yf ps o=true):=vH fun j o hj ho=>by
            by_cases hjq:j<q
            ·exact hF.out j o hjq ho
            ·obtain rfl:j=q:=by omega
             rw[hm] at ho;cases ho;exact hfb
           rw[hfb] at KF
           clear hF hm hfb
           go_wp2_with (go_at_call 27;refine KF.mono ?_;clear KF;rintro e W14 ⟨rfl,hb14⟩)
           exact⟨⟨q+1,by omega,by go_num,hF2,hB12.trans (hb14.mono hB12.size)⟩,by simp[intOf];omega⟩
          |false=>
           have hf:=vH (fun W (hb:BX wr W)=>hfin.out W 11 (hAll.out W (hB13.trans (hb.mono hB13.size))) (by decide) (helev.out (by
            rw[vD]
            intro hc
            have:=(hroom.out.1 hc).1 q _ hm
            rw[hfb] at this;cases this)))
           rw[hfb] at KF
           clear hF hm hfb
           go_wp2_with (go_at_call 27;refine KF.mono ?_;clear KF;rintro e W14 ⟨rfl,hb14⟩)
           go_ret2
           exact hf.out _ hb14
         ·have hFa:Hid (∀ (j:Nat) (o:OpR),(d.ops.map (opR ns d.classes))[j]?=some o->yf ps o=true):=vH fun j o ho=>hF.out j o (by have h1:=(vS.1 ho).1;rw[vP] at h1;have:=hon.out;omega) ho
          have t10:=qb hB13 tc10
          obtain⟨w4,rfl⟩:∃w4:World,w4=wr:=⟨_,rfl⟩
          clear hF
          go_wp2_with fail
          go_loopw [16] (fun i W=>∃ (k:Nat),k<=cn/\i = .int .i64 k/\Hid (∀ (i j:Nat) (x y:List Int),i<k->i<=j->cls[i]?=some x->cls[j]?=some y->qP ps [x,y]=true)/\BX W7 W) (fun i _=>cn-(intOf i).toNat)
          case atStart=>exact⟨0,vO _,rfl,vH fun i j x y hi=>absurd hi (Nat.not_lt_zero _),hB12⟩
          case round=>
           obtain⟨p,hp,rfl,hP,hB15⟩:=hrel
           have p0:(0:Int)<=p:=vN _
           have hB16:BX W1 wr:=hB7.trans (hB15.mono hB7.size)
           have t10:=qb hB16 tc10
           by_cases hpc:p<cn
           ·obtain⟨x,hx⟩:∃x,cls[p]?=some x:=⟨cls[p]'(by have:=hcn.out;omega),vE _⟩
            have hpc2:(p:Int)<cn:=by omega
            replace hx:=vH hx
            obtain⟨w5,rfl⟩:∃w5:World,w5=wr:=⟨_,rfl⟩
            go_wp2_with fail
            go_loopw [17] (fun i W=>∃ (j:Nat),p<=j/\j<=cn/\i = .int .i64 j/\Hid (∀ (j':Nat) (y:List Int),p<=j'->j'<j->cls[j']?=some y->qP ps [x,y]=true)/\BX W7 W) (fun i _=>cn-(intOf i).toNat)
            case atStart=>exact⟨p,vL _,hp,rfl,vH fun j' y h1 h2=>absurd h1 (by omega),hB15⟩
            case round=>
             obtain⟨j,hpj,hj,rfl,hQ,hB17⟩:=hrel
             have j0:(0:Int)<=j:=vN _
             have hB18:BX W1 wr:=hB7.trans (hB17.mono hB7.size)
             have t10:=qb hB18 tc10
             by_cases hjc:j<cn
             ·obtain⟨y,hy⟩:∃y,cls[j]?=some y:=⟨cls[j]'(by have:=hcn.out;omega),vE _⟩
              have hjc2:(j:Int)<cn:=by omega
              have KP:=qks T _ d ns ps cls p j wr (hTab.out wr hB18) hnum.out
              rw[qjm hx.out hy] at KP
              replace hy:=vH hy
              cases htg:qP ps [x,y] with
              |true=>
               have hQ2:Hid (∀ (j':Nat) (y:List Int),p<=j'->j'<j+1->cls[j']?=some y->qP ps [x,y]=true):=vH fun j' y' h1 h2 h3=>by
                by_cases hjj:j'<j
                ·exact hQ.out j' y' h1 hjj h3
                ·obtain rfl:j'=j:=by omega
                 have:=hy.out
                 rw[this] at h3;cases h3;exact htg
               rw[htg] at KP
               clear hQ htg
               go_wp2_with (go_at_call 28;refine KP.mono ?_;clear KP;rintro e W19 ⟨rfl,hb19⟩)
               exact⟨⟨j+1,by omega,by omega,by go_num,hQ2,hB17.trans (hb19.mono hB17.size)⟩,by simp[intOf];omega⟩
              |false=>
               have hf:=vH (fun W (hb:BX wr W)=>hfin.out W 11 (hAll.out W (hB18.trans (hb.mono hB18.size))) (by decide) (helev.out (by
                rw[vD]
                intro hc
                have:=(hroom.out.1 hc).2 p j x y hpj hx.out hy.out
                rw[htg] at this;cases this)))
               rw[htg] at KP
               clear hQ htg
               go_wp2_with (go_at_call 28;refine KP.mono ?_;clear KP;rintro e W19 ⟨rfl,hb19⟩)
               go_ret2
               exact hf.out _ hb19
             ·have hP2:Hid (∀ (i j:Nat) (x y:List Int),i<p+1->i<=j->cls[i]?=some x->cls[j]?=some y->qP ps [x,y]=true):=vH fun i' j' x' y' h1 h2 h3 h4=>by
               by_cases hip:i'<p
               ·exact hP.out i' j' x' y' hip h2 h3 h4
               ·obtain rfl:i'=p:=by omega
                have:=hx.out
                rw[this] at h3;cases h3
                exact hQ.out j' y' h2 (by have:=(vS.1 h4).1;have:=hcn.out;omega) h4
              clear hP hQ
              go_wp2_with fail
              exact⟨⟨p+1,by omega,by go_num,hP2,hB17⟩,by simp[intOf];omega⟩
           ·have hf:=vH (hend.out wr hB16 (hzero.out (hroom.out.2 ⟨hFa.out,fun i j x y hij hx hy=>hP.out i j x y (by have:=(vS.1 hx).1;have:=hcn.out;omega) hij hx hy⟩)))
            clear hP hFa
            go_wp2_with fail
            go_ret2
            exact hf.out
 ·have hx:Hid (yu d L=xZ d L 4):=vH (qfM hbe)
  have KB2:Calls prog 20 #[.agg #[.string mn,.slice ra rn rc,.slice kl.a kl.n kl.c,.slice oa on oc,.slice aa an ac,.string rs,.slice sa sn sc,.int .i64 sl],.int .i64 4] W0 fun e w'=>e = .returned (.tuple #[.pointer none,.int .i64 (xZ d L 4)])/\BX W0 w':=KB.mono fun e w' ⟨h1,_,h3⟩=>⟨h3 hbe,h1⟩
  have hf:Hid (∀W,BX W0 W->qcn w ⟨mn,⟨ra,rn,rc⟩,kl,⟨oa,on,oc⟩,⟨aa,an,ac⟩,rs,⟨sa,sn,sc⟩,sl⟩ d L (.returned (.tuple #[.pointer none,.int .i64 (xZ d L 4)])) W):=vH fun W hW=>hfin W _ (hb0.trans (hW.mono hb0.size)) hbe hx.out
  have hx1:(xZ d L 4 != 0)=true:=by simpa using hbe
  generalize xZ d L 4=bx at *
  replace hfin:=vH hfin
  replace hW0:=vH hW0
  clear KB hbe hI hR hn
  go_enter func6,ntmps6
  go_upto_region 1 with fail
  rw[←hW0.out]
  go_wp2_with (go_at_call 20;refine KB2.mono ?_;clear KB2;rintro e W1 ⟨rfl,hb1⟩)
  go_ret2
  exact hf.out _ hb1
end Go.Proofs.YtomlgdnafeeeiaaGreatDoor
