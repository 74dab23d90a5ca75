
import Derived.Test.YtomlgdnafeeeiaaGreatDoorTcEP
set_option maxHeartbeats 16000000
set_option maxRecDepth 100000
/-
 table's takeOps and takeConvention.
-/
namespace Go.Proofs.YtomlgdnafeeeiaaGreatDoor
open Proofs.Tryz
open Go.RowKit
theorem But.stays{C:Nat}{w W:World}{t:TypeId}{cs:Array Value}(h:But C w W)(hC:qd w C t cs):qt [t] w W:=
 ⟨h.size,fun b t' cs' ht hc=>(h.block b hc.lt (fun e=>by
  subst e
  have h2:=Option.some.inj ((show w.heap[b]?=_ from hc).symm.trans (show w.heap[b]?=_ from hC))
  injection h2 with _ h3 _
  exact ht (by rw[h3];simp))).trans hc⟩
theorem jg.but{base C:Nat}{W W':World}{cS:SlV}{cM:Option Nat}{ns:List ByteArray}{ps:List Plc}{ks:List qp}{cl:List zZ}{cs:Array Value}(h:jg base W cS cM ns ps ks cl)(hC:qd W C 85 cs)(hb:But C W W'):jg base W' cS cM ns ps ks cl:=by
 have hs:=hb.stays hC
 exact⟨hs.row h.row (by decide),h.map.but hC hb,h.len,fun i x k hx hk=>by obtain⟨h1,h2,h3⟩:=h.each i x k hx hk;exact⟨hs.row h1 (by decide),hs.set h2 (by decide),h3⟩⟩
theorem jg.at_{base:Nat}{W:World}{cS:SlV}{cM:Option Nat}{ns:List ByteArray}{ps:List Plc}{ks:List qp}{cl:List zZ}(h:jg base W cS cM ns ps ks cl):Qn W cS cl:=Qn.of_row h.row
def ZX(ns:List ByteArray)(ks:List qp):List (Nat->Bool):=ks.map fun k=>ofP (xy ns k.regs)
theorem jg.sets{base:Nat}{W:World}{cS:SlV}{cM:Option Nat}{ns:List ByteArray}{ps:List Plc}{ks:List qp}{cl:List zZ}(h:jg base W cS cM ns ps ks cl)(a:Nat):zh W (cl.getD a zZ.none).set ((ZX ns ks).getD a (fun _=>false)):=by
 unfold ZX
 rw[vG,vG,vY]
 cases hk:ks[a]? with
 |none=>
  have:cl[a]?=none:=by rw[List.getElem?_eq_none_iff,h.len];exact List.getElem?_eq_none_iff.1 hk
  rw[this]
  exact zh.none W
 |some k=>
  obtain⟨x,hx⟩:∃x,cl[a]?=some x:=⟨cl[a]'(by rw[h.len];exact(vS.1 hk).1),vE _⟩
  rw[hx]
  exact(h.each a x k hx hk).2.1
def QY(ps:List Plc)(a:Int)(n:Nat):Bool:=decide (0<=a)&&decide (a<ps.length)&&yE ps (plc ps a) n
theorem xF.laps{base C:Nat}{W:World}{tb:TB}{ns:List ByteArray}{ps:List Plc}{rl:List qY}(h:xF base C W tb ns ps rl)(hl:∀x,x∈rl->zh W x.laps (yE ps x.plc))(a:Int):zh W (zJ rl a).laps (QY ps a):=by
 have hlen:ps.length=rl.length:=by rw[←h.places,vP]
 by_cases h0:0<=a
 ·have hp:=ZU h.places h0
  unfold zJ at hp ⊢
  rw[if_pos h0] at hp ⊢
  by_cases h1:a<ps.length
  ·have hlt:a.toNat<rl.length:=by omega
   have hg:rl.getD a.toNat qY.none=rl[a.toNat]:=by rw[vG,vE hlt];rfl
   rw[hg] at hp ⊢
   have h2:=hl _ (List.getElem_mem hlt)
   rw[hp] at h2
   have e:QY ps a=yE ps (plc ps a):=by funext n;unfold QY;rw[vT h0,vT h1];rfl
   rw[e]
   exact h2
  ·have hg:rl.getD a.toNat qY.none=qY.none:=by rw[vG,List.getElem?_eq_none (by omega)];rfl
   rw[hg]
   have e:QY ps a=fun _=>false:=by funext n;unfold QY;rw[vF h1];simp
   rw[e]
   exact zh.none W
 ·unfold zJ
  rw[if_neg h0]
  have e:QY ps a=fun _=>false:=by funext n;unfold QY;rw[vF h0];simp
  rw[e]
  exact zh.none W
def qgN(ns:List ByteArray)(ps:List Plc)(ks:List qp)(o:OpD):List (Nat->Bool):=
 (fun n=>yQ ns (ks.map (·.name)) (ZX ns ks) o.d n && !((xy ns o.clob).any fun a=>QY ps a n))::o.uses.map (yQ ns (ks.map (·.name)) (ZX ns ks))
def QI(base:Nat)(W:World)(s:SlV)(l:List (Nat->Bool)):Prop:=
 ∃ms:List SlV,W.ownsRow base 83 1 s.v l.length (ms.map SlV.v)/\ms.length=l.length/\∀ (i:Nat) x p,ms[i]?=some x->l[i]?=some p->zh W x p
theorem QI.stays{ts:List TypeId}{base:Nat}{W W':World}{s:SlV}{l:List (Nat->Bool)}(h:QI base W s l)(hs:qt ts W W')(h1:83∉ts)(h2:137∉ts):QI base W' s l:=by
 obtain⟨ms,a,b,c⟩:=h
 exact⟨ms,hs.row a h1,b,fun i x p hx hp=>hs.set (c i x p hx hp) h2⟩
theorem QI.below{base:Nat}{W W':World}{s:SlV}{l:List (Nat->Bool)}(h:QI base W s l)(hb:BX W W'):QI base W' s l:=h.stays (ts:=[]) (qt.of_below hb) (by simp) (by simp)
structure yy(base:Nat)(W:World)(oS:SlV)(oM:Option Nat)(ns:List ByteArray)(ps:List Plc)(ks:List qp)(os:List OpD)(ol:List OpT):Prop where
 row:W.ownsRow base 133 3 oS.v ol.length (ol.flatMap fun x=>x.v.toList)
 map:xI base W oM (os.map (·.name))
 len:ol.length=os.length
 each:∀ (i:Nat) x o,ol[i]?=some x->os[i]?=some o->QI 0 W x.may (qgN ns ps ks o)/\x.tie=o.tie/\qN W x.clob (xy ns o.clob)
theorem yy.below{base:Nat}{W W':World}{oS:SlV}{oM:Option Nat}{ns:List ByteArray}{ps:List Plc}{ks:List qp}{os:List OpD}{ol:List OpT}(h:yy base W oS oM ns ps ks os ol)(hb:BX W W'):yy base W' oS oM ns ps ks os ol:=
 ⟨qe h.row hb,h.map.below hb,h.len,fun i x k hx hk=>by obtain⟨h1,h2,h3⟩:=h.each i x k hx hk;exact⟨h1.below hb,h2,h3.below hb⟩⟩
def XB(C:Nat)(tb:TB)(ns:List ByteArray)(ps:List Plc)(ks:List qp)(os:List OpD)(w:World)(e:Ending)(w':World):Prop:=
 e = .returned (.tuple #[])/\But C w w'/\∃ (oS:SlV) (oM:Option Nat) (ol:List OpT),qd w' C 85 { tb with oS:=oS,oM:=oM }.cells/\yy w.heap.size w' oS oM ns ps ks os ol
theorem qjF:(prog.info? 83).map (fun i=>(i.zero,i.size,i.bytes))=some (some (.agg #[.slice none 0 0]),1,24):=by kernel_rfl
def qlU(o:OpD):Prop:=o.name.size<=281474976710656/\o.d.cls.size<=281474976710656/\o.d.fix.size<=281474976710656/\o.uses.length<=1000/\(∀u,u∈o.uses->u.cls.size<=281474976710656/\u.fix.size<=281474976710656)/\o.clob.length<=1000/\∀s,s∈o.clob->s.size<=281474976710656
theorem qfZ(C base base2:Nat)(m:MV)(rS:SlV)(rM:Option Nat)(cS:SlV)(cM:Option Nat)(ag:SlV)(rs:Int)(sv sr:SlV)(ns:List ByteArray)(ps:List Plc)(rl:List qY)(ks:List qp)(cl:List zZ)(os:List OpD)(w:World)
 (hC:qd w C 85 (TB.mk m rS rM cS cM ⟨none,0,0⟩ none ag rs sv sr).cells) (hR:xF base C w (TB.mk m rS rM cS cM ⟨none,0,0⟩ none ag rs sv sr) ns ps rl) (hlap:∀x,x∈rl->zh w x.laps (yE ps x.plc))
 (hK:jg base2 w cS cM ns ps ks cl) (hO:∀W,But C w W->jP W m.ops os) (hlen:os.length<=1000) (hnd:(os.map (·.name)).Nodup) (hfit:∀o,o∈os->qlU o) :
 Calls prog 34 #[.pointer (some ⟨C,0,none⟩)] w (XB C (TB.mk m rS rM cS cM ⟨none,0,0⟩ none ag rs sv sr) ns ps ks os w):=by
 obtain⟨mn,mrg,mkl,⟨oa,on,oc⟩,mar,mrs,msv,msl⟩:=m
 have hon:=(hO w (qF.refl _ _ _)).1
 have hocc:=(hO w (qF.refl _ _ _)).2.1
 dsimp only at hon hocc
 subst hon
 have c3:=hC.cell (j:=3) (v:=.slice oa os.length oc) rfl
 have hwl:=hC.lt
 have hC0:=vH hC
 replace hO:=vH hO
 replace hnd:=vH hnd
 replace hfit:=vH hfit
 have hR0:=vH hR
 have hK0:=vH hK
 have hlap0:=vH hlap
 clear hR hK hlap
 go_enter func34,ntmps34
 go_wp2_with fail
 go_loopw [14] (fun i wr=>∃ (k:Nat) (oS:SlV) (oM:Option Nat) (ol:List OpT),k<=os.length/\i = .int .i64 k/\qd wr C 85 (TB.mk ⟨mn,mrg,mkl,⟨oa,os.length,oc⟩,mar,mrs,msv,msl⟩ rS rM cS cM oS oM ag rs sv sr).cells/\qF w.heap.size C w wr/\Hid (yy w.heap.size wr oS oM ns ps ks (os.take k) ol)) (fun i _=>os.length-(intOf i).toNat)
 case atStart=>exact⟨0,⟨none,0,0⟩,none,[],vO _,rfl,hC,qF.refl _ _ _,vH ⟨by simpa[SlV.v] using kO _ _ _ _,.inl ⟨rfl,rfl⟩,rfl,fun i x k hx _=>by simp at hx⟩⟩
 case round=>
  clear hC c3
  obtain⟨k,oS,oM,ol,hk,rfl,hCr,hBr,hI⟩:=hrel
  have k0:(0:Int)<=k:=vN _
  by_cases hlt:k<os.length
  ·obtain⟨x,hxk⟩:∃x,os[k]?=some x:=⟨os[k],vE hlt⟩
   have hmem:=vM hxk
   obtain⟨f1,f2,f3,f4,f5,f6,f7⟩:=hfit.out x hmem
   obtain⟨b,o,e0,⟨ua,un,uc⟩,⟨qa,qn,qc⟩,q0,q1,q2,q3,q4,q5,hus,hcs⟩:=(hO.out wr hBr).2.2 k x hxk
   dsimp only at e0 q3 q5
   subst e0
   have hi:IntKind.i64.wrap ((k:Int)+1)=k+1:=vI _ (by omega)
   have k1:(k:Int)<os.length:=by omega
   have hBs:=hBr.size
   have hst0:qt [85] w wr:=But.stays hBr hC0.out
   have htk:Hid (os.take (k+1)=os.take k++[x]):=vH (by rw[vX,hxk];rfl)
   have hno:x.name∉(os.take k).map (·.name):=by
    have h1:=hnd.out
    rw[←List.take_append_drop (k+1) os,kM,htk.out,kM] at h1
    have h2:=(List.nodup_append.1 h1).1
    have h3:=List.nodup_append.1 h2
    intro hm
    exact h3.2.2 _ hm _ (List.mem_singleton.2 rfl) rfl
   have hRr:xF base C wr (TB.mk ⟨mn,mrg,mkl,⟨some ⟨b,o,none⟩,os.length,oc⟩,mar,mrs,msv,msl⟩ rS rM cS cM ⟨none,0,0⟩ none ag rs sv sr) ns ps rl:=hR0.out.but hC0.out hBr
   have hKr:jg base2 wr cS cM ns ps ks cl:=hK0.out.but hC0.out hBr
   have hLr:∀y,y∈rl->zh wr y.laps (yE ps y.plc):=fun y hy=>hst0.set (hlap0.out y hy) (by decide)
   have holl:ol.length=k:=by rw[hI.out.len,List.length_take];omega
   obtain⟨tb,htb⟩:∃tb,tb=TB.mk ⟨mn,mrg,mkl,⟨some ⟨b,o,none⟩,os.length,oc⟩,mar,mrs,msv,msl⟩ rS rM cS cM oS oM ag rs sv sr:=⟨_,rfl⟩
   have tbr:tb.rS=rS/\tb.rM=rM/\tb.cS=cS/\tb.cM=cM:=by rw[htb];exact⟨rfl,rfl,rfl,rfl⟩
   have Kn:∀W,BX wr W->Calls prog 79 #[.pointer (some ⟨C,0,none⟩),.slice qa qn qc] W fun e w'=>∃s':SlV,e = .returned (.slice s'.a s'.n s'.c)/\BX W w'/\w'.ownsRow W.heap.size 3 1 s'.v x.clob.length ((xy ns x.clob).map (Value.int .i64)):=fun W hb=>
    ZS C base _ ns ⟨qa,qn,qc⟩ x.clob W (hCr.below hb hCr.lt) (hRr.map.below hb) (hcs.below hb) (by omega) f7
   have Kc:∀W (u:zL),BX wr W->u.cls.size<=281474976710656->u.fix.size<=281474976710656->Calls prog 82 #[.pointer (some ⟨C,0,none⟩),.agg #[.string u.cls,.string u.fix]] W (xj (yQ ns (ks.map (·.name)) (ZX ns ks) u) W):=fun W u hb h1 h2=>
    qhT C (min base base2) _ ns (ks.map (·.name)) cl (ZX ns ks) u W (hCr.below hb hCr.lt) ((hRr.map.below hb).mono (Nat.min_le_left _ _)) ((hKr.map.below hb).mono (Nat.min_le_right _ _)) (hKr.below hb).at_ (fun a _=>(hKr.below hb).sets a.toNat) h1 h2
   have Kl:∀W s,BX wr W->qJ W s (xy ns x.clob)->Calls prog 84 #[.pointer (some ⟨C,0,none⟩),.slice s.a s.n s.c] W (xj (fun n=>(xy ns x.clob).any fun a=>QY ps a n) W):=fun W s hb hs=>
    qfY C _ rl (QY ps) s (xy ns x.clob) W (hCr.below hb hCr.lt) (hRr.below hb).at_ hs (by unfold xy;rw[vP];omega) (fun a _=>(hRr.below hb).laps (fun y hy=>(hLr y hy).below hb) a)
   have Ka:∀W s t kk,BX wr W->Calls prog 85 #[.pointer (some ⟨C,12,none⟩),.string x.name,.agg (OpT.mk s t kk).v] W
    (xV 133 3 w.heap.size C (fun s M=>TB.mk ⟨mn,mrg,mkl,⟨some ⟨b,o,none⟩,os.length,oc⟩,mar,mrs,msv,msl⟩ rS rM cS cM s M ag rs sv sr) k (ol.flatMap (fun x=>x.v.toList)++(OpT.mk s t kk).v.toList) ((os.take k).map (·.name)++[x.name]) W):=fun W s t kk hb=>
    qhM w.heap.size C (TB.mk ⟨mn,mrg,mkl,⟨some ⟨b,o,none⟩,os.length,oc⟩,mar,mrs,msv,msl⟩ rS rM cS cM oS oM ag rs sv sr) k _ _ x.name (OpT.mk s t kk) W (hCr.below hb hCr.lt) (vR hBs hb.size) (by rw[←holl];exact qe hI.out.row hb) (by rw[vP,List.length_take];omega) (by omega) (hI.out.map.below hb) hno f1
   have hend:∀W W' s kk e,BX wr W->QI 0 W s (qgN ns ps ks x)->qN W kk (xy ns x.clob) ->
    xV 133 3 w.heap.size C (fun s M=>TB.mk ⟨mn,mrg,mkl,⟨some ⟨b,o,none⟩,os.length,oc⟩,mar,mrs,msv,msl⟩ rS rM cS cM s M ag rs sv sr) k (ol.flatMap (fun x=>x.v.toList)++(OpT.mk s x.tie kk).v.toList) ((os.take k).map (·.name)++[x.name]) W e W' ->
    e = .returned (.tuple #[])/\∃ (oS:SlV) (oM:Option Nat) (ol:List OpT),qd W' C 85 (TB.mk ⟨mn,mrg,mkl,⟨some ⟨b,o,none⟩,os.length,oc⟩,mar,mrs,msv,msl⟩ rS rM cS cM oS oM ag rs sv sr).cells/\qF w.heap.size C w W'/\yy w.heap.size W' oS oM ns ps ks (os.take (k+1)) ol:=fun W W' s kk e hb h1 h2 ⟨he,a1,a2,s2,M2,a3,a4,a5⟩=>by
    have hI2:=hI.out.below hb
    refine⟨he,s2,M2,ol++[OpT.mk s x.tie kk],a3,(hBr.step hb (vL _)).trans a1,⟨?_,?_,?_,?_⟩⟩
    ·rw[kA,List.length_singleton,holl,List.flatMap_append]
     simpa using a4
    ·rw[htk.out,kM];exact a5
    ·rw[htk.out,kA,kA,hI2.len];rfl
    ·intro i y z hy hz
     rw[htk.out] at hz
     by_cases hik:i<k
     ·rw[List.getElem?_append_left (by rw[holl];exact hik)] at hy
      rw[List.getElem?_append_left (by rw[List.length_take];omega)] at hz
      obtain⟨g1,g2,g3⟩:=hI2.each i y z hy hz
      exact⟨g1.stays a2 (by decide) (by decide),g2,a2.row g3 (by decide)⟩
     ·have hyl:=(vS.1 hy).1
      rw[kA,List.length_singleton,holl] at hyl
      have hik2:i=k:=by omega
      subst hik2
      rw[kR (by rw[holl];exact vL _),holl,Nat.sub_self] at hy
      rw[kR (by rw[List.length_take];omega),List.length_take,Nat.min_eq_left (by omega),Nat.sub_self] at hz
      cases hy
      cases hz
      exact⟨h1.stays a2 (by decide) (by decide),rfl,a2.row h2 (by decide)⟩
   have hmay:Hid (qgN ns ps ks x=(fun n=>yQ ns (ks.map (·.name)) (ZX ns ks) x.d n && !((xy ns x.clob).any fun a=>QY ps a n))::x.uses.map (yQ ns (ks.map (·.name)) (ZX ns ks))):=vH rfl
   have hcl0:∃n:Nat,n=x.clob.length/\n<=1000:=⟨_,rfl,f6⟩
   obtain⟨nn,hnn,hn1⟩:=hcl0
   have hnl:Hid ((xy ns x.clob).length=nn):=vH (by unfold xy;rw[vP,hnn])
   rw[←hnn] at Kn
   simp only[OpT.v] at Ka hend
   replace Kn:=vH Kn
   replace Kc:=vH Kc
   replace Kl:=vH Kl
   replace Ka:=vH Ka
   replace hend:=vH hend
   replace hus:=vH hus
   replace f5:=vH f5
   have hun:=hus.out.1
   dsimp only at hun
   subst hun
   have Kd:=vH fun W (hb:BX wr W)=>Kc.out W x.d hb f2 f3
   generalize xy ns x.clob=V at *
   generalize hM:qgN ns ps ks x=MM at *
   generalize hCP:yQ ns (ks.map (·.name)) (ZX ns ks)=CP at *
   obtain⟨xn,⟨dc,df⟩,us,xt,xk⟩:=x
   dsimp only at *
   have hcb:=qd.new wr 47 #[.string xn,.string dc,.string df,.slice ua us.length uc,.int .i64 xt,.slice qa qn qc]
   replace hcb:=vH hcb
   have hbx:BX wr (wr.alloc (.cells #[.string xn,.string dc,.string df,.slice ua us.length uc,.int .i64 xt,.slice qa qn qc] 47)):=qi
   have hcp:Hid (∀ (j:Nat) u,us[j]?=some u->MM[j+1]?=some (CP u)):=vH fun j u hj=>by rw[hmay.out,List.getElem?_cons_succ,vY,hj];rfl
   have hml:Hid (MM.length=us.length+1):=vH (by rw[hmay.out,List.length_cons,vP])
   have hm0:Hid (MM[0]?=some (fun n=>CP ⟨dc,df⟩ n && !(V.any fun a=>QY ps a n))):=vH (by rw[hmay.out];rfl)
   clear hxk hmem f1 f2 f3 f6 f7 hcs hno hRr hKr hLr holl hI hCr hnn hM hCP hmay tbr htb hst0
   have hP:∀W,Below (wr.alloc (.cells #[.string xn,.string dc,.string df,.slice ua us.length uc,.int .i64 xt,.slice qa qn qc] 47)).heap.size (wr.alloc (.cells #[.string xn,.string dc,.string df,.slice ua us.length uc,.int .i64 xt,.slice qa qn qc] 47)) W->W.cell? ⟨wr.heap.size,0,none⟩=some (.string xn)/\W.cell? ⟨wr.heap.size,1,none⟩=some (.string dc)/\W.cell? ⟨wr.heap.size,2,none⟩=some (.string df)/\W.cell? ⟨wr.heap.size,3,none⟩=some (.slice ua us.length uc)/\W.cell? ⟨wr.heap.size,4,none⟩=some (.int .i64 xt)/\W.cell? ⟨wr.heap.size,5,none⟩=some (.slice qa qn qc):=fun W hb=>by
    have a:=hcb.out.below hb hcb.out.lt
    exact⟨a.cell rfl,a.cell rfl,a.cell rfl,a.cell rfl,a.cell rfl,a.cell rfl⟩
   replace hP:=vH hP
   have KS:=fun W s t h1 h2=>qlN s t (CP ⟨dc,df⟩) (fun n=>V.any fun a=>QY ps a n) W h1 h2
   have hQQ:∃QQ,QQ=fun n=>CP ⟨dc,df⟩ n && !(V.any fun a=>QY ps a n):=⟨_,rfl⟩
   obtain⟨QQ,hQQ⟩:=hQQ
   rw[←hQQ] at KS hm0
   replace KS:=vH KS
   clear hQQ
   go_wp2_with (first
    |(go_at_call 79;refine(Kn.out _ hbx).mono ?_;rintro e W2 ⟨⟨sa,sn,sc⟩,rfl,hb2,hrow⟩;have hA2:=hbx.trans (hb2.mono hbx.size);have hIR:Hid (qN W2 ⟨sa,sn,sc⟩ V):=vH (by(unfold qN;rw[hnl.out];exact qm hrow (vO _)));clear hrow;obtain⟨r0,r1,r2,r3,r4,r5⟩:=hP.out _ hb2)
    |(go_at_call 82;refine(Kd.out _ hA2).mono ?_;rintro e W3 ⟨hb3,⟨da,dn,dcc⟩,rfl,hs3⟩;have hA3:=hA2.trans (hb3.mono hA2.size);replace hs3:=vH hs3)
    |(go_at_call 84;refine(Kl.out _ ⟨sa,sn,sc⟩ hA3 (hIR.out.below hb3).at_).mono ?_;rintro e W4 ⟨hb4,⟨la,ln,lc⟩,rfl,hs4⟩;have hA4:=hA3.trans (hb4.mono hA3.size);replace hs4:=vH hs4)
    |(go_at_call 83;refine(KS.out _ ⟨da,dn,dcc⟩ ⟨la,ln,lc⟩ (hs3.out.below hb4) hs4.out).mono ?_;rintro e W5 ⟨hb5,⟨za,zn,zc⟩,rfl,hs5⟩;have hA5:=hA4.trans (hb5.mono hA4.size);replace hs5:=vH hs5;have hB25:=hb3.trans ((hb4.mono hb3.size).trans (hb5.mono (vR hb3.size hb4.size)));obtain⟨v0,v1,v2,v3,v4,v5⟩:=hP.out _ (hb2.trans (hB25.mono hb2.size));have v3a:=fun o=>qk o v3))
   have hbm:BX W5 (W5.alloc (.cells #[.slice za zn zc] 83)):=qi
   have hrow5:(W5.alloc (.cells #[.slice za zn zc] 83)).ownsRow W5.heap.size 83 1 (.slice (some ⟨W5.heap.size,0,none⟩) 1 1) 1 [.slice za zn zc]:=
    QW (n:=1) (size:=1) (qd.new W5 83 #[.slice za zn zc]) (vL _) rfl (by unfold maxLen;omega)
   have hin0:QI W5.heap.size (W5.alloc (.cells #[.slice za zn zc] 83)) ⟨some ⟨W5.heap.size,0,none⟩,1,1⟩ (MM.take 1):=by
    refine⟨[⟨za,zn,zc⟩],?_,?_,fun i y p hy hp=>?_⟩
    ·rw[List.length_take,hml.out,Nat.min_eq_left (by omega)];exact hrow5
    ·rw[List.length_take,hml.out,Nat.min_eq_left (by omega)];rfl
    ·have hi0:i=0:=by have:=(vS.1 hy).1;simp at this;omega
     subst hi0
     rw[List.getElem?_take,if_pos (by omega),hm0.out] at hp
     cases hy
     cases hp
     exact hs5.out.below hbm
   have hV5:Hid (∀W,BX W5 W->W.cell? ⟨wr.heap.size,0,none⟩=some (.string xn)/\W.cell? ⟨wr.heap.size,4,none⟩=some (.int .i64 xt)):=vH fun W hb=>⟨qb hb v0,qb hb v4⟩
   have hIR5:Hid (qN W5 ⟨sa,sn,sc⟩ V):=vH (hIR.out.below hB25)
   have hA5s:=hA5.size
   clear r0 r1 r2 r3 r4 r5 v0 v1 v2 v3 v4 v5 v3a hs3 hs4 hs5 hb2 hb3 hb4 hb5 hA2 hA3 hA4 hB25 hIR hP hcb hbx Kn Kl Kd KS hrow5 q0 q1 q2 q3 q4 q5
   generalize wr=w1 at *
   go_loopw [5,34] (fun may i wr=>∃ (j:Nat) (a:Option Addr) (c:Nat),j<=us.length/\i = .int .i64 j/\may = .slice a (j+1) c/\BX W5 wr/\QI W5.heap.size wr ⟨a,j+1,c⟩ (MM.take (j+1))) (fun _ i _=>us.length-(intOf i).toNat)
   case atStart=>exact⟨0,_,1,vO _,rfl,rfl,hbm,hin0⟩
   case round=>
    clear hbm hin0
    obtain⟨j,a,c,hj,rfl,rfl,hB,hin⟩:=hrel
    have j0:(0:Int)<=j:=vN _
    have hBs5:=hB.size
    by_cases hlt2:j<us.length
    ·obtain⟨⟨uc0,uf0⟩,hu⟩:∃u,us[j]?=some u:=⟨us[j],vE hlt2⟩
     obtain⟨ub,uo,e1,p0,p1⟩:=hus.out.2.2 j _ hu
     dsimp only at e1 p0 p1
     subst e1
     obtain⟨g1,g2⟩:=f5.out _ (vM hu)
     have hAr:=hA5.trans (hB.mono hA5s)
     replace p0:=qb hAr p0
     replace p1:=qb hAr p1
     have hi2:IntKind.i64.wrap ((j:Int)+1)=j+1:=vI _ (by omega)
     have j1:(j:Int)<us.length:=by omega
     have hbx:BX wr (wr.alloc (.cells #[.string uc0,.string uf0] 44)):=qi
     have K:=Kc.out _ ⟨uc0,uf0⟩ (hAr.trans (hbx.mono hAr.size)) g1 g2
     have hmj:=vH (hcp.out j _ hu)
     have hul:us.length<=1000:=f4
     generalize CP ⟨uc0,uf0⟩=Q at *
     dsimp only at K
     replace hin:=vH hin
     obtain⟨i0,hi0,hz0,hz1,hz2⟩:=info_parts qjF
     clear hu g1 g2
     go_wp2_with (first
      |(go_at_call 82;refine K.mono ?_;clear K;rintro e W6 ⟨hb6,⟨ya,yn,yc⟩,rfl,hs6⟩;have hb61:=hbx.trans (hb6.mono hbx.size);obtain⟨ms,hrow6,hms,hmp⟩:=hin.out.below hb61;rw[List.length_take,hml.out,Nat.min_eq_left (by omega)] at hrow6 hms;have hb6s:=hb61.size;replace hs6:=vH hs6;replace hmp:=vH hmp;replace hms:=vH hms)
      |(at_builtin;go_loud (refine wpList_append_own_at _ rfl _ _ 130 rfl W5.heap.size 83 i0 _ 1 24 underlying130 hi0 hz0 hz1 hz2 rfl (by decide) _ (j+1) _ rfl (hrow6.alloc _) ⟨W6.heap.size,0,none⟩ 1 1 [.slice ya yn yc] rfl rfl (zo _ _ _ _ rfl) (by simp[Value.oneCell']) (by unfold maxLen;omega) (by omega) (by simp;omega) ?_;intro v' W7 hown7 hgrow _ hblk;obtain⟨g',cap',rfl⟩:=ownsRow_succ hown7)))
     have hgr:=qE hgrow
     have hB7:BX W5 W7:=(hB.trans (hb61.mono hBs5)).grown hgr (by omega) (fun i e=>(qf hrow6 e).1)
     have hst7:qt [83] W6 W7:=qt.of_grown hrow6 (by simp) hgr
     have hlast:MM.take (j+1+1)=MM.take (j+1)++[Q]:=by rw[vX (i:=j+1),hmj.out];rfl
     refine⟨⟨j+1,_,_,by omega,by go_num,rfl,hB7,ms++[⟨ya,yn,yc⟩],?_,?_,?_⟩,by simp[intOf];omega⟩
     ·rw[List.length_take,hml.out,Nat.min_eq_left (by omega),kM];exact hown7
     ·rw[List.length_take,hml.out,Nat.min_eq_left (by omega),kA,hms.out];rfl
     ·intro i y p hy hp
      rw[hlast] at hp
      by_cases hij:i<j+1
      ·rw[List.getElem?_append_left (by rw[hms.out];exact hij)] at hy
       rw[List.getElem?_append_left (by rw[List.length_take,hml.out];omega)] at hp
       exact hst7.set (hmp.out i y p hy hp) (by decide)
      ·have hyl:=(vS.1 hy).1
       rw[kA,List.length_singleton,hms.out] at hyl
       have hij2:i=j+1:=by omega
       subst hij2
       rw[kR (by rw[hms.out];exact vL _),hms.out,Nat.sub_self] at hy
       rw[kR (by rw[List.length_take,hml.out];omega),List.length_take,hml.out,Nat.min_eq_left (by omega),Nat.sub_self] at hp
       cases hy
       cases hp
       exact hst7.set hs6.out (by decide)
    ·obtain rfl:j=us.length:=by omega
     rw[List.take_of_length_le (by rw[hml.out];exact vL _)] at hin
     obtain⟨v0,v4⟩:=hV5.out wr hB
     have hAr:=hA5.trans (hB.mono hA5s)
     have hin':Hid (QI 0 wr ⟨a,us.length+1,c⟩ MM):=vH (by obtain⟨ms,h1,h2,h3⟩:=hin;exact⟨ms,qm h1 (vO _),h2,h3⟩)
     have hIRr:=vH (hIR5.out.below hB)
     clear hin hcp hml hm0 hus
     go_wp2_with fail
     go_still_tail 10,(by kernel_rfl)
     change wpList _ _ _ _ _ wr.drew
     go_wp2_with (go_at_call 85;refine(Ka.out _ ⟨a,us.length+1,c⟩ xt ⟨sa,sn,sc⟩ hAr.drew).mono ?_;intro e W8 hap;obtain⟨rfl,hap2⟩:=hend.out _ _ ⟨a,us.length+1,c⟩ ⟨sa,sn,sc⟩ _ hAr.drew hin'.out hIRr.out hap;clear hap;replace hap2:=vH hap2)
     obtain⟨oS',oM',ol',b1,b2,b3⟩:=hap2.out
     exact⟨⟨k+1,oS',oM',ol',by omega,by go_num,b1,b2,vH b3⟩,by simp[intOf];omega⟩
  ·obtain rfl:k=os.length:=by omega
   rw[List.take_length] at hI
   have hfin:Hid (XB C (TB.mk ⟨mn,mrg,mkl,⟨oa,os.length,oc⟩,mar,mrs,msv,msl⟩ rS rM cS cM ⟨none,0,0⟩ none ag rs sv sr) ns ps ks os w (.returned (.tuple #[])) wr):=vH ⟨rfl,hBr,oS,oM,ol,hCr,hI.out⟩
   clear hCr hBr hI
   go_wp2_with fail
   go_end0
   exact hfin.out
def xM(p q:Plc):Bool:=decide (p.1=q.1)&&(decide (q.2.1<=p.2.1)&&decide (p.2.1+p.2.2<=q.2.1+q.2.2))
theorem qga(p q:Plc)(w:World)(hp:xT p)(hq:xT q) :
 Calls prog 87 #[.agg #[.int .i64 p.1,.int .i64 p.2.1,.int .i64 p.2.2],.agg #[.int .i64 q.1,.int .i64 q.2.1,.int .i64 q.2.2]] w fun e w'=>e = .returned (.bool (xM p q))/\BX w w':=by
 obtain⟨p1,p2,p3⟩:=p
 obtain⟨q1,q2,q3⟩:=q
 obtain⟨a1,a2,a3,a4⟩:=hp
 obtain⟨b1,b2,b3,b4⟩:=hq
 dsimp only at a1 a2 a3 a4 b1 b2 b3 b4 ⊢
 have hB0:BX w ((w.alloc (.cells #[.int .i64 p1,.int .i64 p2,.int .i64 p3] 87)).alloc (.cells #[.int .i64 q1,.int .i64 q2,.int .i64 q3] 87)):=qi.alloc (by simp) _
 by_cases h:p1=q1
 ·subst h
  have K:=fun W=>Zy p1 q2 q3 p2 W b1 b2 (by omega) b4 a1 a2
  have hv:Hid (xM (p1,p2,p3) (p1,q2,q3)=decide (p3<=YZ q2 q3 p2)):=vH (by
   unfold xM YZ
   rw[Bool.eq_iff_iff]
   simp only[Bool.and_eq_true,decide_eq_true_eq,decide_true,true_and]
   split <;> omega)
  have hw3:IntKind.u64.wrap p3=p3:=by rw[IntKind.wrap_u64];omega
  have hlt:decide (p3<1)=false:=vF (by omega)
  generalize YZ q2 q3 p2=B at *
  obtain⟨w0,hw0⟩:∃w0,w0=(w.alloc (.cells #[.int .i64 p1,.int .i64 p2,.int .i64 p3] 87)).alloc (.cells #[.int .i64 p1,.int .i64 q2,.int .i64 q3] 87):=⟨_,rfl⟩
  have h1:qd w0 w.heap.size 87 #[.int .i64 p1,.int .i64 p2,.int .i64 p3]:=by rw[hw0];exact(qd.new w _ _).alloc _
  have h2:qd w0 (w.heap.size+1) 87 #[.int .i64 p1,.int .i64 q2,.int .i64 q3]:=by
   have:=qd.new (w.alloc (.cells #[.int .i64 p1,.int .i64 p2,.int .i64 p3] 87)) 87 #[.int .i64 p1,.int .i64 q2,.int .i64 q3]
   rw[hw0];simpa using this
  have hread:∀W,BX w0 W->W.cell? ⟨w.heap.size,0,none⟩=some (.int .i64 p1)/\W.cell? ⟨w.heap.size,1,none⟩=some (.int .i64 p2)/\W.cell? ⟨w.heap.size,2,none⟩=some (.int .i64 p3)/\W.cell? ⟨w.heap.size+1,0,none⟩=some (.int .i64 p1)/\W.cell? ⟨w.heap.size+1,1,none⟩=some (.int .i64 q2)/\W.cell? ⟨w.heap.size+1,2,none⟩=some (.int .i64 q3):=fun W hb=>by
   have a:=h1.below hb h1.lt
   have b:=h2.below hb h2.lt
   exact⟨a.cell rfl,a.cell rfl,a.cell rfl,b.cell rfl,b.cell rfl,b.cell rfl⟩
  have hS0:=hread _ (kB _ _)
  have hA0:BX w0 w0.drew:=(kB _ _).drew
  rw[←hw0] at hB0
  clear h1 h2
  go_enter func87,ntmps87
  go_wp2_with fail
  rw[←hw0]
  clear hw0
  go_region_held3 (fun w'=>w'.cell? ⟨w.heap.size,0,none⟩=some (.int .i64 p1)/\w'.cell? ⟨w.heap.size,1,none⟩=some (.int .i64 p2)/\w'.cell? ⟨w.heap.size,2,none⟩=some (.int .i64 p3)/\w'.cell? ⟨w.heap.size+1,0,none⟩=some (.int .i64 p1)/\w'.cell? ⟨w.heap.size+1,1,none⟩=some (.int .i64 q2)/\w'.cell? ⟨w.heap.size+1,2,none⟩=some (.int .i64 q3))
   (go_keep)
   ((first
     |(go_at_call 130;refine(K _).mono ?_;clear K;rintro e W1 ⟨rfl,hb1⟩;have hA1:=hA0.trans hb1;have hS1:=hread _ hA1)))
  go_wp2_with fail
  go_ret
  exact⟨qq (by rw[hv.out]),hB0.trans (hA1.mono hB0.size)⟩
 ·have hv:Hid (xM (p1,p2,p3) (q1,q2,q3)=false):=vH (by unfold xM;rw[vF h];rfl)
  have h2:(p1==q1)=false:=by simpa using h
  have h3:decide (p1=q1)=false:=by simpa using h
  go_enter func87,ntmps87
  go_wp2_with fail
  go_quiet (fail)
  go_wp2_with fail
  go_ret
  exact⟨qq hv.out.symm,below_drewN hB0 _⟩
def jr(ps:List Plc)(a:Int)(n:Nat):Bool:=decide (n<ps.length)&&xM (ps.getD n (0,0,0)) (plc ps a)
theorem qhU(C Bt Bs base:Nat)(tb:TB)(ns:List ByteArray)(ps:List Plc)(rl:List qY)(p:Plc)(a:Int)(w:World)(hC:qd w C 85 tb.cells)(hR:xF base C w tb ns ps rl)(hp:xT p)(ha:0<=a)(hq:xT (plc ps a))
 (ht:qd w Bt 34 #[.pointer (some ⟨C,0,none⟩)]) (hs:qd w Bs 3 #[.int .i64 a]) :
 Calls prog 86 #[.agg #[.int .i64 p.1,.int .i64 p.2.1,.int .i64 p.2.2],.pointer (some ⟨Bt,0,none⟩),.pointer (some ⟨Bs,0,none⟩)] w fun e w'=>e = .returned (.bool (xM p (plc ps a)))/\BX w w':=by
 have hplc:=ZU hR.places ha
 have K1:∀W,BX w W->Calls prog 40 #[.pointer (some ⟨C,0,none⟩),.int .i64 a] W fun e w'=>e = .returned (.agg #[.int .i64 (plc ps a).1,.int .i64 (plc ps a).2.1,.int .i64 (plc ps a).2.2])/\BX W w':=fun W hb=>by
  have hCW:=hC.below hb hC.lt
  have:=qaS C tb.rS (.map tb.rM) rl a W (hCW.cell rfl) (hCW.cell rfl) (hR.below hb).at_
  rw[←hplc]
  exact this
 have K2:=fun W=>qga p (plc ps a) W hp hq
 generalize plc ps a=q at *
 obtain⟨p1,p2,p3⟩:=p
 obtain⟨q1,q2,q3⟩:=q
 dsimp only at K1 K2 ⊢
 have hx:=qd.new w 87 #[.int .i64 p1,.int .i64 p2,.int .i64 p3]
 have hb0:BX w (w.alloc (.cells #[.int .i64 p1,.int .i64 p2,.int .i64 p3] 87)):=qi
 have hread:∀W,Below (w.alloc (.cells #[.int .i64 p1,.int .i64 p2,.int .i64 p3] 87)).heap.size (w.alloc (.cells #[.int .i64 p1,.int .i64 p2,.int .i64 p3] 87)) W->W.cell? ⟨w.heap.size,0,none⟩=some (.int .i64 p1)/\W.cell? ⟨w.heap.size,1,none⟩=some (.int .i64 p2)/\W.cell? ⟨w.heap.size,2,none⟩=some (.int .i64 p3)/\W.cell? ⟨Bt,0,none⟩=some (.pointer (some ⟨C,0,none⟩))/\W.cell? ⟨Bs,0,none⟩=some (.int .i64 a):=fun W hb=>by
  have x:=hx.below hb hx.lt
  have t:=(ht.below hb0 ht.lt).below hb (ht.below hb0 ht.lt).lt
  have s:=(hs.below hb0 hs.lt).below hb (hs.below hb0 hs.lt).lt
  exact⟨x.cell rfl,x.cell rfl,x.cell rfl,t.cell rfl,s.cell rfl⟩
 replace hread:=vH hread
 replace K1:=vH K1
 clear hC hR hx ht hs hplc
 go_enter func86,ntmps86
 go_wp2_with fail
 generalize w.alloc (.cells #[.int .i64 p1,.int .i64 p2,.int .i64 p3] 87)=w0 at *
 have hS0:=hread.out _ (kB _ _)
 have hA0:BX w0 w0.drew:=(kB _ _).drew
 go_region_held3 (fun w'=>w'.cell? ⟨w.heap.size,0,none⟩=some (.int .i64 p1)/\w'.cell? ⟨w.heap.size,1,none⟩=some (.int .i64 p2)/\w'.cell? ⟨w.heap.size,2,none⟩=some (.int .i64 p3)/\w'.cell? ⟨Bt,0,none⟩=some (.pointer (some ⟨C,0,none⟩))/\w'.cell? ⟨Bs,0,none⟩=some (.int .i64 a))
  (go_keep)
  ((first
    |(go_at_call 40;refine(K1.out _ (hb0.trans (hA0.mono hb0.size))).mono ?_;rintro e W1 ⟨rfl,hb1⟩;have hA1:=hA0.trans hb1;have hS1:=hread.out _ hA1)
    |(go_at_call 87;refine(K2 _).mono ?_;clear K2;rintro e W2 ⟨rfl,hb2⟩;have hA2:=hA1.trans (hb2.mono hA1.size);have hS2:=hread.out _ hA2)))
 go_wp2_with fail
 go_ret
 exact⟨rfl,hb0.trans (hA2.mono hb0.size)⟩
theorem Yc(W:World)(b i j:Nat)(v:Value)(h:i≠j):(W.setCell ⟨b,i,none⟩ v).cell? ⟨b,j,none⟩=W.cell? ⟨b,j,none⟩:=
 World.cell?_setCell_other _ _ _ _ (fun e=>h (congrArg Addr.off e))
def Qo(C:Nat)(tb:TB)(ns:List ByteArray)(ps:List Plc)(args:List ByteArray)(result:ByteArray)(saved:List ByteArray)(w:World)(e:Ending)(w':World):Prop:=
 e = .returned (.tuple #[])/\But C w w'/\∃ag sv sr:SlV,qd w' C 85 { tb with args:=ag,result:=xG ns result,saved:=sv,surv:=sr }.cells/\qN w' ag (xy ns args)/\qN w' sv (xy ns saved)/\zh w' sr (fun n=>(xy ns saved).any fun a=>jr ps a n)
theorem But.set{C j:Nat}{v:Value}{a b:World}(h:But C a b):But C a (b.setCell ⟨C,j,none⟩ v):=qF.set h v
theorem xF.same{base C:Nat}{W:World}{tb tb':TB}{ns:List ByteArray}{ps:List Plc}{rl:List qY}(h:xF base C W tb ns ps rl)(h1:tb'.rS=tb.rS)(h2:tb'.rM=tb.rM):xF base C W tb' ns ps rl:=
 ⟨by rw[h1];exact h.row,by rw[h2];exact h.map,h.names,h.places⟩
theorem qeA(C base:Nat)(mn:ByteArray)(mrg mkl mop mar:SlV)(mrs:ByteArray)(msv:SlV)(msl:Int)(rS:SlV)(rM:Option Nat)(cS:SlV)(cM:Option Nat)(oS:SlV)(oM:Option Nat)(ns:List ByteArray)(ps:List Plc)(rl:List qY)(args saved:List ByteArray)(w:World)
 (hC:qd w C 85 (TB.mk ⟨mn,mrg,mkl,mop,mar,mrs,msv,msl⟩ rS rM cS cM oS oM ⟨none,0,0⟩ 0 ⟨none,0,0⟩ ⟨none,0,0⟩).cells) (hR:xF base C w (TB.mk ⟨mn,mrg,mkl,mop,mar,mrs,msv,msl⟩ rS rM cS cM oS oM ⟨none,0,0⟩ 0 ⟨none,0,0⟩ ⟨none,0,0⟩) ns ps rl)
 (hA:∀W,But C w W->qG W mar args) (hS:∀W,But C w W->qG W msv saved) (hal:args.length<=1000) (hsl:saved.length<=1000) (haz:∀s,s∈args->s.size<=281474976710656) (hsz:∀s,s∈saved->s.size<=281474976710656) (hrz:mrs.size<=281474976710656)
 (hok:∀p,p∈ps->xT p) (hlen:ps.length<=1000) (hin:∀a,a∈xy ns saved->a<ps.length) :
 Calls prog 35 #[.pointer (some ⟨C,0,none⟩)] w (Qo C (TB.mk ⟨mn,mrg,mkl,mop,mar,mrs,msv,msl⟩ rS rM cS cM oS oM ⟨none,0,0⟩ 0 ⟨none,0,0⟩ ⟨none,0,0⟩) ns ps args mrs saved w):=by
 have hwl:=hC.lt
 have hb0:BX w (w.alloc (.cells #[.pointer (some ⟨C,0,none⟩)] 34)):=qi
 have ht:=qd.new w 34 #[.pointer (some ⟨C,0,none⟩)]
 have hCB:=hC.below hb0 hwl
 have hRB:=hR.below hb0
 have hbut0:But C w (w.alloc (.cells #[.pointer (some ⟨C,0,none⟩)] 34)):=.of hb0
 have hne:C≠w.heap.size:=by omega
 have hne2:=Ne.symm hne
 replace hA:=vH hA
 replace hS:=vH hS
 replace haz:=vH haz
 replace hsz:=vH hsz
 replace hok:=vH hok
 replace hin:=vH hin
 clear hC hR
 go_enter func35,ntmps35
 go_wp2_with fail
 generalize w.alloc (.cells #[.pointer (some ⟨C,0,none⟩)] 34)=w0 at *
 have hread:∀W,BX w0 W->W.cell? ⟨w.heap.size,0,none⟩=some (.pointer (some ⟨C,0,none⟩))/\W.cell? ⟨C,4,none⟩=some (.slice mar.a mar.n mar.c)/\W.cell? ⟨C,6,none⟩=some (.slice msv.a msv.n msv.c)/\(W.cell? ⟨C,14,none⟩=some (.slice none 0 0)/\W.frozen? ⟨C,14,none⟩=false/\W.cell? ⟨C,16,none⟩=some (.slice none 0 0)/\W.frozen? ⟨C,16,none⟩=false):=fun W hb=>by
  have t:=ht.below hb ht.lt
  have c:=hCB.below hb hCB.lt
  exact⟨t.cell rfl,c.cell rfl,c.cell rfl,c.cell rfl,c.frozen 14,c.cell rfl,c.frozen 16⟩
 have KN:∀W s l,BX w0 W->qG W s l->l.length<=1000->(∀x,x∈l->x.size<=281474976710656)->Calls prog 79 #[.pointer (some ⟨C,0,none⟩),.slice s.a s.n s.c] W fun e w'=>∃s':SlV,e = .returned (.slice s'.a s'.n s'.c)/\BX W w'/\qN w' s' (xy ns l):=fun W s l hb hs h1 h2=>
  (ZS C base _ ns s l W (hCB.below hb hCB.lt) (hRB.map.below hb) hs (by omega) h2).mono fun e w' ⟨s',he,hb',hr⟩=>⟨s',he,hb',by
    unfold qN xy
    rw[vP]
    exact qm hr (vO _)⟩
 have hS0:=hread _ (kB _ _)
 have hA0:BX w0 w0.drew:=(kB _ _).drew
 have K1:∀W,BX w0 W->Calls prog 79 #[.pointer (some ⟨C,0,none⟩),.slice mar.a mar.n mar.c] W fun e w'=>∃s':SlV,e = .returned (.slice s'.a s'.n s'.c)/\BX W w'/\qN w' s' (xy ns args):=fun W hb=>KN W mar args hb (hA.out W (hbut0.step hb (by have:=hb0.size;exact vL _))) hal haz.out
 have K2:∀W,BX w0 W->Calls prog 79 #[.pointer (some ⟨C,0,none⟩),.slice msv.a msv.n msv.c] W fun e w'=>∃s':SlV,e = .returned (.slice s'.a s'.n s'.c)/\BX W w'/\qN w' s' (xy ns saved):=fun W hb=>KN W msv saved hb (hS.out W (hbut0.step hb (vL _))) hsl hsz.out
 have hr8:∀W,BX w0 W->qd W C 85 (TB.mk ⟨mn,mrg,mkl,mop,mar,mrs,msv,msl⟩ rS rM cS cM oS oM ⟨none,0,0⟩ 0 ⟨none,0,0⟩ ⟨none,0,0⟩).cells:=fun W hb=>hCB.below hb hCB.lt
 have ht':=vH ht
 have hRB':=vH hRB
 replace hread:=vH hread
 replace K1:=vH K1
 replace K2:=vH K2
 replace hr8:=vH hr8
 clear KN hCB hRB ht
 go_region_held3 (fun w'=>w'.cell? ⟨w.heap.size,0,none⟩=some (.pointer (some ⟨C,0,none⟩))/\w'.cell? ⟨C,4,none⟩=some (.slice mar.a mar.n mar.c)/\w'.cell? ⟨C,6,none⟩=some (.slice msv.a msv.n msv.c))
  (simp[*,World.cell?_setCell_far,Yc])
  ((first
    |(go_at_call 79;refine(K1.out _ hA0).mono ?_;clear K1;rintro e W1 ⟨⟨aa,an,ac⟩,rfl,hb1,hI1⟩;have hA1:=hA0.trans hb1;have hS1:=hread.out _ hA1;replace hI1:=vH hI1)
    |(go_at_call 79;refine(K2.out _ hA1).mono ?_;clear K2;rintro e W2 ⟨⟨va,vn,vc⟩,rfl,hb2,hI2⟩;have hA2:=hA1.trans (hb2.mono hA1.size);have hS2:=hread.out _ hA2;replace hI2:=vH hI2)))
 have hC2:=hr8.out W2 hA2
 have hC3:=(hC2.set (j:=14) (.slice aa an ac)).set (j:=16) (.slice va vn vc)
 have hbut3:But C w ((W2.setCell ⟨C,14,none⟩ (.slice aa an ac)).setCell ⟨C,16,none⟩ (.slice va vn vc)):=But.set (But.set (hbut0.step hA2 (vL _)))
 have hst3:qt [85] W2 ((W2.setCell ⟨C,14,none⟩ (.slice aa an ac)).setCell ⟨C,16,none⟩ (.slice va vn vc)):=(qt.of_set hC2 (by simp) _ _).trans (qt.of_set (hC2.set (j:=14) (.slice aa an ac)) (by simp) _ _)
 have hI13:=vH (hst3.row (hI1.out.below hb2) (by decide))
 have hI23:=vH (hst3.row hI2.out (by decide))
 have ht3:=hst3.block _ _ _ (by decide) (ht'.out.below hA2 ht'.out.lt)
 have hR3:=(hRB'.out.below hA2)
 have hR3':xF base C ((W2.setCell ⟨C,14,none⟩ (.slice aa an ac)).setCell ⟨C,16,none⟩ (.slice va vn vc)) (TB.mk ⟨mn,mrg,mkl,mop,mar,mrs,msv,msl⟩ rS rM cS cM oS oM ⟨aa,an,ac⟩ 0 ⟨va,vn,vc⟩ ⟨none,0,0⟩) ns ps rl:=
  (hR3.but hC2 ((qF.refl _ _ _).set _ |>.set _)).same rfl rfl
 clear hS0 hS1 hS2 hA0 hA1 hC2 hR3 hb1 hb2 hI1 hI2 hr8 hread hRB' ht' hst3
 change qd _ C _ (TB.mk ⟨mn,mrg,mkl,mop,mar,mrs,msv,msl⟩ rS rM cS cM oS oM ⟨aa,an,ac⟩ 0 ⟨va,vn,vc⟩ ⟨none,0,0⟩).cells at hC3
 generalize(W2.setCell ⟨C,14,none⟩ (.slice aa an ac)).setCell ⟨C,16,none⟩ (.slice va vn vc)=W3 at *
 clear hA2
 have hR3h:=vH hR3'
 have ht3h:=vH ht3
 have hC3h:=vH hC3
 have hread:∀W,BX W3 W->W.cell? ⟨w.heap.size,0,none⟩=some (.pointer (some ⟨C,0,none⟩))/\W.cell? ⟨C,5,none⟩=some (.string mrs)/\(W.cell? ⟨C,15,none⟩=some (.int .i64 0)/\W.frozen? ⟨C,15,none⟩=false):=fun W hb=>by
  have t:=ht3h.out.below hb ht3h.out.lt
  have c:=hC3h.out.below hb hC3h.out.lt
  exact⟨t.cell rfl,c.cell rfl,c.cell rfl,c.frozen 15⟩
 have hS3:=hread _ (kB _ _)
 have KR:=fun W (hb:BX W3 W)=>qfW C base _ ns mrs W (hC3h.out.below hb hC3h.out.lt) (hR3h.out.map.below hb) hrz
 have hA3:BX W3 W3.drew:=(kB _ _).drew
 replace hread:=vH hread
 replace KR:=vH KR
 clear hC3 hR3' ht3
 go_wp2_with fail
 go_region_held3 (fun w'=>w'.cell? ⟨w.heap.size,0,none⟩=some (.pointer (some ⟨C,0,none⟩))/\w'.cell? ⟨C,5,none⟩=some (.string mrs))
  (simp[*,World.cell?_setCell_far,Yc])
  ((first
    |(go_at_call 38;refine(KR.out _ hA3).mono ?_;clear KR;rintro e W4 ⟨rfl,hb4⟩;have hA4:=hA3.trans hb4;have hS4:=hread.out _ hA4)))
 have hC4:=hC3h.out.below hA4 hC3h.out.lt
 have hC5:=hC4.set (j:=15) (.int .i64 (xG ns mrs))
 have hst5:qt [85] W4 (W4.setCell ⟨C,15,none⟩ (.int .i64 (xG ns mrs))):=qt.of_set hC4 (by simp) _ _
 have hbut5:But C w (W4.setCell ⟨C,15,none⟩ (.int .i64 (xG ns mrs))):=But.set (hbut3.step hA4 (vL _))
 have hI15:=vH (hst5.row (qN.below (show qN W3 _ _ from hI13.out) hA4) (by decide))
 have hI25:=vH (hst5.row (qN.below (show qN W3 _ _ from hI23.out) hA4) (by decide))
 have ht5:=hst5.block _ _ _ (by decide) (ht3h.out.below hA4 ht3h.out.lt)
 have hR5:xF base C (W4.setCell ⟨C,15,none⟩ (.int .i64 (xG ns mrs))) (TB.mk ⟨mn,mrg,mkl,mop,mar,mrs,msv,msl⟩ rS rM cS cM oS oM ⟨aa,an,ac⟩ (xG ns mrs) ⟨va,vn,vc⟩ ⟨none,0,0⟩) ns ps rl:=
  ((hR3h.out.below hA4).but hC4 ((qF.refl _ _ _).set _)).same rfl rfl
 clear hS3 hS4 hA3 hb4 hread hI13 hI23 hR3h ht3h hC3h hC4 hst5 hbut3
 change qd _ C _ (TB.mk ⟨mn,mrg,mkl,mop,mar,mrs,msv,msl⟩ rS rM cS cM oS oM ⟨aa,an,ac⟩ (xG ns mrs) ⟨va,vn,vc⟩ ⟨none,0,0⟩).cells at hC5
 generalize W4.setCell ⟨C,15,none⟩ (.int .i64 (xG ns mrs))=W5 at *
 clear hA4
 obtain⟨L,hL⟩:∃L,L=xy ns saved:=⟨_,rfl⟩
 have hLl:L.length<=1000:=by rw[hL];unfold xy;rw[vP];exact hsl
 have hL0:∀a,a∈L->0<=a:=fun a ha=>by
  rw[hL] at ha
  obtain⟨s,_,rfl⟩:=List.mem_map.1 ha
  exact qcZ ns s
 have hI2L:Hid (qN W5 ⟨va,vn,vc⟩ L):=vH (by rw[hL];exact hI25.out)
 have hin2:Hid (∀a,a∈L->a<ps.length):=vH (by rw[hL];exact hin.out)
 have hvn:vn=L.length:=hI2L.out.len
 have hgoal:∀W s,But C w W->qd W C 85 (TB.mk ⟨mn,mrg,mkl,mop,mar,mrs,msv,msl⟩ rS rM cS cM oS oM ⟨aa,an,ac⟩ (xG ns mrs) ⟨va,vn,vc⟩ s).cells->qt [85] W5 W->zh W s (fun n=>L.any fun a=>jr ps a n) ->
  Qo C (TB.mk ⟨mn,mrg,mkl,mop,mar,mrs,msv,msl⟩ rS rM cS cM oS oM ⟨none,0,0⟩ 0 ⟨none,0,0⟩ ⟨none,0,0⟩) ns ps args mrs saved w (.returned (.tuple #[])) W:=fun W s h1 h2 h3 h4=>
  ⟨rfl,h1,⟨aa,an,ac⟩,⟨va,vn,vc⟩,s,h2,h3.row hI15.out (by decide),h3.row hI25.out (by decide),by rw[←hL];exact h4⟩
 replace hgoal:=vH hgoal
 replace hL0:=vH hL0
 clear hI25 hI15 hL hin
 subst hvn
 have hC5h:=vH hC5
 have hR5h:=vH hR5
 have ht5h:=vH ht5
 have r1:=ht5.cell (j:=0) (v:=.pointer (some ⟨C,0,none⟩)) rfl
 have r2:=hC5.cell (j:=16) (v:=.slice va L.length vc) rfl
 clear hR5 ht5
 go_wp2_with fail
 go_loopw [43] (fun i wr=>∃ (k:Nat) (s:SlV),k<=L.length/\i = .int .i64 k/\qd wr C 85 (TB.mk ⟨mn,mrg,mkl,mop,mar,mrs,msv,msl⟩ rS rM cS cM oS oM ⟨aa,an,ac⟩ (xG ns mrs) ⟨va,L.length,vc⟩ s).cells/\But C w wr/\But C W5 wr/\Hid (zh wr s (fun n=>(L.take k).any fun a=>jr ps a n))) (fun i _=>L.length-(intOf i).toNat)
 case atStart=>exact⟨0,⟨none,0,0⟩,vO _,rfl,hC5,hbut5,qF.refl _ _ _,vH (zh.none _)⟩
 case round=>
  clear hC5 r1 r2 hbut5
  obtain⟨k,⟨ga,gn,gc⟩,hk,rfl,hCr,hBr,hB5,hS⟩:=hrel
  have k0:(0:Int)<=k:=vN _
  have hst:=hB5.stays hC5h.out
  by_cases hlt:k<L.length
  ·obtain⟨x,hxk⟩:∃x,L[k]?=some x:=⟨L[k],vE hlt⟩
   have hmem:=vM hxk
   have hx0:=hL0.out x hmem
   have hx1:=hin2.out x hmem
   obtain⟨b,o,e1,c0⟩:=(qN.at_ (show qN wr ⟨va,L.length,vc⟩ L from hst.row hI2L.out (by decide))).2.2 k x hxk
   dsimp only at e1
   subst e1
   have hi:IntKind.i64.wrap ((k:Int)+1)=k+1:=vI _ (by omega)
   have k1:(k:Int)<L.length:=by omega
   have htr:=hst.block _ _ _ (by decide) ht5h.out
   have hRr:=hR5h.out.but hC5h.out hB5
   have hbx:BX wr (wr.alloc (.cells #[.int .i64 x] 3)):=qi
   have hsx:=qd.new wr 3 #[.int .i64 x]
   have hqok:xT (plc ps x):=hok.out _ (by
    unfold plc
    rw[vG,vE (by omega:x.toNat<ps.length)]
    exact List.getElem_mem _)
   have hrlen:rl.length<=1000:=by rw[←hRr.places,vP] at hlen;exact hlen
   have hrok:∀q,q∈rl->xT q.plc:=fun q hq=>hok.out _ (by rw[←hRr.places];exact vQ hq)
   have hthp:Ze rl (fun p=>xM p (plc ps x))=jr ps x:=by
    funext n
    rw[qba,hRr.places];rfl
   have K:∀W,Below (wr.alloc (.cells #[.int .i64 x] 3)).heap.size (wr.alloc (.cells #[.int .i64 x] 3)) W ->
    Calls prog 76 #[.pointer (some ⟨C,0,none⟩),.func (.func 86) #[] #[.pointer (some ⟨w.heap.size,0,none⟩),.pointer (some ⟨wr.heap.size,0,none⟩)]] W (xj (jr ps x) W):=fun W hb=>by
    have hA:=hbx.trans (hb.mono hbx.size)
    have:=qex C w.heap.size wr.heap.size (TB.mk ⟨mn,mrg,mkl,mop,mar,mrs,msv,msl⟩ rS rM cS cM oS oM ⟨aa,an,ac⟩ (xG ns mrs) ⟨some ⟨b,o,none⟩,L.length,vc⟩ ⟨ga,gn,gc⟩) rl (fun p=>xM p (plc ps x)) W (hCr.below hA hCr.lt) ((hRr.below hA).at_) hrlen
     (fun W' hb' q hq=>qhU C w.heap.size wr.heap.size base _ ns ps rl q.plc x W' ((hCr.below hA hCr.lt).below hb' (hCr.below hA hCr.lt).lt) (((hRr.below hA).below hb').same rfl rfl) (hrok q hq) hx0 hqok ((htr.below hA htr.lt).below hb' (htr.below hA htr.lt).lt) ((hsx.below hb hsx.lt).below hb' (hsx.below hb hsx.lt).lt))
    rw[hthp] at this
    exact this
   have hrb:(fun n=>(L.take (k+1)).any fun a=>jr ps a n)=fun n=>(L.take k).any (fun a=>jr ps a n)||jr ps x n:=by
    funext n
    rw[vX,hxk,List.any_append]
    simp
   have hmf:∀ (fn:Fn) (first cap:Array Value) (w:World),(Instr.makeFunc fn first cap).run prog w = .ok (.func fn first cap) w:=fun _ _ _ _=>rfl
   have hP:∀W,BX wr W->qd W C 85 (TB.mk ⟨mn,mrg,mkl,mop,mar,mrs,msv,msl⟩ rS rM cS cM oS oM ⟨aa,an,ac⟩ (xG ns mrs) ⟨some ⟨b,o,none⟩,L.length,vc⟩ ⟨ga,gn,gc⟩).cells/\qd W w.heap.size 34 #[.pointer (some ⟨C,0,none⟩)]/\zh W ⟨ga,gn,gc⟩ (fun n=>(L.take k).any fun a=>jr ps a n):=fun W hb=>⟨hCr.below hb hCr.lt,htr.below hb htr.lt,hS.out.below hb⟩
   have hsP:=vH hrb
   obtain⟨SP,hSP⟩:∃SP,SP=jr ps x:=⟨_,rfl⟩
   rw[←hSP] at K hrb
   replace hSP:=vH hSP
   replace hrb:=vH hrb
   replace K:=vH K
   replace hP:=vH hP
   have hBs:=hBr.size
   have hB5s:=hB5.size
   have htc:=htr.cell (j:=0) (v:=.pointer (some ⟨C,0,none⟩)) rfl
   have htca:=qb hbx htc
   have hwrC:C<wr.heap.size:=hCr.lt
   have hwrt:w.heap.size<wr.heap.size:=htr.lt
   clear hxk hmem hx0 hx1 htr hRr hsx hqok hrlen hrok hthp hS hCr hst hsP
   go_wp2_with (go_at_call 76;refine(K.out _ (kB _ _)).mono ?_;rintro e W6 ⟨hb6,⟨za,zn,zc⟩,rfl,hz⟩;have hA6:=hbx.trans (hb6.mono hbx.size);replace hz:=vH hz;have h6c:=qb hA6 htc)
   have hbz:BX W6 (W6.alloc (.cells #[.slice za zn zc] 83)):=qi
   have hA7:=hA6.trans (hbz.mono hA6.size)
   obtain⟨hC7,ht7,hS7⟩:=hP.out _ hA7
   have hz7:=vH (hz.out.below hbz)
   have hzc:=qd.new W6 83 #[.slice za zn zc]
   clear hb6 hbz hz h6c hA6
   generalize W6.alloc (.cells #[.slice za zn zc] 83)=W7 at *
   generalize W6.heap.size=B6 at *
   have s1:=ht7.cell (j:=0) (v:=.pointer (some ⟨C,0,none⟩)) rfl
   have s2:=hC7.cell (j:=17) (v:=.slice ga gn gc) rfl
   have s3:=hzc.cell (j:=0) (v:=.slice za zn zc) rfl
   have s4:=hC7.frozen 17
   have hC7h:=vH hC7
   have ht7h:=vH ht7
   have hS7h:=vH hS7
   have KO:∀W,BX W7 W->Calls prog 88 #[.agg #[.slice ga gn gc],.agg #[.slice za zn zc]] W (xj (fun n=>(L.take (k+1)).any fun a=>jr ps a n) W):=fun W hb=>by
    have:=qlM ⟨ga,gn,gc⟩ ⟨za,zn,zc⟩ _ _ W (hS7h.out.below hb) (hz7.out.below hb)
    rw[hrb.out]
    exact this
   have hb7:BX W7 W7.drew:=(kB _ _).drew
   have hP7:∀W,BX W7 W->W.cell? ⟨w.heap.size,0,none⟩=some (.pointer (some ⟨C,0,none⟩))/\W.cell? ⟨C,17,none⟩=some (.slice ga gn gc)/\W.frozen? ⟨C,17,none⟩=false/\qd W C 85 (TB.mk ⟨mn,mrg,mkl,mop,mar,mrs,msv,msl⟩ rS rM cS cM oS oM ⟨aa,an,ac⟩ (xG ns mrs) ⟨some ⟨b,o,none⟩,L.length,vc⟩ ⟨ga,gn,gc⟩).cells:=fun W hb=>by
    have c:=hC7h.out.below hb hC7h.out.lt
    exact⟨(ht7h.out.below hb ht7h.out.lt).cell rfl,c.cell rfl,c.frozen 17,c⟩
   obtain⟨QQ,hQQ⟩:∃QQ,QQ=fun n=>(L.take (k+1)).any fun a=>jr ps a n:=⟨_,rfl⟩
   rw[←hQQ] at KO
   replace hQQ:=vH hQQ
   replace KO:=vH KO
   replace hP7:=vH hP7
   clear hC7 ht7 hS7 hzc
   go_wp2_with fail
   go_region_law (go_simp;go_at_call 88;refine(KO.out _ hb7).mono ?_;rintro e W8 ⟨hb8,⟨ya,yn,yc⟩,rfl,hy⟩;have hA8:=hb7.trans hb8;obtain⟨u1,u2,u3,u4⟩:=hP7.out _ hA8;replace hy:=vH hy)
   all_goals
    go_wp2_with fail
    have hA78:=hA7.trans (hA8.mono hA7.size)
    refine⟨⟨k+1,⟨ya,yn,yc⟩,by omega,by go_num,u4.set (j:=17) _,But.set (hBr.step hA78 (vL _)),But.set (hB5.step hA78 (vL _)),?_⟩,by simp[intOf];omega⟩
    rw[←hQQ.out]
    exact vH (hy.out.set_other _ u2 (fun x hx=>by cases hx))
  ·obtain rfl:k=L.length:=by omega
   rw[List.take_length] at hS
   have hfin:=vH (hgoal.out wr ⟨ga,gn,gc⟩ hBr hCr hst hS.out)
   clear hS hCr hBr hB5 hst
   go_wp2_with fail
   go_end0
   exact hfin.out
end Go.Proofs.YtomlgdnafeeeiaaGreatDoor
