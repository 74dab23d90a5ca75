/-
  table's takeOps and takeConvention.
-/
import Derived.Test.YtkoloennfejaaaaGreatDoorTcEP
set_option maxHeartbeats 16000000
set_option maxRecDepth 100000
namespace Go.Proofs.YtkoloennfejaaaaGreatDoor
open Go.RowKit
theorem But.stays{C:Nat}{w W:World}{t:TypeId}{cs:Array Value}(h:But C w W)(hC:Cells w C t cs):Stays [t] w W:=
 ⟨h.size,fun b t' cs' ht hc=>(h.block b hc.lt (fun e=>by
  subst e
  have h2:=Option.some.inj ((show w.heap[b]?=_ from hc).symm.trans (show w.heap[b]?=_ from hC))
  injection h2 with _ h3 _
  exact ht (by rw[h3];simp))).trans hc⟩
theorem zt.but{base C:Nat}{W W':World}{cS:SlV}{cM:Option Nat}{ns:List ByteArray}{ps:List Plc}{ks:List ClassD}{cl:List ClsT}{cs:Array Value}(h:zt base W cS cM ns ps ks cl)(hC:Cells W C 88 cs)(hb:But C W W'):zt base W' cS cM ns ps ks cl:=by
 have hs:=hb.stays hC
 exact⟨hs.row h.row (by decide),h.map.but hC hb,h.len,fun i x k hx hk=>by obtain⟨h1,h2,h3⟩:=h.each i x k hx hk;exact⟨hs.row h1 (by decide),hs.set h2 (by decide),h3⟩⟩
theorem zt.at_{base:Nat}{W:World}{cS:SlV}{cM:Option Nat}{ns:List ByteArray}{ps:List Plc}{ks:List ClassD}{cl:List ClsT}(h:zt base W cS cM ns ps ks cl):zk W cS cl:=zk.of_row h.row
def setsOf(ns:List ByteArray)(ks:List ClassD):List (Nat->Bool):=ks.map fun k=>ofP (nums0 ns k.regs)
theorem zt.sets{base:Nat}{W:World}{cS:SlV}{cM:Option Nat}{ns:List ByteArray}{ps:List Plc}{ks:List ClassD}{cl:List ClsT}(h:zt base W cS cM ns ps ks cl)(a:Nat):SetAt W (cl.getD a ClsT.none).set ((setsOf ns ks).getD a (fun _=>false)):=by
 unfold setsOf
 rw[List.getD_eq_getElem?_getD,List.getD_eq_getElem?_getD,List.getElem?_map]
 cases hk:ks[a]? with
 |none=>
  have:cl[a]?=none:=by rw[List.getElem?_eq_none_iff,h.len];exact List.getElem?_eq_none_iff.1 hk
  rw[this]
  exact SetAt.none W
 |some k=>
  obtain⟨x,hx⟩:∃x,cl[a]?=some x:=⟨cl[a]'(by rw[h.len];exact(List.getElem?_eq_some_iff.1 hk).1),List.getElem?_eq_getElem _⟩
  rw[hx]
  exact(h.each a x k hx hk).2.1
def lapsN(ps:List Plc)(a:Int)(n:Nat):Bool:=decide (0<=a)&&decide (a<ps.length)&&lapsP ps (plc ps a) n
theorem qY.laps{base C:Nat}{W:World}{tb:TB}{ns:List ByteArray}{ps:List Plc}{rl:List RegT}(h:qY base C W tb ns ps rl)(hl:∀x,x∈rl->SetAt W x.laps (lapsP ps x.plc))(a:Int):SetAt W (regAtN rl a).laps (lapsN ps a):=by
 have hlen:ps.length=rl.length:=by rw[←h.places,List.length_map]
 by_cases h0:0<=a
 ·have hp:=yE h.places h0
  unfold regAtN at hp ⊢
  rw[if_pos h0] at hp ⊢
  by_cases h1:a<ps.length
  ·have hlt:a.toNat<rl.length:=by omega
   have hg:rl.getD a.toNat RegT.none=rl[a.toNat]:=by rw[List.getD_eq_getElem?_getD,List.getElem?_eq_getElem hlt];rfl
   rw[hg] at hp ⊢
   have h2:=hl _ (List.getElem_mem hlt)
   rw[hp] at h2
   have e:lapsN ps a=lapsP ps (plc ps a):=by funext n;unfold lapsN;rw[decide_eq_true h0,decide_eq_true h1];rfl
   rw[e]
   exact h2
  ·have hg:rl.getD a.toNat RegT.none=RegT.none:=by rw[List.getD_eq_getElem?_getD,List.getElem?_eq_none (by omega)];rfl
   rw[hg]
   have e:lapsN ps a=fun _=>false:=by funext n;unfold lapsN;rw[decide_eq_false h1];simp
   rw[e]
   exact SetAt.none W
 ·unfold regAtN
  rw[if_neg h0]
  have e:lapsN ps a=fun _=>false:=by funext n;unfold lapsN;rw[decide_eq_false h0];simp
  rw[e]
  exact SetAt.none W
def mayPs(ns:List ByteArray)(ps:List Plc)(ks:List ClassD)(o:OpD):List (Nat->Bool):=
 (fun n=>zD ns (ks.map (·.name)) (setsOf ns ks) o.d n && !((nums0 ns o.clob).any fun a=>lapsN ps a n))::o.uses.map (zD ns (ks.map (·.name)) (setsOf ns ks))
def SetsIn(base:Nat)(W:World)(s:SlV)(l:List (Nat->Bool)):Prop:=
 ∃ms:List SlV,W.ownsRow base 86 1 s.v l.length (ms.map SlV.v)/\ms.length=l.length/\∀ (i:Nat) x p,ms[i]?=some x->l[i]?=some p->SetAt W x p
theorem SetsIn.stays{ts:List TypeId}{base:Nat}{W W':World}{s:SlV}{l:List (Nat->Bool)}(h:SetsIn base W s l)(hs:Stays ts W W')(h1:86∉ts)(h2:114∉ts):SetsIn base W' s l:=by
 obtain⟨ms,a,b,c⟩:=h
 exact⟨ms,hs.row a h1,b,fun i x p hx hp=>hs.set (c i x p hx hp) h2⟩
theorem SetsIn.below{base:Nat}{W W':World}{s:SlV}{l:List (Nat->Bool)}(h:SetsIn base W s l)(hb:Below W.heap.size W W'):SetsIn base W' s l:=h.stays (ts:=[]) (Stays.of_below hb) (by simp) (by simp)
structure xh(base:Nat)(W:World)(oS:SlV)(oM:Option Nat)(ns:List ByteArray)(ps:List Plc)(ks:List ClassD)(os:List OpD)(ol:List OpT):Prop where
 row:W.ownsRow base 99 3 oS.v ol.length (ol.flatMap fun x=>x.v.toList)
 map:zb base W oM (os.map (·.name))
 len:ol.length=os.length
 each:∀ (i:Nat) x o,ol[i]?=some x->os[i]?=some o->SetsIn 0 W x.may (mayPs ns ps ks o)/\x.tie=o.tie/\IntsR W x.clob (nums0 ns o.clob)
theorem xh.below{base:Nat}{W W':World}{oS:SlV}{oM:Option Nat}{ns:List ByteArray}{ps:List Plc}{ks:List ClassD}{os:List OpD}{ol:List OpT}(h:xh base W oS oM ns ps ks os ol)(hb:Below W.heap.size W W'):xh base W' oS oM ns ps ks os ol:=
 ⟨qb h.row hb,h.map.below hb,h.len,fun i x k hx hk=>by obtain⟨h1,h2,h3⟩:=h.each i x k hx hk;exact⟨h1.below hb,h2,h3.below hb⟩⟩
def Qg(C:Nat)(tb:TB)(ns:List ByteArray)(ps:List Plc)(ks:List ClassD)(os:List OpD)(w:World)(e:Ending)(w':World):Prop:=
 e = .returned (.tuple #[])/\But C w w'/\∃ (oS:SlV) (oM:Option Nat) (ol:List OpT),Cells w' C 88 { tb with oS:=oS,oM:=oM }.cells/\xh w.heap.size w' oS oM ns ps ks os ol
theorem Tryz.infoSetT:(Tryz.prog.info? 86).map (fun i=>(i.zero,i.size,i.bytes))=some (some (.agg #[.slice none 0 0]),1,24):=by kernel_rfl
def OpFit(o:OpD):Prop:=o.name.size<=281474976710656/\o.d.cls.size<=281474976710656/\o.d.fix.size<=281474976710656/\o.uses.length<=1000/\(∀u,u∈o.uses->u.cls.size<=281474976710656/\u.fix.size<=281474976710656)/\o.clob.length<=1000/\∀s,s∈o.clob->s.size<=281474976710656
theorem qcu(C base base2:Nat)(m:MV)(rS:SlV)(rM:Option Nat)(cS:SlV)(cM:Option Nat)(ag:SlV)(rs:Int)(sv sr:SlV)(ns:List ByteArray)(ps:List Plc)(rl:List RegT)(ks:List ClassD)(cl:List ClsT)(os:List OpD)(w:World)
 (hC:Cells w C 88 (TB.mk m rS rM cS cM ⟨none,0,0⟩ none ag rs sv sr).cells) (hR:qY base C w (TB.mk m rS rM cS cM ⟨none,0,0⟩ none ag rs sv sr) ns ps rl) (hlap:∀x,x∈rl->SetAt w x.laps (lapsP ps x.plc))
 (hK:zt base2 w cS cM ns ps ks cl) (hO:∀W,But C w W->OpsAt W m.ops os) (hlen:os.length<=1000) (hnd:(os.map (·.name)).Nodup) (hfit:∀o,o∈os->OpFit o) :
 Calls Tryz.prog 68 #[.pointer (some ⟨C,0,none⟩)] w (Qg C (TB.mk m rS rM cS cM ⟨none,0,0⟩ none ag rs sv sr) ns ps ks os w):=by
 obtain⟨mn,mrg,mkl,⟨oa,on,oc⟩,mar,mrs,msv,msl⟩:=m
 have hon:=(hO w (qo.refl _ _ _)).1
 have hocc:=(hO w (qo.refl _ _ _)).2.1
 dsimp only at hon hocc
 subst hon
 have c3:=hC.cell (j:=3) (v:=.slice oa os.length oc) rfl
 have hwl:=hC.lt
 have hC0:=Lib.hid hC
 replace hO:=Lib.hid hO
 replace hnd:=Lib.hid hnd
 replace hfit:=Lib.hid hfit
 have hR0:=Lib.hid hR
 have hK0:=Lib.hid hK
 have hlap0:=Lib.hid hlap
 clear hR hK hlap
 go_enter Tryz.func68,Tryz.ntmps68
 go_wp2_with fail
 go_loopw [14] (fun i wr=>∃ (k:Nat) (oS:SlV) (oM:Option Nat) (ol:List OpT),k<=os.length/\i = .int .i64 k/\Cells wr C 88 (TB.mk ⟨mn,mrg,mkl,⟨oa,os.length,oc⟩,mar,mrs,msv,msl⟩ rS rM cS cM oS oM ag rs sv sr).cells/\qo w.heap.size C w wr/\Hid (xh w.heap.size wr oS oM ns ps ks (os.take k) ol)) (fun i _=>os.length-(intOf i).toNat)
 case atStart=>exact⟨0,⟨none,0,0⟩,none,[],Nat.zero_le _,rfl,hC,qo.refl _ _ _,Lib.hid ⟨by simpa[SlV.v] using World.ownsRow_nil _ _ _ _,.inl ⟨rfl,rfl⟩,rfl,fun i x k hx _=>by simp at hx⟩⟩
 case round=>
  clear hC c3
  obtain⟨k,oS,oM,ol,hk,rfl,hCr,hBr,hI⟩:=hrel
  have k0:(0:Int)<=k:=Int.natCast_nonneg _
  by_cases hlt:k<os.length
  ·obtain⟨x,hxk⟩:∃x,os[k]?=some x:=⟨os[k],List.getElem?_eq_getElem hlt⟩
   have hmem:=List.mem_of_getElem? hxk
   obtain⟨f1,f2,f3,f4,f5,f6,f7⟩:=hfit.out x hmem
   obtain⟨b,o,e0,⟨ua,un,uc⟩,⟨qa,qn,qc⟩,q0,q1,q2,q3,q4,q5,hus,hcs⟩:=(hO.out wr hBr).2.2 k x hxk
   dsimp only at e0 q3 q5
   subst e0
   have hi:IntKind.i64.wrap ((k:Int)+1)=k+1:=IntWalk.i64_in _ (by omega)
   have k1:(k:Int)<os.length:=by omega
   have hBs:=hBr.size
   have hst0:Stays [88] w wr:=But.stays hBr hC0.out
   have htk:Hid (os.take (k+1)=os.take k++[x]):=Lib.hid (by rw[List.take_add_one,hxk];rfl)
   have hno:x.name∉(os.take k).map (·.name):=by
    have h1:=hnd.out
    rw[←List.take_append_drop (k+1) os,List.map_append,htk.out,List.map_append] at h1
    have h2:=(List.nodup_append.1 h1).1
    have h3:=List.nodup_append.1 h2
    intro hm
    exact h3.2.2 _ hm _ (List.mem_singleton.2 rfl) rfl
   have hRr:qY base C wr (TB.mk ⟨mn,mrg,mkl,⟨some ⟨b,o,none⟩,os.length,oc⟩,mar,mrs,msv,msl⟩ rS rM cS cM ⟨none,0,0⟩ none ag rs sv sr) ns ps rl:=hR0.out.but hC0.out hBr
   have hKr:zt base2 wr cS cM ns ps ks cl:=hK0.out.but hC0.out hBr
   have hLr:∀y,y∈rl->SetAt wr y.laps (lapsP ps y.plc):=fun y hy=>hst0.set (hlap0.out y hy) (by decide)
   have holl:ol.length=k:=by rw[hI.out.len,List.length_take];omega
   obtain⟨tb,htb⟩:∃tb,tb=TB.mk ⟨mn,mrg,mkl,⟨some ⟨b,o,none⟩,os.length,oc⟩,mar,mrs,msv,msl⟩ rS rM cS cM oS oM ag rs sv sr:=⟨_,rfl⟩
   have tbr:tb.rS=rS/\tb.rM=rM/\tb.cS=cS/\tb.cM=cM:=by rw[htb];exact⟨rfl,rfl,rfl,rfl⟩
   have Kn:∀W,Below wr.heap.size wr W->Calls Tryz.prog 109 #[.pointer (some ⟨C,0,none⟩),.slice qa qn qc] W fun e w'=>∃s':SlV,e = .returned (.slice s'.a s'.n s'.c)/\Below W.heap.size W w'/\w'.ownsRow W.heap.size 3 1 s'.v x.clob.length ((nums0 ns x.clob).map (Value.int .i64)):=fun W hb=>
    yC C base _ ns ⟨qa,qn,qc⟩ x.clob W (hCr.below hb hCr.lt) (hRr.map.below hb) (hcs.below hb) (by omega) f7
   have Kc:∀W (u:OperD),Below wr.heap.size wr W->u.cls.size<=281474976710656->u.fix.size<=281474976710656->Calls Tryz.prog 112 #[.pointer (some ⟨C,0,none⟩),.agg #[.string u.cls,.string u.fix]] W (SetPost (zD ns (ks.map (·.name)) (setsOf ns ks) u) W):=fun W u hb h1 h2=>
    qdY C (min base base2) _ ns (ks.map (·.name)) cl (setsOf ns ks) u W (hCr.below hb hCr.lt) ((hRr.map.below hb).mono (Nat.min_le_left _ _)) ((hKr.map.below hb).mono (Nat.min_le_right _ _)) (hKr.below hb).at_ (fun a _=>(hKr.below hb).sets a.toNat) h1 h2
   have Kl:∀W s,Below wr.heap.size wr W->IntsAt W s (nums0 ns x.clob)->Calls Tryz.prog 114 #[.pointer (some ⟨C,0,none⟩),.slice s.a s.n s.c] W (SetPost (fun n=>(nums0 ns x.clob).any fun a=>lapsN ps a n) W):=fun W s hb hs=>
    qct C _ rl (lapsN ps) s (nums0 ns x.clob) W (hCr.below hb hCr.lt) (hRr.below hb).at_ hs (by unfold nums0;rw[List.length_map];omega) (fun a _=>(hRr.below hb).laps (fun y hy=>(hLr y hy).below hb) a)
   have Ka:∀W s t kk,Below wr.heap.size wr W->Calls Tryz.prog 115 #[.pointer (some ⟨C,12,none⟩),.string x.name,.agg (OpT.mk s t kk).v] W
    (AddPostT 99 3 w.heap.size C (fun s M=>TB.mk ⟨mn,mrg,mkl,⟨some ⟨b,o,none⟩,os.length,oc⟩,mar,mrs,msv,msl⟩ rS rM cS cM s M ag rs sv sr) k (ol.flatMap (fun x=>x.v.toList)++(OpT.mk s t kk).v.toList) ((os.take k).map (·.name)++[x.name]) W):=fun W s t kk hb=>
    qdT w.heap.size C (TB.mk ⟨mn,mrg,mkl,⟨some ⟨b,o,none⟩,os.length,oc⟩,mar,mrs,msv,msl⟩ rS rM cS cM oS oM ag rs sv sr) k _ _ x.name (OpT.mk s t kk) W (hCr.below hb hCr.lt) (Nat.le_trans hBs hb.size) (by rw[←holl];exact qb hI.out.row hb) (by rw[List.length_map,List.length_take];omega) (by omega) (hI.out.map.below hb) hno f1
   have hend:∀W W' s kk e,Below wr.heap.size wr W->SetsIn 0 W s (mayPs ns ps ks x)->IntsR W kk (nums0 ns x.clob) ->
    AddPostT 99 3 w.heap.size C (fun s M=>TB.mk ⟨mn,mrg,mkl,⟨some ⟨b,o,none⟩,os.length,oc⟩,mar,mrs,msv,msl⟩ rS rM cS cM s M ag rs sv sr) k (ol.flatMap (fun x=>x.v.toList)++(OpT.mk s x.tie kk).v.toList) ((os.take k).map (·.name)++[x.name]) W e W' ->
    e = .returned (.tuple #[])/\∃ (oS:SlV) (oM:Option Nat) (ol:List OpT),Cells W' C 88 (TB.mk ⟨mn,mrg,mkl,⟨some ⟨b,o,none⟩,os.length,oc⟩,mar,mrs,msv,msl⟩ rS rM cS cM oS oM ag rs sv sr).cells/\qo w.heap.size C w W'/\xh w.heap.size W' oS oM ns ps ks (os.take (k+1)) ol:=fun W W' s kk e hb h1 h2 ⟨he,a1,a2,s2,M2,a3,a4,a5⟩=>by
    have hI2:=hI.out.below hb
    refine⟨he,s2,M2,ol++[OpT.mk s x.tie kk],a3,(hBr.step hb (Nat.le_refl _)).trans a1,⟨?_,?_,?_,?_⟩⟩
    ·rw[List.length_append,List.length_singleton,holl,List.flatMap_append]
     simpa using a4
    ·rw[htk.out,List.map_append];exact a5
    ·rw[htk.out,List.length_append,List.length_append,hI2.len];rfl
    ·intro i y z hy hz
     rw[htk.out] at hz
     by_cases hik:i<k
     ·rw[List.getElem?_append_left (by rw[holl];exact hik)] at hy
      rw[List.getElem?_append_left (by rw[List.length_take];omega)] at hz
      obtain⟨g1,g2,g3⟩:=hI2.each i y z hy hz
      exact⟨g1.stays a2 (by decide) (by decide),g2,a2.row g3 (by decide)⟩
     ·have hyl:=(List.getElem?_eq_some_iff.1 hy).1
      rw[List.length_append,List.length_singleton,holl] at hyl
      have hik2:i=k:=by omega
      subst hik2
      rw[List.getElem?_append_right (by rw[holl];exact Nat.le_refl _),holl,Nat.sub_self] at hy
      rw[List.getElem?_append_right (by rw[List.length_take];omega),List.length_take,Nat.min_eq_left (by omega),Nat.sub_self] at hz
      cases hy
      cases hz
      exact⟨h1.stays a2 (by decide) (by decide),rfl,a2.row h2 (by decide)⟩
   have hmay:Hid (mayPs ns ps ks x=(fun n=>zD ns (ks.map (·.name)) (setsOf ns ks) x.d n && !((nums0 ns x.clob).any fun a=>lapsN ps a n))::x.uses.map (zD ns (ks.map (·.name)) (setsOf ns ks))):=Lib.hid rfl
   have hcl0:∃n:Nat,n=x.clob.length/\n<=1000:=⟨_,rfl,f6⟩
   obtain⟨nn,hnn,hn1⟩:=hcl0
   have hnl:Hid ((nums0 ns x.clob).length=nn):=Lib.hid (by unfold nums0;rw[List.length_map,hnn])
   rw[←hnn] at Kn
   simp only[OpT.v] at Ka hend
   replace Kn:=Lib.hid Kn
   replace Kc:=Lib.hid Kc
   replace Kl:=Lib.hid Kl
   replace Ka:=Lib.hid Ka
   replace hend:=Lib.hid hend
   replace hus:=Lib.hid hus
   replace f5:=Lib.hid f5
   have hun:=hus.out.1
   dsimp only at hun
   subst hun
   have Kd:=Lib.hid fun W (hb:Below wr.heap.size wr W)=>Kc.out W x.d hb f2 f3
   generalize nums0 ns x.clob=V at *
   generalize hM:mayPs ns ps ks x=MM at *
   generalize hCP:zD ns (ks.map (·.name)) (setsOf ns ks)=CP at *
   obtain⟨xn,⟨dc,df⟩,us,xt,xk⟩:=x
   dsimp only at *
   have hcb:=Cells.new wr 54 #[.string xn,.string dc,.string df,.slice ua us.length uc,.int .i64 xt,.slice qa qn qc]
   replace hcb:=Lib.hid hcb
   have hbx:Below wr.heap.size wr (wr.alloc (.cells #[.string xn,.string dc,.string df,.slice ua us.length uc,.int .i64 xt,.slice qa qn qc] 54)):=qe
   have hcp:Hid (∀ (j:Nat) u,us[j]?=some u->MM[j+1]?=some (CP u)):=Lib.hid fun j u hj=>by rw[hmay.out,List.getElem?_cons_succ,List.getElem?_map,hj];rfl
   have hml:Hid (MM.length=us.length+1):=Lib.hid (by rw[hmay.out,List.length_cons,List.length_map])
   have hm0:Hid (MM[0]?=some (fun n=>CP ⟨dc,df⟩ n && !(V.any fun a=>lapsN ps a n))):=Lib.hid (by rw[hmay.out];rfl)
   clear hxk hmem f1 f2 f3 f6 f7 hcs hno hRr hKr hLr holl hI hCr hnn hM hCP hmay tbr htb hst0
   have hP:∀W,Below (wr.alloc (.cells #[.string xn,.string dc,.string df,.slice ua us.length uc,.int .i64 xt,.slice qa qn qc] 54)).heap.size (wr.alloc (.cells #[.string xn,.string dc,.string df,.slice ua us.length uc,.int .i64 xt,.slice qa qn qc] 54)) W->W.cell? ⟨wr.heap.size,0,none⟩=some (.string xn)/\W.cell? ⟨wr.heap.size,1,none⟩=some (.string dc)/\W.cell? ⟨wr.heap.size,2,none⟩=some (.string df)/\W.cell? ⟨wr.heap.size,3,none⟩=some (.slice ua us.length uc)/\W.cell? ⟨wr.heap.size,4,none⟩=some (.int .i64 xt)/\W.cell? ⟨wr.heap.size,5,none⟩=some (.slice qa qn qc):=fun W hb=>by
    have a:=hcb.out.below hb hcb.out.lt
    exact⟨a.cell rfl,a.cell rfl,a.cell rfl,a.cell rfl,a.cell rfl,a.cell rfl⟩
   replace hP:=Lib.hid hP
   have KS:=fun W s t h1 h2=>qhN s t (CP ⟨dc,df⟩) (fun n=>V.any fun a=>lapsN ps a n) W h1 h2
   have hQQ:∃QQ,QQ=fun n=>CP ⟨dc,df⟩ n && !(V.any fun a=>lapsN ps a n):=⟨_,rfl⟩
   obtain⟨QQ,hQQ⟩:=hQQ
   rw[←hQQ] at KS hm0
   replace KS:=Lib.hid KS
   clear hQQ
   go_wp2_with (first
    |(go_at_call 109;refine(Kn.out _ hbx).mono ?_;rintro e W2 ⟨⟨sa,sn,sc⟩,rfl,hb2,hrow⟩;have hA2:=hbx.trans (hb2.mono hbx.size);have hIR:Hid (IntsR W2 ⟨sa,sn,sc⟩ V):=Lib.hid (by(unfold IntsR;rw[hnl.out];exact qj hrow (Nat.zero_le _)));clear hrow;obtain⟨r0,r1,r2,r3,r4,r5⟩:=hP.out _ hb2)
    |(go_at_call 112;refine(Kd.out _ hA2).mono ?_;rintro e W3 ⟨hb3,⟨da,dn,dcc⟩,rfl,hs3⟩;have hA3:=hA2.trans (hb3.mono hA2.size);replace hs3:=Lib.hid hs3)
    |(go_at_call 114;refine(Kl.out _ ⟨sa,sn,sc⟩ hA3 (hIR.out.below hb3).at_).mono ?_;rintro e W4 ⟨hb4,⟨la,ln,lc⟩,rfl,hs4⟩;have hA4:=hA3.trans (hb4.mono hA3.size);replace hs4:=Lib.hid hs4)
    |(go_at_call 113;refine(KS.out _ ⟨da,dn,dcc⟩ ⟨la,ln,lc⟩ (hs3.out.below hb4) hs4.out).mono ?_;rintro e W5 ⟨hb5,⟨za,zn,zc⟩,rfl,hs5⟩;have hA5:=hA4.trans (hb5.mono hA4.size);replace hs5:=Lib.hid hs5;have hB25:=hb3.trans ((hb4.mono hb3.size).trans (hb5.mono (Nat.le_trans hb3.size hb4.size)));obtain⟨v0,v1,v2,v3,v4,v5⟩:=hP.out _ (hb2.trans (hB25.mono hb2.size));have v3a:=fun o=>qf o v3))
   have hbm:Below W5.heap.size W5 (W5.alloc (.cells #[.slice za zn zc] 86)):=qe
   have hrow5:(W5.alloc (.cells #[.slice za zn zc] 86)).ownsRow W5.heap.size 86 1 (.slice (some ⟨W5.heap.size,0,none⟩) 1 1) 1 [.slice za zn zc]:=
    jE (n:=1) (size:=1) (Cells.new W5 86 #[.slice za zn zc]) (Nat.le_refl _) rfl (by unfold maxLen;omega)
   have hin0:SetsIn W5.heap.size (W5.alloc (.cells #[.slice za zn zc] 86)) ⟨some ⟨W5.heap.size,0,none⟩,1,1⟩ (MM.take 1):=by
    refine⟨[⟨za,zn,zc⟩],?_,?_,fun i y p hy hp=>?_⟩
    ·rw[List.length_take,hml.out,Nat.min_eq_left (by omega)];exact hrow5
    ·rw[List.length_take,hml.out,Nat.min_eq_left (by omega)];rfl
    ·have hi0:i=0:=by have:=(List.getElem?_eq_some_iff.1 hy).1;simp at this;omega
     subst hi0
     rw[List.getElem?_take,if_pos (by omega),hm0.out] at hp
     cases hy
     cases hp
     exact hs5.out.below hbm
   have hV5:Hid (∀W,Below W5.heap.size W5 W->W.cell? ⟨wr.heap.size,0,none⟩=some (.string xn)/\W.cell? ⟨wr.heap.size,4,none⟩=some (.int .i64 xt)):=Lib.hid fun W hb=>⟨cell_below hb v0,cell_below hb v4⟩
   have hIR5:Hid (IntsR W5 ⟨sa,sn,sc⟩ V):=Lib.hid (hIR.out.below hB25)
   have hA5s:=hA5.size
   clear r0 r1 r2 r3 r4 r5 v0 v1 v2 v3 v4 v5 v3a hs3 hs4 hs5 hb2 hb3 hb4 hb5 hA2 hA3 hA4 hB25 hIR hP hcb hbx Kn Kl Kd KS hrow5 q0 q1 q2 q3 q4 q5
   generalize wr=w1 at *
   go_loopw [5,34] (fun may i wr=>∃ (j:Nat) (a:Option Addr) (c:Nat),j<=us.length/\i = .int .i64 j/\may = .slice a (j+1) c/\Below W5.heap.size W5 wr/\SetsIn W5.heap.size wr ⟨a,j+1,c⟩ (MM.take (j+1))) (fun _ i _=>us.length-(intOf i).toNat)
   case atStart=>exact⟨0,_,1,Nat.zero_le _,rfl,rfl,hbm,hin0⟩
   case round=>
    clear hbm hin0
    obtain⟨j,a,c,hj,rfl,rfl,hB,hin⟩:=hrel
    have j0:(0:Int)<=j:=Int.natCast_nonneg _
    have hBs5:=hB.size
    by_cases hlt2:j<us.length
    ·obtain⟨⟨uc0,uf0⟩,hu⟩:∃u,us[j]?=some u:=⟨us[j],List.getElem?_eq_getElem hlt2⟩
     obtain⟨ub,uo,e1,p0,p1⟩:=hus.out.2.2 j _ hu
     dsimp only at e1 p0 p1
     subst e1
     obtain⟨g1,g2⟩:=f5.out _ (List.mem_of_getElem? hu)
     have hAr:=hA5.trans (hB.mono hA5s)
     replace p0:=cell_below hAr p0
     replace p1:=cell_below hAr p1
     have hi2:IntKind.i64.wrap ((j:Int)+1)=j+1:=IntWalk.i64_in _ (by omega)
     have j1:(j:Int)<us.length:=by omega
     have hbx:Below wr.heap.size wr (wr.alloc (.cells #[.string uc0,.string uf0] 51)):=qe
     have K:=Kc.out _ ⟨uc0,uf0⟩ (hAr.trans (hbx.mono hAr.size)) g1 g2
     have hmj:=Lib.hid (hcp.out j _ hu)
     have hul:us.length<=1000:=f4
     generalize CP ⟨uc0,uf0⟩=Q at *
     dsimp only at K
     replace hin:=Lib.hid hin
     obtain⟨i0,hi0,hz0,hz1,hz2⟩:=info_parts Tryz.infoSetT
     clear hu g1 g2
     go_wp2_with (first
      |(go_at_call 112;refine K.mono ?_;clear K;rintro e W6 ⟨hb6,⟨ya,yn,yc⟩,rfl,hs6⟩;have hb61:=hbx.trans (hb6.mono hbx.size);obtain⟨ms,hrow6,hms,hmp⟩:=hin.out.below hb61;rw[List.length_take,hml.out,Nat.min_eq_left (by omega)] at hrow6 hms;have hb6s:=hb61.size;replace hs6:=Lib.hid hs6;replace hmp:=Lib.hid hmp;replace hms:=Lib.hid hms)
      |(at_builtin;go_loud (refine wpList_append_own_at _ rfl _ _ 97 rfl W5.heap.size 86 i0 _ 1 24 Tryz.underlying97 hi0 hz0 hz1 hz2 rfl (by decide) _ (j+1) _ rfl (hrow6.alloc _) ⟨W6.heap.size,0,none⟩ 1 1 [.slice ya yn yc] rfl rfl (qF _ _ _ _ rfl) (by simp[Value.oneCell']) (by unfold maxLen;omega) (by omega) (by simp;omega) ?_;intro v' W7 hown7 hgrow _ hblk;obtain⟨g',cap',rfl⟩:=ownsRow_succ hown7)))
     have hgr:=qq hgrow
     have hB7:Below W5.heap.size W5 W7:=(hB.trans (hb61.mono hBs5)).grown hgr (by omega) (fun i e=>(qd hrow6 e).1)
     have hst7:Stays [86] W6 W7:=Stays.of_grown hrow6 (by simp) hgr
     have hlast:MM.take (j+1+1)=MM.take (j+1)++[Q]:=by rw[List.take_add_one (i:=j+1),hmj.out];rfl
     refine⟨⟨j+1,_,_,by omega,by go_num,rfl,hB7,ms++[⟨ya,yn,yc⟩],?_,?_,?_⟩,by simp[intOf];omega⟩
     ·rw[List.length_take,hml.out,Nat.min_eq_left (by omega),List.map_append];exact hown7
     ·rw[List.length_take,hml.out,Nat.min_eq_left (by omega),List.length_append,hms.out];rfl
     ·intro i y p hy hp
      rw[hlast] at hp
      by_cases hij:i<j+1
      ·rw[List.getElem?_append_left (by rw[hms.out];exact hij)] at hy
       rw[List.getElem?_append_left (by rw[List.length_take,hml.out];omega)] at hp
       exact hst7.set (hmp.out i y p hy hp) (by decide)
      ·have hyl:=(List.getElem?_eq_some_iff.1 hy).1
       rw[List.length_append,List.length_singleton,hms.out] at hyl
       have hij2:i=j+1:=by omega
       subst hij2
       rw[List.getElem?_append_right (by rw[hms.out];exact Nat.le_refl _),hms.out,Nat.sub_self] at hy
       rw[List.getElem?_append_right (by rw[List.length_take,hml.out];omega),List.length_take,hml.out,Nat.min_eq_left (by omega),Nat.sub_self] at hp
       cases hy
       cases hp
       exact hst7.set hs6.out (by decide)
    ·obtain rfl:j=us.length:=by omega
     rw[List.take_of_length_le (by rw[hml.out];exact Nat.le_refl _)] at hin
     obtain⟨v0,v4⟩:=hV5.out wr hB
     have hAr:=hA5.trans (hB.mono hA5s)
     have hin':Hid (SetsIn 0 wr ⟨a,us.length+1,c⟩ MM):=Lib.hid (by obtain⟨ms,h1,h2,h3⟩:=hin;exact⟨ms,qj h1 (Nat.zero_le _),h2,h3⟩)
     have hIRr:=Lib.hid (hIR5.out.below hB)
     clear hin hcp hml hm0 hus
     go_wp2_with fail
     go_still_tail 10,(by kernel_rfl)
     change wpList _ _ _ _ _ wr.drew
     go_wp2_with (go_at_call 115;refine(Ka.out _ ⟨a,us.length+1,c⟩ xt ⟨sa,sn,sc⟩ hAr.drew).mono ?_;intro e W8 hap;obtain⟨rfl,hap2⟩:=hend.out _ _ ⟨a,us.length+1,c⟩ ⟨sa,sn,sc⟩ _ hAr.drew hin'.out hIRr.out hap;clear hap;replace hap2:=Lib.hid hap2)
     obtain⟨oS',oM',ol',b1,b2,b3⟩:=hap2.out
     exact⟨⟨k+1,oS',oM',ol',by omega,by go_num,b1,b2,Lib.hid b3⟩,by simp[intOf];omega⟩
  ·obtain rfl:k=os.length:=by omega
   rw[List.take_length] at hI
   have hfin:Hid (Qg C (TB.mk ⟨mn,mrg,mkl,⟨oa,os.length,oc⟩,mar,mrs,msv,msl⟩ rS rM cS cM ⟨none,0,0⟩ none ag rs sv sr) ns ps ks os w (.returned (.tuple #[])) wr):=Lib.hid ⟨rfl,hBr,oS,oM,ol,hCr,hI.out⟩
   clear hCr hBr hI
   go_wp2_with fail
   go_end0
   exact hfin.out
def xX(p q:Plc):Bool:=decide (p.1=q.1)&&(decide (q.2.1<=p.2.1)&&decide (p.2.1+p.2.2<=q.2.1+q.2.2))
theorem qcv(p q:Plc)(w:World)(hp:PlcOk p)(hq:PlcOk q) :
 Calls Tryz.prog 117 #[.agg #[.int .i64 p.1,.int .i64 p.2.1,.int .i64 p.2.2],.agg #[.int .i64 q.1,.int .i64 q.2.1,.int .i64 q.2.2]] w fun e w'=>e = .returned (.bool (xX p q))/\Below w.heap.size w w':=by
 obtain⟨p1,p2,p3⟩:=p
 obtain⟨q1,q2,q3⟩:=q
 obtain⟨a1,a2,a3,a4⟩:=hp
 obtain⟨b1,b2,b3,b4⟩:=hq
 dsimp only at a1 a2 a3 a4 b1 b2 b3 b4 ⊢
 have hB0:Below w.heap.size w ((w.alloc (.cells #[.int .i64 p1,.int .i64 p2,.int .i64 p3] 94)).alloc (.cells #[.int .i64 q1,.int .i64 q2,.int .i64 q3] 94)):=qe.alloc (by simp) _
 by_cases h:p1=q1
 ·subst h
  have K:=fun W=>yb p1 q2 q3 p2 W b1 b2 (by omega) b4 a1 a2
  have hv:Hid (xX (p1,p2,p3) (p1,q2,q3)=decide (p3<=bitsB q2 q3 p2)):=Lib.hid (by
   unfold xX bitsB
   rw[Bool.eq_iff_iff]
   simp only[Bool.and_eq_true,decide_eq_true_eq,decide_true,true_and]
   split <;> omega)
  have hw3:IntKind.u64.wrap p3=p3:=by rw[IntKind.wrap_u64];omega
  have hlt:decide (p3<1)=false:=decide_eq_false (by omega)
  generalize bitsB q2 q3 p2=B at *
  obtain⟨w0,hw0⟩:∃w0,w0=(w.alloc (.cells #[.int .i64 p1,.int .i64 p2,.int .i64 p3] 94)).alloc (.cells #[.int .i64 p1,.int .i64 q2,.int .i64 q3] 94):=⟨_,rfl⟩
  have h1:Cells w0 w.heap.size 94 #[.int .i64 p1,.int .i64 p2,.int .i64 p3]:=by rw[hw0];exact(Cells.new w _ _).alloc _
  have h2:Cells w0 (w.heap.size+1) 94 #[.int .i64 p1,.int .i64 q2,.int .i64 q3]:=by
   have:=Cells.new (w.alloc (.cells #[.int .i64 p1,.int .i64 p2,.int .i64 p3] 94)) 94 #[.int .i64 p1,.int .i64 q2,.int .i64 q3]
   rw[hw0];simpa using this
  have hread:∀W,Below w0.heap.size w0 W->W.cell? ⟨w.heap.size,0,none⟩=some (.int .i64 p1)/\W.cell? ⟨w.heap.size,1,none⟩=some (.int .i64 p2)/\W.cell? ⟨w.heap.size,2,none⟩=some (.int .i64 p3)/\W.cell? ⟨w.heap.size+1,0,none⟩=some (.int .i64 p1)/\W.cell? ⟨w.heap.size+1,1,none⟩=some (.int .i64 q2)/\W.cell? ⟨w.heap.size+1,2,none⟩=some (.int .i64 q3):=fun W hb=>by
   have a:=h1.below hb h1.lt
   have b:=h2.below hb h2.lt
   exact⟨a.cell rfl,a.cell rfl,a.cell rfl,b.cell rfl,b.cell rfl,b.cell rfl⟩
  have hS0:=hread _ (Below.refl _ _)
  have hA0:Below w0.heap.size w0 w0.drew:=(Below.refl _ _).drew
  rw[←hw0] at hB0
  clear h1 h2
  go_enter Tryz.func117,Tryz.ntmps117
  go_wp2_with fail
  rw[←hw0]
  clear hw0
  go_region_held3 (fun w'=>w'.cell? ⟨w.heap.size,0,none⟩=some (.int .i64 p1)/\w'.cell? ⟨w.heap.size,1,none⟩=some (.int .i64 p2)/\w'.cell? ⟨w.heap.size,2,none⟩=some (.int .i64 p3)/\w'.cell? ⟨w.heap.size+1,0,none⟩=some (.int .i64 p1)/\w'.cell? ⟨w.heap.size+1,1,none⟩=some (.int .i64 q2)/\w'.cell? ⟨w.heap.size+1,2,none⟩=some (.int .i64 q3))
   (go_keep)
   ((first
     |(go_at_call 154;refine(K _).mono ?_;clear K;rintro e W1 ⟨rfl,hb1⟩;have hA1:=hA0.trans hb1;have hS1:=hread _ hA1)))
  go_wp2_with fail
  go_ret
  exact⟨qg (by rw[hv.out]),hB0.trans (hA1.mono hB0.size)⟩
 ·have hv:Hid (xX (p1,p2,p3) (q1,q2,q3)=false):=Lib.hid (by unfold xX;rw[decide_eq_false h];rfl)
  have h2:(p1==q1)=false:=by simpa using h
  have h3:decide (p1=q1)=false:=by simpa using h
  go_enter Tryz.func117,Tryz.ntmps117
  go_wp2_with fail
  go_quiet (fail)
  go_wp2_with fail
  go_ret
  exact⟨qg hv.out.symm,below_drewN hB0 _⟩
def jU(ps:List Plc)(a:Int)(n:Nat):Bool:=decide (n<ps.length)&&xX (ps.getD n (0,0,0)) (plc ps a)
theorem qdZ(C Bt Bs base:Nat)(tb:TB)(ns:List ByteArray)(ps:List Plc)(rl:List RegT)(p:Plc)(a:Int)(w:World)(hC:Cells w C 88 tb.cells)(hR:qY base C w tb ns ps rl)(hp:PlcOk p)(ha:0<=a)(hq:PlcOk (plc ps a))
 (ht:Cells w Bt 30 #[.pointer (some ⟨C,0,none⟩)]) (hs:Cells w Bs 3 #[.int .i64 a]) :
 Calls Tryz.prog 116 #[.agg #[.int .i64 p.1,.int .i64 p.2.1,.int .i64 p.2.2],.pointer (some ⟨Bt,0,none⟩),.pointer (some ⟨Bs,0,none⟩)] w fun e w'=>e = .returned (.bool (xX p (plc ps a)))/\Below w.heap.size w w':=by
 have hplc:=yE hR.places ha
 have K1:∀W,Below w.heap.size w W->Calls Tryz.prog 74 #[.pointer (some ⟨C,0,none⟩),.int .i64 a] W fun e w'=>e = .returned (.agg #[.int .i64 (plc ps a).1,.int .i64 (plc ps a).2.1,.int .i64 (plc ps a).2.2])/\Below W.heap.size W w':=fun W hb=>by
  have hCW:=hC.below hb hC.lt
  have:=qaR C tb.rS (.map tb.rM) rl a W (hCW.cell rfl) (hCW.cell rfl) (hR.below hb).at_
  rw[←hplc]
  exact this
 have K2:=fun W=>qcv p (plc ps a) W hp hq
 generalize plc ps a=q at *
 obtain⟨p1,p2,p3⟩:=p
 obtain⟨q1,q2,q3⟩:=q
 dsimp only at K1 K2 ⊢
 have hx:=Cells.new w 94 #[.int .i64 p1,.int .i64 p2,.int .i64 p3]
 have hb0:Below w.heap.size w (w.alloc (.cells #[.int .i64 p1,.int .i64 p2,.int .i64 p3] 94)):=qe
 have hread:∀W,Below (w.alloc (.cells #[.int .i64 p1,.int .i64 p2,.int .i64 p3] 94)).heap.size (w.alloc (.cells #[.int .i64 p1,.int .i64 p2,.int .i64 p3] 94)) W->W.cell? ⟨w.heap.size,0,none⟩=some (.int .i64 p1)/\W.cell? ⟨w.heap.size,1,none⟩=some (.int .i64 p2)/\W.cell? ⟨w.heap.size,2,none⟩=some (.int .i64 p3)/\W.cell? ⟨Bt,0,none⟩=some (.pointer (some ⟨C,0,none⟩))/\W.cell? ⟨Bs,0,none⟩=some (.int .i64 a):=fun W hb=>by
  have x:=hx.below hb hx.lt
  have t:=(ht.below hb0 ht.lt).below hb (ht.below hb0 ht.lt).lt
  have s:=(hs.below hb0 hs.lt).below hb (hs.below hb0 hs.lt).lt
  exact⟨x.cell rfl,x.cell rfl,x.cell rfl,t.cell rfl,s.cell rfl⟩
 replace hread:=Lib.hid hread
 replace K1:=Lib.hid K1
 clear hC hR hx ht hs hplc
 go_enter Tryz.func116,Tryz.ntmps116
 go_wp2_with fail
 generalize w.alloc (.cells #[.int .i64 p1,.int .i64 p2,.int .i64 p3] 94)=w0 at *
 have hS0:=hread.out _ (Below.refl _ _)
 have hA0:Below w0.heap.size w0 w0.drew:=(Below.refl _ _).drew
 go_region_held3 (fun w'=>w'.cell? ⟨w.heap.size,0,none⟩=some (.int .i64 p1)/\w'.cell? ⟨w.heap.size,1,none⟩=some (.int .i64 p2)/\w'.cell? ⟨w.heap.size,2,none⟩=some (.int .i64 p3)/\w'.cell? ⟨Bt,0,none⟩=some (.pointer (some ⟨C,0,none⟩))/\w'.cell? ⟨Bs,0,none⟩=some (.int .i64 a))
  (go_keep)
  ((first
    |(go_at_call 74;refine(K1.out _ (hb0.trans (hA0.mono hb0.size))).mono ?_;rintro e W1 ⟨rfl,hb1⟩;have hA1:=hA0.trans hb1;have hS1:=hread.out _ hA1)
    |(go_at_call 117;refine(K2 _).mono ?_;clear K2;rintro e W2 ⟨rfl,hb2⟩;have hA2:=hA1.trans (hb2.mono hA1.size);have hS2:=hread.out _ hA2)))
 go_wp2_with fail
 go_ret
 exact⟨rfl,hb0.trans (hA2.mono hb0.size)⟩
theorem Zu(W:World)(b i j:Nat)(v:Value)(h:i≠j):(W.setCell ⟨b,i,none⟩ v).cell? ⟨b,j,none⟩=W.cell? ⟨b,j,none⟩:=
 World.cell?_setCell_other _ _ _ _ (fun e=>h (congrArg Addr.off e))
def xY(C:Nat)(tb:TB)(ns:List ByteArray)(ps:List Plc)(args:List ByteArray)(result:ByteArray)(saved:List ByteArray)(w:World)(e:Ending)(w':World):Prop:=
 e = .returned (.tuple #[])/\But C w w'/\∃ag sv sr:SlV,Cells w' C 88 { tb with args:=ag,result:=num0 ns result,saved:=sv,surv:=sr }.cells/\IntsR w' ag (nums0 ns args)/\IntsR w' sv (nums0 ns saved)/\SetAt w' sr (fun n=>(nums0 ns saved).any fun a=>jU ps a n)
theorem But.set{C j:Nat}{v:Value}{a b:World}(h:But C a b):But C a (b.setCell ⟨C,j,none⟩ v):=qo.set h v
theorem qY.same{base C:Nat}{W:World}{tb tb':TB}{ns:List ByteArray}{ps:List Plc}{rl:List RegT}(h:qY base C W tb ns ps rl)(h1:tb'.rS=tb.rS)(h2:tb'.rM=tb.rM):qY base C W tb' ns ps rl:=
 ⟨by rw[h1];exact h.row,by rw[h2];exact h.map,h.names,h.places⟩
theorem qaY(C base:Nat)(mn:ByteArray)(mrg mkl mop mar:SlV)(mrs:ByteArray)(msv:SlV)(msl:Int)(rS:SlV)(rM:Option Nat)(cS:SlV)(cM:Option Nat)(oS:SlV)(oM:Option Nat)(ns:List ByteArray)(ps:List Plc)(rl:List RegT)(args saved:List ByteArray)(w:World)
 (hC:Cells w C 88 (TB.mk ⟨mn,mrg,mkl,mop,mar,mrs,msv,msl⟩ rS rM cS cM oS oM ⟨none,0,0⟩ 0 ⟨none,0,0⟩ ⟨none,0,0⟩).cells) (hR:qY base C w (TB.mk ⟨mn,mrg,mkl,mop,mar,mrs,msv,msl⟩ rS rM cS cM oS oM ⟨none,0,0⟩ 0 ⟨none,0,0⟩ ⟨none,0,0⟩) ns ps rl)
 (hA:∀W,But C w W->StrsAt W mar args) (hS:∀W,But C w W->StrsAt W msv saved) (hal:args.length<=1000) (hsl:saved.length<=1000) (haz:∀s,s∈args->s.size<=281474976710656) (hsz:∀s,s∈saved->s.size<=281474976710656) (hrz:mrs.size<=281474976710656)
 (hok:∀p,p∈ps->PlcOk p) (hlen:ps.length<=1000) (hin:∀a,a∈nums0 ns saved->a<ps.length) :
 Calls Tryz.prog 69 #[.pointer (some ⟨C,0,none⟩)] w (xY C (TB.mk ⟨mn,mrg,mkl,mop,mar,mrs,msv,msl⟩ rS rM cS cM oS oM ⟨none,0,0⟩ 0 ⟨none,0,0⟩ ⟨none,0,0⟩) ns ps args mrs saved w):=by
 have hwl:=hC.lt
 have hb0:Below w.heap.size w (w.alloc (.cells #[.pointer (some ⟨C,0,none⟩)] 30)):=qe
 have ht:=Cells.new w 30 #[.pointer (some ⟨C,0,none⟩)]
 have hCB:=hC.below hb0 hwl
 have hRB:=hR.below hb0
 have hbut0:But C w (w.alloc (.cells #[.pointer (some ⟨C,0,none⟩)] 30)):=.of hb0
 have hne:C≠w.heap.size:=by omega
 have hne2:=Ne.symm hne
 replace hA:=Lib.hid hA
 replace hS:=Lib.hid hS
 replace haz:=Lib.hid haz
 replace hsz:=Lib.hid hsz
 replace hok:=Lib.hid hok
 replace hin:=Lib.hid hin
 clear hC hR
 go_enter Tryz.func69,Tryz.ntmps69
 go_wp2_with fail
 generalize w.alloc (.cells #[.pointer (some ⟨C,0,none⟩)] 30)=w0 at *
 have hread:∀W,Below w0.heap.size w0 W->W.cell? ⟨w.heap.size,0,none⟩=some (.pointer (some ⟨C,0,none⟩))/\W.cell? ⟨C,4,none⟩=some (.slice mar.a mar.n mar.c)/\W.cell? ⟨C,6,none⟩=some (.slice msv.a msv.n msv.c)/\(W.cell? ⟨C,14,none⟩=some (.slice none 0 0)/\W.frozen? ⟨C,14,none⟩=false/\W.cell? ⟨C,16,none⟩=some (.slice none 0 0)/\W.frozen? ⟨C,16,none⟩=false):=fun W hb=>by
  have t:=ht.below hb ht.lt
  have c:=hCB.below hb hCB.lt
  exact⟨t.cell rfl,c.cell rfl,c.cell rfl,c.cell rfl,c.frozen 14,c.cell rfl,c.frozen 16⟩
 have KN:∀W s l,Below w0.heap.size w0 W->StrsAt W s l->l.length<=1000->(∀x,x∈l->x.size<=281474976710656)->Calls Tryz.prog 109 #[.pointer (some ⟨C,0,none⟩),.slice s.a s.n s.c] W fun e w'=>∃s':SlV,e = .returned (.slice s'.a s'.n s'.c)/\Below W.heap.size W w'/\IntsR w' s' (nums0 ns l):=fun W s l hb hs h1 h2=>
  (yC C base _ ns s l W (hCB.below hb hCB.lt) (hRB.map.below hb) hs (by omega) h2).mono fun e w' ⟨s',he,hb',hr⟩=>⟨s',he,hb',by
    unfold IntsR nums0
    rw[List.length_map]
    exact qj hr (Nat.zero_le _)⟩
 have hS0:=hread _ (Below.refl _ _)
 have hA0:Below w0.heap.size w0 w0.drew:=(Below.refl _ _).drew
 have K1:∀W,Below w0.heap.size w0 W->Calls Tryz.prog 109 #[.pointer (some ⟨C,0,none⟩),.slice mar.a mar.n mar.c] W fun e w'=>∃s':SlV,e = .returned (.slice s'.a s'.n s'.c)/\Below W.heap.size W w'/\IntsR w' s' (nums0 ns args):=fun W hb=>KN W mar args hb (hA.out W (hbut0.step hb (by have:=hb0.size;exact Nat.le_refl _))) hal haz.out
 have K2:∀W,Below w0.heap.size w0 W->Calls Tryz.prog 109 #[.pointer (some ⟨C,0,none⟩),.slice msv.a msv.n msv.c] W fun e w'=>∃s':SlV,e = .returned (.slice s'.a s'.n s'.c)/\Below W.heap.size W w'/\IntsR w' s' (nums0 ns saved):=fun W hb=>KN W msv saved hb (hS.out W (hbut0.step hb (Nat.le_refl _))) hsl hsz.out
 have hr8:∀W,Below w0.heap.size w0 W->Cells W C 88 (TB.mk ⟨mn,mrg,mkl,mop,mar,mrs,msv,msl⟩ rS rM cS cM oS oM ⟨none,0,0⟩ 0 ⟨none,0,0⟩ ⟨none,0,0⟩).cells:=fun W hb=>hCB.below hb hCB.lt
 have ht':=Lib.hid ht
 have hRB':=Lib.hid hRB
 replace hread:=Lib.hid hread
 replace K1:=Lib.hid K1
 replace K2:=Lib.hid K2
 replace hr8:=Lib.hid hr8
 clear KN hCB hRB ht
 go_region_held3 (fun w'=>w'.cell? ⟨w.heap.size,0,none⟩=some (.pointer (some ⟨C,0,none⟩))/\w'.cell? ⟨C,4,none⟩=some (.slice mar.a mar.n mar.c)/\w'.cell? ⟨C,6,none⟩=some (.slice msv.a msv.n msv.c))
  (simp[*,World.cell?_setCell_far,Zu])
  ((first
    |(go_at_call 109;refine(K1.out _ hA0).mono ?_;clear K1;rintro e W1 ⟨⟨aa,an,ac⟩,rfl,hb1,hI1⟩;have hA1:=hA0.trans hb1;have hS1:=hread.out _ hA1;replace hI1:=Lib.hid hI1)
    |(go_at_call 109;refine(K2.out _ hA1).mono ?_;clear K2;rintro e W2 ⟨⟨va,vn,vc⟩,rfl,hb2,hI2⟩;have hA2:=hA1.trans (hb2.mono hA1.size);have hS2:=hread.out _ hA2;replace hI2:=Lib.hid hI2)))
 have hC2:=hr8.out W2 hA2
 have hC3:=(hC2.set (j:=14) (.slice aa an ac)).set (j:=16) (.slice va vn vc)
 have hbut3:But C w ((W2.setCell ⟨C,14,none⟩ (.slice aa an ac)).setCell ⟨C,16,none⟩ (.slice va vn vc)):=But.set (But.set (hbut0.step hA2 (Nat.le_refl _)))
 have hst3:Stays [88] W2 ((W2.setCell ⟨C,14,none⟩ (.slice aa an ac)).setCell ⟨C,16,none⟩ (.slice va vn vc)):=(Stays.of_set hC2 (by simp) _ _).trans (Stays.of_set (hC2.set (j:=14) (.slice aa an ac)) (by simp) _ _)
 have hI13:=Lib.hid (hst3.row (hI1.out.below hb2) (by decide))
 have hI23:=Lib.hid (hst3.row hI2.out (by decide))
 have ht3:=hst3.block _ _ _ (by decide) (ht'.out.below hA2 ht'.out.lt)
 have hR3:=(hRB'.out.below hA2)
 have hR3':qY base C ((W2.setCell ⟨C,14,none⟩ (.slice aa an ac)).setCell ⟨C,16,none⟩ (.slice va vn vc)) (TB.mk ⟨mn,mrg,mkl,mop,mar,mrs,msv,msl⟩ rS rM cS cM oS oM ⟨aa,an,ac⟩ 0 ⟨va,vn,vc⟩ ⟨none,0,0⟩) ns ps rl:=
  (hR3.but hC2 ((qo.refl _ _ _).set _ |>.set _)).same rfl rfl
 clear hS0 hS1 hS2 hA0 hA1 hC2 hR3 hb1 hb2 hI1 hI2 hr8 hread hRB' ht' hst3
 change Cells _ C _ (TB.mk ⟨mn,mrg,mkl,mop,mar,mrs,msv,msl⟩ rS rM cS cM oS oM ⟨aa,an,ac⟩ 0 ⟨va,vn,vc⟩ ⟨none,0,0⟩).cells at hC3
 generalize(W2.setCell ⟨C,14,none⟩ (.slice aa an ac)).setCell ⟨C,16,none⟩ (.slice va vn vc)=W3 at *
 clear hA2
 have hR3h:=Lib.hid hR3'
 have ht3h:=Lib.hid ht3
 have hC3h:=Lib.hid hC3
 have hread:∀W,Below W3.heap.size W3 W->W.cell? ⟨w.heap.size,0,none⟩=some (.pointer (some ⟨C,0,none⟩))/\W.cell? ⟨C,5,none⟩=some (.string mrs)/\(W.cell? ⟨C,15,none⟩=some (.int .i64 0)/\W.frozen? ⟨C,15,none⟩=false):=fun W hb=>by
  have t:=ht3h.out.below hb ht3h.out.lt
  have c:=hC3h.out.below hb hC3h.out.lt
  exact⟨t.cell rfl,c.cell rfl,c.cell rfl,c.frozen 15⟩
 have hS3:=hread _ (Below.refl _ _)
 have KR:=fun W (hb:Below W3.heap.size W3 W)=>qfC C base _ ns mrs W (hC3h.out.below hb hC3h.out.lt) (hR3h.out.map.below hb) hrz
 have hA3:Below W3.heap.size W3 W3.drew:=(Below.refl _ _).drew
 replace hread:=Lib.hid hread
 replace KR:=Lib.hid KR
 clear hC3 hR3' ht3
 go_wp2_with fail
 go_region_held3 (fun w'=>w'.cell? ⟨w.heap.size,0,none⟩=some (.pointer (some ⟨C,0,none⟩))/\w'.cell? ⟨C,5,none⟩=some (.string mrs))
  (simp[*,World.cell?_setCell_far,Zu])
  ((first
    |(go_at_call 72;refine(KR.out _ hA3).mono ?_;clear KR;rintro e W4 ⟨rfl,hb4⟩;have hA4:=hA3.trans hb4;have hS4:=hread.out _ hA4)))
 have hC4:=hC3h.out.below hA4 hC3h.out.lt
 have hC5:=hC4.set (j:=15) (.int .i64 (num0 ns mrs))
 have hst5:Stays [88] W4 (W4.setCell ⟨C,15,none⟩ (.int .i64 (num0 ns mrs))):=Stays.of_set hC4 (by simp) _ _
 have hbut5:But C w (W4.setCell ⟨C,15,none⟩ (.int .i64 (num0 ns mrs))):=But.set (hbut3.step hA4 (Nat.le_refl _))
 have hI15:=Lib.hid (hst5.row (IntsR.below (show IntsR W3 _ _ from hI13.out) hA4) (by decide))
 have hI25:=Lib.hid (hst5.row (IntsR.below (show IntsR W3 _ _ from hI23.out) hA4) (by decide))
 have ht5:=hst5.block _ _ _ (by decide) (ht3h.out.below hA4 ht3h.out.lt)
 have hR5:qY base C (W4.setCell ⟨C,15,none⟩ (.int .i64 (num0 ns mrs))) (TB.mk ⟨mn,mrg,mkl,mop,mar,mrs,msv,msl⟩ rS rM cS cM oS oM ⟨aa,an,ac⟩ (num0 ns mrs) ⟨va,vn,vc⟩ ⟨none,0,0⟩) ns ps rl:=
  ((hR3h.out.below hA4).but hC4 ((qo.refl _ _ _).set _)).same rfl rfl
 clear hS3 hS4 hA3 hb4 hread hI13 hI23 hR3h ht3h hC3h hC4 hst5 hbut3
 change Cells _ C _ (TB.mk ⟨mn,mrg,mkl,mop,mar,mrs,msv,msl⟩ rS rM cS cM oS oM ⟨aa,an,ac⟩ (num0 ns mrs) ⟨va,vn,vc⟩ ⟨none,0,0⟩).cells at hC5
 generalize W4.setCell ⟨C,15,none⟩ (.int .i64 (num0 ns mrs))=W5 at *
 clear hA4
 obtain⟨L,hL⟩:∃L,L=nums0 ns saved:=⟨_,rfl⟩
 have hLl:L.length<=1000:=by rw[hL];unfold nums0;rw[List.length_map];exact hsl
 have hL0:∀a,a∈L->0<=a:=fun a ha=>by
  rw[hL] at ha
  obtain⟨s,_,rfl⟩:=List.mem_map.1 ha
  exact YV ns s
 have hI2L:Hid (IntsR W5 ⟨va,vn,vc⟩ L):=Lib.hid (by rw[hL];exact hI25.out)
 have hin2:Hid (∀a,a∈L->a<ps.length):=Lib.hid (by rw[hL];exact hin.out)
 have hvn:vn=L.length:=hI2L.out.len
 have hgoal:∀W s,But C w W->Cells W C 88 (TB.mk ⟨mn,mrg,mkl,mop,mar,mrs,msv,msl⟩ rS rM cS cM oS oM ⟨aa,an,ac⟩ (num0 ns mrs) ⟨va,vn,vc⟩ s).cells->Stays [88] W5 W->SetAt W s (fun n=>L.any fun a=>jU ps a n) ->
  xY C (TB.mk ⟨mn,mrg,mkl,mop,mar,mrs,msv,msl⟩ rS rM cS cM oS oM ⟨none,0,0⟩ 0 ⟨none,0,0⟩ ⟨none,0,0⟩) ns ps args mrs saved w (.returned (.tuple #[])) W:=fun W s h1 h2 h3 h4=>
  ⟨rfl,h1,⟨aa,an,ac⟩,⟨va,vn,vc⟩,s,h2,h3.row hI15.out (by decide),h3.row hI25.out (by decide),by rw[←hL];exact h4⟩
 replace hgoal:=Lib.hid hgoal
 replace hL0:=Lib.hid hL0
 clear hI25 hI15 hL hin
 subst hvn
 have hC5h:=Lib.hid hC5
 have hR5h:=Lib.hid hR5
 have ht5h:=Lib.hid ht5
 have r1:=ht5.cell (j:=0) (v:=.pointer (some ⟨C,0,none⟩)) rfl
 have r2:=hC5.cell (j:=16) (v:=.slice va L.length vc) rfl
 clear hR5 ht5
 go_wp2_with fail
 go_loopw [43] (fun i wr=>∃ (k:Nat) (s:SlV),k<=L.length/\i = .int .i64 k/\Cells wr C 88 (TB.mk ⟨mn,mrg,mkl,mop,mar,mrs,msv,msl⟩ rS rM cS cM oS oM ⟨aa,an,ac⟩ (num0 ns mrs) ⟨va,L.length,vc⟩ s).cells/\But C w wr/\But C W5 wr/\Hid (SetAt wr s (fun n=>(L.take k).any fun a=>jU ps a n))) (fun i _=>L.length-(intOf i).toNat)
 case atStart=>exact⟨0,⟨none,0,0⟩,Nat.zero_le _,rfl,hC5,hbut5,qo.refl _ _ _,Lib.hid (SetAt.none _)⟩
 case round=>
  clear hC5 r1 r2 hbut5
  obtain⟨k,⟨ga,gn,gc⟩,hk,rfl,hCr,hBr,hB5,hS⟩:=hrel
  have k0:(0:Int)<=k:=Int.natCast_nonneg _
  have hst:=hB5.stays hC5h.out
  by_cases hlt:k<L.length
  ·obtain⟨x,hxk⟩:∃x,L[k]?=some x:=⟨L[k],List.getElem?_eq_getElem hlt⟩
   have hmem:=List.mem_of_getElem? hxk
   have hx0:=hL0.out x hmem
   have hx1:=hin2.out x hmem
   obtain⟨b,o,e1,c0⟩:=(IntsR.at_ (show IntsR wr ⟨va,L.length,vc⟩ L from hst.row hI2L.out (by decide))).2.2 k x hxk
   dsimp only at e1
   subst e1
   have hi:IntKind.i64.wrap ((k:Int)+1)=k+1:=IntWalk.i64_in _ (by omega)
   have k1:(k:Int)<L.length:=by omega
   have htr:=hst.block _ _ _ (by decide) ht5h.out
   have hRr:=hR5h.out.but hC5h.out hB5
   have hbx:Below wr.heap.size wr (wr.alloc (.cells #[.int .i64 x] 3)):=qe
   have hsx:=Cells.new wr 3 #[.int .i64 x]
   have hqok:PlcOk (plc ps x):=hok.out _ (by
    unfold plc
    rw[List.getD_eq_getElem?_getD,List.getElem?_eq_getElem (by omega:x.toNat<ps.length)]
    exact List.getElem_mem _)
   have hrlen:rl.length<=1000:=by rw[←hRr.places,List.length_map] at hlen;exact hlen
   have hrok:∀q,q∈rl->PlcOk q.plc:=fun q hq=>hok.out _ (by rw[←hRr.places];exact List.mem_map_of_mem hq)
   have hthp:jK rl (fun p=>xX p (plc ps x))=jU ps x:=by
    funext n
    rw[Jk,hRr.places];rfl
   have K:∀W,Below (wr.alloc (.cells #[.int .i64 x] 3)).heap.size (wr.alloc (.cells #[.int .i64 x] 3)) W ->
    Calls Tryz.prog 106 #[.pointer (some ⟨C,0,none⟩),.func (.func 116) #[] #[.pointer (some ⟨w.heap.size,0,none⟩),.pointer (some ⟨wr.heap.size,0,none⟩)]] W (SetPost (jU ps x) W):=fun W hb=>by
    have hA:=hbx.trans (hb.mono hbx.size)
    have:=qaV C w.heap.size wr.heap.size (TB.mk ⟨mn,mrg,mkl,mop,mar,mrs,msv,msl⟩ rS rM cS cM oS oM ⟨aa,an,ac⟩ (num0 ns mrs) ⟨some ⟨b,o,none⟩,L.length,vc⟩ ⟨ga,gn,gc⟩) rl (fun p=>xX p (plc ps x)) W (hCr.below hA hCr.lt) ((hRr.below hA).at_) hrlen
     (fun W' hb' q hq=>qdZ C w.heap.size wr.heap.size base _ ns ps rl q.plc x W' ((hCr.below hA hCr.lt).below hb' (hCr.below hA hCr.lt).lt) (((hRr.below hA).below hb').same rfl rfl) (hrok q hq) hx0 hqok ((htr.below hA htr.lt).below hb' (htr.below hA htr.lt).lt) ((hsx.below hb hsx.lt).below hb' (hsx.below hb hsx.lt).lt))
    rw[hthp] at this
    exact this
   have hrb:(fun n=>(L.take (k+1)).any fun a=>jU ps a n)=fun n=>(L.take k).any (fun a=>jU ps a n)||jU ps x n:=by
    funext n
    rw[List.take_add_one,hxk,List.any_append]
    simp
   have hmf:∀ (fn:Fn) (first cap:Array Value) (w:World),(Instr.makeFunc fn first cap).run Tryz.prog w = .ok (.func fn first cap) w:=fun _ _ _ _=>rfl
   have hP:∀W,Below wr.heap.size wr W->Cells W C 88 (TB.mk ⟨mn,mrg,mkl,mop,mar,mrs,msv,msl⟩ rS rM cS cM oS oM ⟨aa,an,ac⟩ (num0 ns mrs) ⟨some ⟨b,o,none⟩,L.length,vc⟩ ⟨ga,gn,gc⟩).cells/\Cells W w.heap.size 30 #[.pointer (some ⟨C,0,none⟩)]/\SetAt W ⟨ga,gn,gc⟩ (fun n=>(L.take k).any fun a=>jU ps a n):=fun W hb=>⟨hCr.below hb hCr.lt,htr.below hb htr.lt,hS.out.below hb⟩
   have hsP:=Lib.hid hrb
   obtain⟨SP,hSP⟩:∃SP,SP=jU ps x:=⟨_,rfl⟩
   rw[←hSP] at K hrb
   replace hSP:=Lib.hid hSP
   replace hrb:=Lib.hid hrb
   replace K:=Lib.hid K
   replace hP:=Lib.hid hP
   have hBs:=hBr.size
   have hB5s:=hB5.size
   have htc:=htr.cell (j:=0) (v:=.pointer (some ⟨C,0,none⟩)) rfl
   have htca:=cell_below hbx htc
   have hwrC:C<wr.heap.size:=hCr.lt
   have hwrt:w.heap.size<wr.heap.size:=htr.lt
   clear hxk hmem hx0 hx1 htr hRr hsx hqok hrlen hrok hthp hS hCr hst hsP
   go_wp2_with (go_at_call 106;refine(K.out _ (Below.refl _ _)).mono ?_;rintro e W6 ⟨hb6,⟨za,zn,zc⟩,rfl,hz⟩;have hA6:=hbx.trans (hb6.mono hbx.size);replace hz:=Lib.hid hz;have h6c:=cell_below hA6 htc)
   have hbz:Below W6.heap.size W6 (W6.alloc (.cells #[.slice za zn zc] 86)):=qe
   have hA7:=hA6.trans (hbz.mono hA6.size)
   obtain⟨hC7,ht7,hS7⟩:=hP.out _ hA7
   have hz7:=Lib.hid (hz.out.below hbz)
   have hzc:=Cells.new W6 86 #[.slice za zn zc]
   clear hb6 hbz hz h6c hA6
   generalize W6.alloc (.cells #[.slice za zn zc] 86)=W7 at *
   generalize W6.heap.size=B6 at *
   have s1:=ht7.cell (j:=0) (v:=.pointer (some ⟨C,0,none⟩)) rfl
   have s2:=hC7.cell (j:=17) (v:=.slice ga gn gc) rfl
   have s3:=hzc.cell (j:=0) (v:=.slice za zn zc) rfl
   have s4:=hC7.frozen 17
   have hC7h:=Lib.hid hC7
   have ht7h:=Lib.hid ht7
   have hS7h:=Lib.hid hS7
   have KO:∀W,Below W7.heap.size W7 W->Calls Tryz.prog 118 #[.agg #[.slice ga gn gc],.agg #[.slice za zn zc]] W (SetPost (fun n=>(L.take (k+1)).any fun a=>jU ps a n) W):=fun W hb=>by
    have:=qhM ⟨ga,gn,gc⟩ ⟨za,zn,zc⟩ _ _ W (hS7h.out.below hb) (hz7.out.below hb)
    rw[hrb.out]
    exact this
   have hb7:Below W7.heap.size W7 W7.drew:=(Below.refl _ _).drew
   have hP7:∀W,Below W7.heap.size W7 W->W.cell? ⟨w.heap.size,0,none⟩=some (.pointer (some ⟨C,0,none⟩))/\W.cell? ⟨C,17,none⟩=some (.slice ga gn gc)/\W.frozen? ⟨C,17,none⟩=false/\Cells W C 88 (TB.mk ⟨mn,mrg,mkl,mop,mar,mrs,msv,msl⟩ rS rM cS cM oS oM ⟨aa,an,ac⟩ (num0 ns mrs) ⟨some ⟨b,o,none⟩,L.length,vc⟩ ⟨ga,gn,gc⟩).cells:=fun W hb=>by
    have c:=hC7h.out.below hb hC7h.out.lt
    exact⟨(ht7h.out.below hb ht7h.out.lt).cell rfl,c.cell rfl,c.frozen 17,c⟩
   obtain⟨QQ,hQQ⟩:∃QQ,QQ=fun n=>(L.take (k+1)).any fun a=>jU ps a n:=⟨_,rfl⟩
   rw[←hQQ] at KO
   replace hQQ:=Lib.hid hQQ
   replace KO:=Lib.hid KO
   replace hP7:=Lib.hid hP7
   clear hC7 ht7 hS7 hzc
   go_wp2_with fail
   go_region_law (go_simp;go_at_call 118;refine(KO.out _ hb7).mono ?_;rintro e W8 ⟨hb8,⟨ya,yn,yc⟩,rfl,hy⟩;have hA8:=hb7.trans hb8;obtain⟨u1,u2,u3,u4⟩:=hP7.out _ hA8;replace hy:=Lib.hid hy)
   all_goals
    go_wp2_with fail
    have hA78:=hA7.trans (hA8.mono hA7.size)
    refine⟨⟨k+1,⟨ya,yn,yc⟩,by omega,by go_num,u4.set (j:=17) _,But.set (hBr.step hA78 (Nat.le_refl _)),But.set (hB5.step hA78 (Nat.le_refl _)),?_⟩,by simp[intOf];omega⟩
    rw[←hQQ.out]
    exact Lib.hid (hy.out.set_other _ u2 (fun x hx=>by cases hx))
  ·obtain rfl:k=L.length:=by omega
   rw[List.take_length] at hS
   have hfin:=Lib.hid (hgoal.out wr ⟨ga,gn,gc⟩ hBr hCr hst hS.out)
   clear hS hCr hBr hB5 hst
   go_wp2_with fail
   go_end0
   exact hfin.out
end Go.Proofs.YtkoloennfejaaaaGreatDoor
