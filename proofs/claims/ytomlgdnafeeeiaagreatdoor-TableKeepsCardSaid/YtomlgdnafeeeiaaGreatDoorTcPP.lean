
import Derived.Test.YtomlgdnafeeeiaaGreatDoorTcLP
import Derived.Test.YtomlgdnafeeeiaaGreatDoorTcIP
set_option maxHeartbeats 16000000
set_option maxRecDepth 100000
/-
 table.Make of any machine.
-/
namespace Go.Proofs.YtomlgdnafeeeiaaGreatDoor
open Proofs.Tryz
open Go.RowKit
theorem qaj{d:qz}{L:qg}(h:zV qj d (zB L) (qC L) (qQ L)=0):qj d.name=true/\zB L=0/\qC L ≠ []/\qy qj (qC L) (qQ L) d.classes=0/\jf (qC L) (qQ L) d.classes d.ops=0/\qL (qC L) (qQ L) d.args d.result d.saved d.slots=true:=by
 unfold zV at h
 split at h
 ·cases h
 ·rename_i h1
  split at h
  ·rename_i h2;exact absurd h h2
  ·rename_i h2
   split at h
   ·cases h
   ·rename_i h3
    split at h
    ·rename_i h4;exact absurd h h4
    ·rename_i h4
     split at h
     ·rename_i h5;exact absurd h h5
     ·rename_i h5
      split at h
      ·cases h
      ·rename_i h6
       exact⟨by simpa using h1,Classical.not_not.1 h2,h3,Classical.not_not.1 h4,Classical.not_not.1 h5,by simpa using h6⟩
theorem Xg(nm:ByteArray->Bool):∀ (l:List (qA×List zt)) (names:List ByteArray),qw nm names l=0->names.Nodup->(names++l.map fun q=>q.1.name).Nodup
 | [],names,_,hn=>by simpa using hn
 |p::r,names,h,hn=>by
  have h0:zK nm names p=0:=by
   by_cases h0:zK nm names p=0
   ·exact h0
   ·exfalso
    unfold qw at h
    rw[if_neg h0] at h
    exact h0 h
  have h1:qw nm (names++[p.1.name]) r=0:=by
   unfold qw at h
   rw[if_pos h0] at h
   exact h
  have hno:p.1.name∉names:=fun hm=>by
   unfold zK at h0
   split at h0
   ·cases h0
   ·split at h0
    ·cases h0
    ·split at h0
     ·cases h0
     ·rename_i h5
      exact h5 (.inr (vU.2 ⟨_,hm,by unfold eqB;simp⟩))
  have h2:=Xg nm r (names++[p.1.name]) h1 (List.nodup_append.2 ⟨hn,by simp,fun a ha b hb=>by rw[List.mem_singleton.1 hb];exact fun e=>hno (e ▸ ha)⟩)
  simpa[List.append_assoc] using h2
theorem qcg{L:qg}(h:zB L=0):(qC L).Nodup:=by
 have:=Xg qj (qH 0 L) [] h List.nodup_nil
 unfold qC
 rw[←zz,List.map_map]
 simpa[Function.comp_def] using this
theorem qeB{α:Type}{f:α->ByteArray}{l:List α}{s:ByteArray}(h:¬ 0<=zM (fun x=>eqB (f x) s) l):s∉l.map f:=fun hm=>by
 obtain⟨x,hx,he⟩:=List.mem_map.1 hm
 rcases xh (fun x=>eqB (f x) s) l with⟨_,h2⟩|⟨k,_,h1,_⟩
 ·have:=h2 x hx
  unfold eqB at this
  simp[he] at this
 ·rw[h1] at h
  exact h (vN _)
theorem Zq(nm:ByteArray->Bool)(ns:List ByteArray)(ps:List Plc):∀ (cs pre:List qp),zA nm ns ps pre cs=0->(pre.map (·.name)).Nodup->((pre++cs).map (·.name)).Nodup
 | [],pre,_,hn=>by simpa using hn
 |k::rest,pre,h,hn=>by
  unfold zA at h
  split at h
  ·rename_i h0
   have hno:k.name∉pre.map (·.name):=by
    unfold zT at h0
    split at h0
    ·cases h0
    ·rename_i h1
     refine qeB (f:=fun x:qp=>x.name) fun h2=>h1 ?_
     rw[vT h2];simp
   have h2:=Zq nm ns ps rest (pre++[k]) h (by
    rw[kM]
    exact List.nodup_append.2 ⟨hn,by simp,fun a ha b hb=>by
     have hb2:b=k.name:=by simpa using hb
     rw[hb2]
     exact fun e=>hno (e ▸ ha)⟩)
   simpa[List.append_assoc] using h2
  ·rename_i h0;exact absurd h h0
theorem Yd(ns:List ByteArray)(ps:List Plc)(cs:List qp):∀ (os pre:List OpD),jj ns ps cs pre os=0->(pre.map (·.name)).Nodup->((pre++os).map (·.name)).Nodup
 | [],pre,_,hn=>by simpa using hn
 |k::rest,pre,h,hn=>by
  unfold jj at h
  split at h
  ·rename_i h0
   have hno:k.name∉pre.map (·.name):=by
    unfold jI at h0
    split at h0
    ·cases h0
    ·rename_i h1
     refine qeB (f:=fun x:OpD=>x.name) fun h2=>h1 ?_
     rw[vT h2];simp
   have h2:=Yd ns ps cs rest (pre++[k]) h (by
    rw[kM]
    exact List.nodup_append.2 ⟨hn,by simp,fun a ha b hb=>by
     have hb2:b=k.name:=by simpa using hb
     rw[hb2]
     exact fun e=>hno (e ▸ ha)⟩)
   simpa[List.append_assoc] using h2
  ·rename_i h0;exact absurd h h0
theorem qbH{nm:ByteArray->Bool}{ns:List ByteArray}{ps:List Plc}{cs:List qp}(h:qy nm ns ps cs=0):(cs.map (·.name)).Nodup:=by
 unfold qy at h
 split at h
 ·cases h
 ·simpa using Zq nm ns ps cs [] h (by simp)
theorem qhV{ns:List ByteArray}{ps:List Plc}{cs:List qp}{os:List OpD}(h:jf ns ps cs os=0):(os.map (·.name)).Nodup:=by
 unfold jf at h
 split at h
 ·cases h
 ·simpa using Yd ns ps cs os [] h (by simp)
theorem Ye{ns l:List ByteArray}(h:(qh ns l).contains (-1)=false):xy ns l=qh ns l:=by
 unfold xy qh
 apply List.map_congr_left
 intro s hs
 unfold xG
 have hr:=zO ns s
 have:qv ns s ≠ -1:=fun e=>by
  have hc:(qh ns l).contains (-1)=true:=by
   rw[List.contains_iff_mem];exact List.mem_map.2 ⟨s,hs,e⟩
  rw[hc] at h;cases h
 omega
theorem qeC(L:qg):(qQ L).length=(qC L).length:=by unfold qQ qC;rw[vP,vP]
structure yB(base:Nat)(W:World)(C:Nat)(d:qz)(L M:qg)(tb:TB)(rl:List qY)(cl:List zZ)(ol:List OpT):Prop where
 tab:qd W C 85 tb.cells
 mach:zP W tb.m d M
 cap:tb.m.regs.a≠none->tb.m.regs.n<=tb.m.regs.c
 like:L.Like M
 regs:xF base C W tb (qC L) (qQ L) rl
 laps:∀x,x∈rl->zh W x.laps (yE (qQ L) x.plc)
 cls:jg base W tb.cS tb.cM (qC L) (qQ L) d.classes cl
 ops:yy base W tb.oS tb.oM (qC L) (qQ L) d.classes d.ops ol
 args:qN W tb.args (qh (qC L) d.args)
 result:tb.result=qv (qC L) d.result
 saved:qN W tb.saved (qh (qC L) d.saved)
 surv:zh W tb.surv (fun n=>(qh (qC L) d.saved).any fun a=>jr (qQ L) a n)
 fresh:yb base W tb.m d M
theorem zP.belowT{w w':World}{m:MV}{d:qz}{L:qg}(h:zP w m d L)(hb:BX w w'):zP w' m d L:=
 ⟨h.env.below hb,h.envA.below hb,h.same,h.result,h.slots,h.regs.imp id fun⟨b,o,c,h1,h2,h3⟩=>⟨b,o,c,h1,h2.below hb,h3⟩,h.classes.below hb,h.ops.below hb,h.oub,h.args.below hb,h.saved.below hb⟩
theorem xF.mono{base base' C:Nat}{W:World}{tb:TB}{ns:List ByteArray}{ps:List Plc}{rl:List qY}(h:xF base C W tb ns ps rl)(hb:base'<=base):xF base' C W tb ns ps rl:=⟨qm h.row hb,h.map.mono hb,h.names,h.places⟩
theorem jg.mono{base base':Nat}{W:World}{cS:SlV}{cM:Option Nat}{ns:List ByteArray}{ps:List Plc}{ks:List qp}{cl:List zZ}(h:jg base W cS cM ns ps ks cl)(hb:base'<=base):jg base' W cS cM ns ps ks cl:=⟨qm h.row hb,h.map.mono hb,h.len,h.each⟩
theorem yy.mono{base base':Nat}{W:World}{oS:SlV}{oM:Option Nat}{ns:List ByteArray}{ps:List Plc}{ks:List qp}{os:List OpD}{ol:List OpT}(h:yy base W oS oM ns ps ks os ol)(hb:base'<=base):yy base' W oS oM ns ps ks os ol:=⟨qm h.row hb,h.map.mono hb,h.len,h.each⟩
theorem yy.but{base C:Nat}{W W':World}{oS:SlV}{oM:Option Nat}{ns:List ByteArray}{ps:List Plc}{ks:List qp}{os:List OpD}{ol:List OpT}{cs:Array Value}(h:yy base W oS oM ns ps ks os ol)(hC:qd W C 85 cs)(hb:But C W W'):yy base W' oS oM ns ps ks os ol:=by
 have hs:=hb.stays hC
 exact⟨hs.row h.row (by decide),h.map.but hC hb,h.len,fun i x k hx hk=>by obtain⟨h1,h2,h3⟩:=h.each i x k hx hk;exact⟨h1.stays hs (by decide) (by decide),h2,hs.row h3 (by decide)⟩⟩
theorem yB.below{base:Nat}{W W':World}{C:Nat}{d:qz}{L M:qg}{tb:TB}{rl:List qY}{cl:List zZ}{ol:List OpT}(h:yB base W C d L M tb rl cl ol)(hb:BX W W'):yB base W' C d L M tb rl cl ol:=
 ⟨h.tab.below hb h.tab.lt,h.mach.belowT hb,h.cap,h.like,h.regs.below hb,fun x hx=>(h.laps x hx).below hb,h.cls.below hb,h.ops.below hb,h.args.below hb,h.result,h.saved.below hb,h.surv.below hb,h.fresh.below hb⟩
structure XC(d:qz):Prop where
 name:zy d.name
 result:zy d.result
 classes:∀k,k∈d.classes->zy k.name/\∀s,s∈k.regs->zy s
 ops:∀o,o∈d.ops->zy o.name/\Qq o.d/\(∀u,u∈o.uses->Qq u)/\∀s,s∈o.clob->zy s
 args:∀s,s∈d.args->zy s
 saved:∀s,s∈d.saved->zy s
theorem Qa(nm:ByteArray->Bool):∀ (l:List (qA×List zt)) (names:List ByteArray),qw nm names l=0->∀p,p∈l->nm p.1.name=true
 | [],_,_,_,hp=>by cases hp
 |q::r,names,h,p,hp=>by
  have h0:zK nm names q=0:=by
   by_cases h0:zK nm names q=0
   ·exact h0
   ·exfalso
    unfold qw at h
    rw[if_neg h0] at h
    exact h0 h
  rcases List.mem_cons.1 hp with rfl|hp
  ·unfold zK at h0
   split at h0
   ·cases h0
   ·split at h0
    ·cases h0
    ·split at h0
     ·cases h0
     ·rename_i h5
      cases hn:nm p.1.name
      ·exact absurd (.inl hn) h5
      ·rfl
  ·unfold qw at h
   rw[if_pos h0] at h
   exact Qa nm r _ h p hp
theorem qch{s:ByteArray}(h:qj s=true):s.size<=20:=(Qt h).1.le
structure QX(d:qz)(L:qg):Prop where
 fit:yP d L
 few:(qo 0 L).length<=200
 ok:∀p,p∈qQ L->xT p
 names:∀s,s∈qC L->s.size<=20
 cn:d.classes.length<=64
 on:d.ops.length<=64
 kls:∀k,k∈d.classes->k.regs ≠ []/\k.regs.length<=64/\(qh (qC L) k.regs).contains (-1)=false
 opk:∀o,o∈d.ops->o.uses.length<=2/\o.clob.length<=64/\(qh (qC L) o.clob).contains (-1)=false
 an:d.args.length<=16/\(qh (qC L) d.args).contains (-1)=false
 sn:d.saved.length<=64/\(qh (qC L) d.saved).contains (-1)=false
 res:0<=qv (qC L) d.result
theorem XD{w:World}{m:MV}{d:qz}{L:qg}(h:zP w m d L)(ht:XC d)(h0:zV qj d (zB L) (qC L) (qQ L)=0):QX d L:=by
 obtain⟨a1,a2,a3,a4,a5,a6⟩:=qaj h0
 have hread:=h.read a1 a2 (fun e=>a3 (by unfold qC;rw[e];rfl))
 obtain⟨b1,b2⟩:=xD a4
 obtain⟨c1,c2⟩:=Zk a5
 unfold qL at a6
 simp only[Bool.and_eq_true,decide_eq_true_eq] at a6
 obtain⟨⟨⟨⟨⟨d1,d2⟩,d3⟩,_⟩,_⟩,_⟩:=a6
 have hk:∀k,k∈d.classes->k.regs ≠ []/\k.regs.length<=64/\(qh (qC L) k.regs).contains (-1)=false:=fun k hk=>by
  have hf:=b2 k hk
  unfold zw at hf
  simp only[Bool.and_eq_true,Bool.not_eq_true',decide_eq_false_iff_not] at hf
  exact⟨hf.1.1.2,je hf.1.1.1⟩
 have ho:∀o,o∈d.ops->o.uses.length<=2/\o.clob.length<=64/\(qh (qC L) o.clob).contains (-1)=false:=fun o ho=>by
  have hf:=c2 o ho
  unfold jm at hf
  simp only[Bool.and_eq_true,decide_eq_true_eq] at hf
  obtain⟨⟨⟨⟨⟨⟨e1,_⟩,e3⟩,_⟩,_⟩,_⟩,_⟩:=hf
  have:=JO o.name
  exact⟨by omega,je e3⟩
 have hnm:∀x,x∈qo 0 L->qj x.name=true:=fun x hx=>by
  rw[←zz] at hx
  obtain⟨q,hq,rfl⟩:=List.mem_map.1 hx
  exact Qa qj _ _ a2 q hq
 have htot:L.total<=200:=by rw[←qg.total_out L 0];exact hread.few
 exact {
  fit:={
   name:=ht.name
   result:=ht.result
   regs:=qg.allN_out L 0 fun x hx=>by have:=qch (hnm x hx);unfold zy;omega
   total:=by omega
   cn:=by omega
   classes:=fun k hk'=>⟨(ht.classes k hk').1,by have:=(hk k hk').2.1;omega,(ht.classes k hk').2⟩
   on:=by omega
   ops:=fun o ho'=>⟨(ht.ops o ho').1,(ht.ops o ho').2.1,by have:=(ho o ho').1;omega,(ht.ops o ho').2.2.1,by have:=(ho o ho').2.1;omega,(ht.ops o ho').2.2.2⟩
   an:=by have:=(je d1).1;omega
   args:=ht.args
   sn:=by have:=(je d2).1;omega
   saved:=ht.saved }
  few:=hread.few
  ok:=hread.ok
  names:=fun s hs=>by
   obtain⟨x,hx,rfl⟩:=List.mem_map.1 hs
   exact qch (hnm x hx)
  cn:=b1
  on:=c1
  kls:=hk
  opk:=ho
  an:=je d1
  sn:=je d2
  res:=d3 }
def qco(w:World)(d:qz)(L:qg)(e:Ending)(w':World):Prop:=
 BX w w' /\
  ((zV qj d (zB L) (qC L) (qQ L)≠0/\e = .returned (.tuple #[.pointer none,.int .i64 (zV qj d (zB L) (qC L) (qQ L))])) ∨
    (zV qj d (zB L) (qC L) (qQ L)=0/\∃ (C:Nat) (M:qg) (tb:TB) (rl:List qY) (cl:List zZ) (ol:List OpT),e = .returned (.tuple #[.pointer (some ⟨C,0,none⟩),.int .i64 0])/\w.heap.size<=C/\yB w.heap.size w' C d L M tb rl cl ol))
structure Zr(w:World)(d:qz)(L:qg)(W2:World)(m':MV)(M:qg):Prop where
 size:w.heap.size<=W2.heap.size
 mach:zP W2 m' d M
 like:L.Like M
 cap:m'.regs.a≠none->m'.regs.n<=m'.regs.c
 fresh:yb w.heap.size W2 m' d M
theorem Zr.low{w:World}{d:qz}{L:qg}{W2:World}{m:MV}{M:qg}(_:Zr w d L W2 m M){W:World}(hb:But W2.heap.size (W2.alloc (.cells (TB.mk m ⟨none,0,0⟩ none ⟨none,0,0⟩ none ⟨none,0,0⟩ none ⟨none,0,0⟩ 0 ⟨none,0,0⟩ ⟨none,0,0⟩).cells 85)) W):BX W2 W:=by
 have h3:BX W2 (W2.alloc (.cells (TB.mk m ⟨none,0,0⟩ none ⟨none,0,0⟩ none ⟨none,0,0⟩ none ⟨none,0,0⟩ 0 ⟨none,0,0⟩ ⟨none,0,0⟩).cells 85)):=qi
 exact h3.trans (qF.low hb h3.size (vL _))
theorem Zr.one{w:World}{d:qz}{L:qg}{W2:World}{m:MV}{M:qg}(h:Zr w d L W2 m M)(hS:QX d L)(a2:zB L=0) :
 Calls prog 32 #[.pointer (some ⟨W2.heap.size,0,none⟩)] (W2.alloc (.cells (TB.mk m ⟨none,0,0⟩ none ⟨none,0,0⟩ none ⟨none,0,0⟩ none ⟨none,0,0⟩ 0 ⟨none,0,0⟩ ⟨none,0,0⟩).cells 85)) (ZT W2.heap.size (TB.mk m ⟨none,0,0⟩ none ⟨none,0,0⟩ none ⟨none,0,0⟩ none ⟨none,0,0⟩ 0 ⟨none,0,0⟩ ⟨none,0,0⟩) (qC L) (qQ L) (W2.alloc (.cells (TB.mk m ⟨none,0,0⟩ none ⟨none,0,0⟩ none ⟨none,0,0⟩ none ⟨none,0,0⟩ 0 ⟨none,0,0⟩ ⟨none,0,0⟩).cells 85))):=by
 have h3:BX W2 (W2.alloc (.cells (TB.mk m ⟨none,0,0⟩ none ⟨none,0,0⟩ none ⟨none,0,0⟩ none ⟨none,0,0⟩ 0 ⟨none,0,0⟩ ⟨none,0,0⟩).cells 85)):=qi
 have e1:(qo 0 M).map (·.name)=qC L:=(Ya h.like).symm
 have e2:(qo 0 M).map qA.place=qQ L:=(qaU h.like).symm
 have hlen:(qo 0 M).length=(qo 0 L).length:=by rw[qg.total_out,qg.total_out,h.like.total]
 have:=qez W2.heap.size m ⟨none,0,0⟩ none ⟨none,0,0⟩ none ⟨none,0,0⟩ 0 ⟨none,0,0⟩ ⟨none,0,0⟩ (qo 0 M) (W2.alloc (.cells (TB.mk m ⟨none,0,0⟩ none ⟨none,0,0⟩ none ⟨none,0,0⟩ none ⟨none,0,0⟩ 0 ⟨none,0,0⟩ ⟨none,0,0⟩).cells 85)) (qd.new W2 85 _)
  ((h.mach.places _ h3).mono fun e w' hp=>hp.1 (by rw[←qaT h.like];exact a2)) (by rw[hlen];exact hS.few)
  (fun x hx=>hS.ok _ (by rw[←e2];exact vQ hx)) (by rw[e1];exact qcg a2)
  (fun x hx=>by have:=hS.names x.name (by rw[←e1];exact vQ hx);omega)
 rw[e1,e2] at this
 exact this
theorem Zr.two{w:World}{d:qz}{L:qg}{W2:World}{m:MV}{M:qg}(h:Zr w d L W2 m M)(hS:QX d L)(a4:qy qj (qC L) (qQ L) d.classes=0){rS:SlV}{rM:Option Nat}{rl:List qY}{W4:World}
 (hb:But W2.heap.size (W2.alloc (.cells (TB.mk m ⟨none,0,0⟩ none ⟨none,0,0⟩ none ⟨none,0,0⟩ none ⟨none,0,0⟩ 0 ⟨none,0,0⟩ ⟨none,0,0⟩).cells 85)) W4) (hC:qd W4 W2.heap.size 85 (TB.mk m rS rM ⟨none,0,0⟩ none ⟨none,0,0⟩ none ⟨none,0,0⟩ 0 ⟨none,0,0⟩ ⟨none,0,0⟩).cells) (hR:xF (W2.alloc (.cells (TB.mk m ⟨none,0,0⟩ none ⟨none,0,0⟩ none ⟨none,0,0⟩ none ⟨none,0,0⟩ 0 ⟨none,0,0⟩ ⟨none,0,0⟩).cells 85)).heap.size W2.heap.size W4 (TB.mk m rS rM ⟨none,0,0⟩ none ⟨none,0,0⟩ none ⟨none,0,0⟩ 0 ⟨none,0,0⟩ ⟨none,0,0⟩) (qC L) (qQ L) rl) :
 Calls prog 33 #[.pointer (some ⟨W2.heap.size,0,none⟩)] W4 (XA W2.heap.size (TB.mk m rS rM ⟨none,0,0⟩ none ⟨none,0,0⟩ none ⟨none,0,0⟩ 0 ⟨none,0,0⟩ ⟨none,0,0⟩) (qC L) (qQ L) d.classes W4):=
 qfX W2.heap.size _ m rS rM ⟨none,0,0⟩ none ⟨none,0,0⟩ 0 ⟨none,0,0⟩ ⟨none,0,0⟩ (qC L) (qQ L) rl d.classes W4 hC hR (fun W hW=>h.mach.classes.below (h.low (hb.trans hW))) (by have:=hS.cn;omega) (qbH a4)
  (fun k hk=>⟨(hS.fit.classes k hk).1,(hS.kls k hk).1,by have:=(hS.kls k hk).2.1;omega,(hS.fit.classes k hk).2.2⟩)
theorem Zr.three{w:World}{d:qz}{L:qg}{W2:World}{m:MV}{M:qg}(h:Zr w d L W2 m M)(hS:QX d L)(a5:jf (qC L) (qQ L) d.classes d.ops=0){rS cS:SlV}{rM cM:Option Nat}{rl:List qY}{cl:List zZ}{b1 b2:Nat}{W5:World}
 (hb:But W2.heap.size (W2.alloc (.cells (TB.mk m ⟨none,0,0⟩ none ⟨none,0,0⟩ none ⟨none,0,0⟩ none ⟨none,0,0⟩ 0 ⟨none,0,0⟩ ⟨none,0,0⟩).cells 85)) W5) (hC:qd W5 W2.heap.size 85 (TB.mk m rS rM cS cM ⟨none,0,0⟩ none ⟨none,0,0⟩ 0 ⟨none,0,0⟩ ⟨none,0,0⟩).cells) (hR:xF b1 W2.heap.size W5 (TB.mk m rS rM cS cM ⟨none,0,0⟩ none ⟨none,0,0⟩ 0 ⟨none,0,0⟩ ⟨none,0,0⟩) (qC L) (qQ L) rl) (hl:∀x,x∈rl->zh W5 x.laps (yE (qQ L) x.plc)) (hK:jg b2 W5 cS cM (qC L) (qQ L) d.classes cl) :
 Calls prog 34 #[.pointer (some ⟨W2.heap.size,0,none⟩)] W5 (XB W2.heap.size (TB.mk m rS rM cS cM ⟨none,0,0⟩ none ⟨none,0,0⟩ 0 ⟨none,0,0⟩ ⟨none,0,0⟩) (qC L) (qQ L) d.classes d.ops W5):=
 qfZ W2.heap.size b1 b2 m rS rM cS cM ⟨none,0,0⟩ 0 ⟨none,0,0⟩ ⟨none,0,0⟩ (qC L) (qQ L) rl d.classes cl d.ops W5 hC hR hl hK (fun W hW=>h.mach.ops.below (h.low (hb.trans hW))) (by have:=hS.on;omega) (qhV a5)
  (fun o ho=>⟨(hS.fit.ops o ho).1,(hS.fit.ops o ho).2.1.1,(hS.fit.ops o ho).2.1.2,by have:=(hS.opk o ho).1;omega,(hS.fit.ops o ho).2.2.2.1,by have:=(hS.opk o ho).2.1;omega,(hS.fit.ops o ho).2.2.2.2.2⟩)
theorem Zr.four{w:World}{d:qz}{L:qg}{W2:World}{n0:ByteArray}{g1 g2 g3 g4:SlV}{n1:ByteArray}{g5:SlV}{g6:Int}{M:qg}(h:Zr w d L W2 (MV.mk n0 g1 g2 g3 g4 n1 g5 g6) M)(hS:QX d L){rS cS oS:SlV}{rM cM oM:Option Nat}{rl:List qY}{b1:Nat}{W6:World}
 (hb:But W2.heap.size (W2.alloc (.cells (TB.mk (MV.mk n0 g1 g2 g3 g4 n1 g5 g6) ⟨none,0,0⟩ none ⟨none,0,0⟩ none ⟨none,0,0⟩ none ⟨none,0,0⟩ 0 ⟨none,0,0⟩ ⟨none,0,0⟩).cells 85)) W6) (hC:qd W6 W2.heap.size 85 (TB.mk (MV.mk n0 g1 g2 g3 g4 n1 g5 g6) rS rM cS cM oS oM ⟨none,0,0⟩ 0 ⟨none,0,0⟩ ⟨none,0,0⟩).cells) (hR:xF b1 W2.heap.size W6 (TB.mk (MV.mk n0 g1 g2 g3 g4 n1 g5 g6) rS rM cS cM oS oM ⟨none,0,0⟩ 0 ⟨none,0,0⟩ ⟨none,0,0⟩) (qC L) (qQ L) rl) :
 Calls prog 35 #[.pointer (some ⟨W2.heap.size,0,none⟩)] W6 (Qo W2.heap.size (TB.mk (MV.mk n0 g1 g2 g3 g4 n1 g5 g6) rS rM cS cM oS oM ⟨none,0,0⟩ 0 ⟨none,0,0⟩ ⟨none,0,0⟩) (qC L) (qQ L) d.args n1 d.saved W6):=by
 have hlen:(qQ L).length<=200:=by unfold qQ;rw[vP];exact hS.few
 have hres:=h.mach.result
 dsimp only at hres
 exact qeA W2.heap.size b1 n0 g1 g2 g3 g4 n1 g5 g6 rS rM cS cM oS oM (qC L) (qQ L) rl d.args d.saved W6 hC hR (fun W hW=>h.mach.args.below (h.low (hb.trans hW))) (fun W hW=>h.mach.saved.below (h.low (hb.trans hW)))
  (by have:=hS.an.1;omega) (by have:=hS.sn.1;omega) hS.fit.args hS.fit.saved (by rw[hres];exact hS.fit.result) hS.ok (by omega) (fun a ha=>by
    rw[Ye hS.sn.2] at ha
    exact(Qu (ps:=qQ L) (qeC L) hS.sn.2 a ha).2)
theorem Zr.done{w:World}{d:qz}{L:qg}{W2:World}{n0:ByteArray}{g1 g2 g3 g4:SlV}{n1:ByteArray}{g5:SlV}{g6:Int}{M:qg}(h:Zr w d L W2 (MV.mk n0 g1 g2 g3 g4 n1 g5 g6) M)(hS:QX d L){rS cS oS:SlV}{rM cM oM:Option Nat}{rl:List qY}{cl:List zZ}{ol:List OpT}{b1 b2 b3:Nat}{W6 W7:World}
 (hb:But W2.heap.size (W2.alloc (.cells (TB.mk (MV.mk n0 g1 g2 g3 g4 n1 g5 g6) ⟨none,0,0⟩ none ⟨none,0,0⟩ none ⟨none,0,0⟩ none ⟨none,0,0⟩ 0 ⟨none,0,0⟩ ⟨none,0,0⟩).cells 85)) W6) (hC:qd W6 W2.heap.size 85 (TB.mk (MV.mk n0 g1 g2 g3 g4 n1 g5 g6) rS rM cS cM oS oM ⟨none,0,0⟩ 0 ⟨none,0,0⟩ ⟨none,0,0⟩).cells) (hR:xF b1 W2.heap.size W6 (TB.mk (MV.mk n0 g1 g2 g3 g4 n1 g5 g6) rS rM cS cM oS oM ⟨none,0,0⟩ 0 ⟨none,0,0⟩ ⟨none,0,0⟩) (qC L) (qQ L) rl)
 (hl:∀x,x∈rl->zh W6 x.laps (yE (qQ L) x.plc)) (hK:jg b2 W6 cS cM (qC L) (qQ L) d.classes cl) (hO:yy b3 W6 oS oM (qC L) (qQ L) d.classes d.ops ol) (e1:W2.heap.size<=b1) (e2:W2.heap.size<=b2) (e3:W2.heap.size<=b3) {e:Ending}
 (hp:Qo W2.heap.size (TB.mk (MV.mk n0 g1 g2 g3 g4 n1 g5 g6) rS rM cS cM oS oM ⟨none,0,0⟩ 0 ⟨none,0,0⟩ ⟨none,0,0⟩) (qC L) (qQ L) d.args n1 d.saved W6 e W7) :
 e = .returned (.tuple #[])/\But W2.heap.size W6 W7/\∃tb,yB w.heap.size W7 W2.heap.size d L M tb rl cl ol:=by
 obtain⟨he,hb7,ag,sv,sr,c1,c2,c3,c4⟩:=hp
 have hst:=hb7.stays hC
 have hbb:=hb.trans hb7
 have hres:=h.mach.result
 dsimp only at hres
 refine⟨he,hb7,_,c1,h.mach.belowT (h.low hbb),h.cap,h.like,?_,fun x hx=>hst.set (hl x hx) (by decide),(hK.but hC hb7).mono (vR h.size e2),(hO.but hC hb7).mono (vR h.size e3),?_,?_,?_,?_,h.fresh.below (h.low hbb)⟩
 ·refine xF.mono (base:=b1) ?_ (vR h.size e1)
  exact xF.same (hR.but hC hb7) rfl rfl
 ·rw[←Ye hS.an.2];exact c2
 ·show xG (qC L) n1=_
  rw[hres]
  unfold xG
  have:=hS.res
  omega
 ·rw[←Ye hS.sn.2];exact c3
 ·rw[←Ye hS.sn.2];exact c4
theorem qeD(m:MV)(d:qz)(L:qg)(w:World)(h:zP w m d L)(ht:XC d)(hcap:m.regs.a≠none->m.regs.n<=m.regs.c) :
 Calls prog 8 #[m.val] w (qco w d L):=by
 have hpost:∀x y,qco w d L x y↔(BX w y /\
  ((zV qj d (zB L) (qC L) (qQ L)≠0/\x = .returned (.tuple #[.pointer none,.int .i64 (zV qj d (zB L) (qC L) (qQ L))])) ∨
    (zV qj d (zB L) (qC L) (qQ L)=0/\∃ (C:Nat) (M:qg) (tb:TB) (rl:List qY) (cl:List zZ) (ol:List OpT),x = .returned (.tuple #[.pointer (some ⟨C,0,none⟩),.int .i64 0])/\w.heap.size<=C/\yB w.heap.size y C d L M tb rl cl ol))):=fun _ _=>Iff.rfl
 have hsz:zV qj d (zB L) (qC L) (qQ L)=0->QX d L:=XD h ht
 have hsane:zV qj d (zB L) (qC L) (qQ L)=0->_:=qaj
 obtain⟨mn,⟨rga,rgn,rgc⟩,⟨kla,kln,klc⟩,⟨opa,opn,opc⟩,⟨ara,arn,arc⟩,mrs,⟨sva,svn,svc⟩,sl⟩:=m
 have hb0:BX w (w.alloc (.cells #[.string mn,.slice rga rgn rgc,.slice kla kln klc,.slice opa opn opc,.slice ara arn arc,.string mrs,.slice sva svn svc,.int .i64 sl] 27)):=qi
 have hbx:=qd.new w 27 #[.string mn,.slice rga rgn rgc,.slice kla kln klc,.slice opa opn opc,.slice ara arn arc,.string mrs,.slice sva svn svc,.int .i64 sl]
 have h0:=h.belowT hb0
 have K1:=qht h0
 have KC:=fun W (hb:BX w W) (hs:QX d L)=>qew _ d L W (h.belowT hb) hs.fit hcap
 unfold MV.val at K1 KC ⊢
 dsimp only at K1 KC ⊢
 obtain⟨E,hE⟩:∃E,E=zV qj d (zB L) (qC L) (qQ L):=⟨_,rfl⟩
 change Calls _ _ _ _ fun e w'=>e = .returned (.int .i64 (zV qj d (zB L) (qC L) (qQ L)))/\_ at K1
 rw[←hE] at K1 hsz hsane
 simp only[←hE] at hpost
 replace hE:=vH hE
 replace hpost:=vH hpost
 replace KC:=vH KC
 replace hsane:=vH hsane
 have hread:∀W,Below (w.alloc (.cells #[.string mn,.slice rga rgn rgc,.slice kla kln klc,.slice opa opn opc,.slice ara arn arc,.string mrs,.slice sva svn svc,.int .i64 sl] 27)).heap.size (w.alloc (.cells #[.string mn,.slice rga rgn rgc,.slice kla kln klc,.slice opa opn opc,.slice ara arn arc,.string mrs,.slice sva svn svc,.int .i64 sl] 27)) W->W.cell? ⟨w.heap.size,0,none⟩=some (.string mn)/\W.cell? ⟨w.heap.size,1,none⟩=some (.slice rga rgn rgc)/\W.cell? ⟨w.heap.size,2,none⟩=some (.slice kla kln klc)/\W.cell? ⟨w.heap.size,3,none⟩=some (.slice opa opn opc)/\W.cell? ⟨w.heap.size,4,none⟩=some (.slice ara arn arc)/\W.cell? ⟨w.heap.size,5,none⟩=some (.string mrs)/\W.cell? ⟨w.heap.size,6,none⟩=some (.slice sva svn svc)/\W.cell? ⟨w.heap.size,7,none⟩=some (.int .i64 sl):=fun W hb=>by
  have a:=hbx.below hb hbx.lt
  exact⟨a.cell rfl,a.cell rfl,a.cell rfl,a.cell rfl,a.cell rfl,a.cell rfl,a.cell rfl,a.cell rfl⟩
 replace hread:=vH hread
 clear h h0 hcap ht hbx
 by_cases hE0:E=0
 ·have hS:=hsz hE0
  obtain⟨a1,a2,a3,a4,a5,a6⟩:=hsane.out hE0
  replace hS:=vH hS
  replace a2:=vH a2
  replace a4:=vH a4
  replace a5:=vH a5
  clear hsz hsane a1 a3 a6
  subst hE0
  go_enter func8,ntmps8
  go_wp2_with (first
   |(go_at_call 30;refine K1.mono ?_;clear K1;rintro e W1 ⟨rfl,hb1⟩;have hB1:=hb0.trans (hb1.mono hb0.size);obtain⟨q0,q1,q2,q3,q4,q5,q6,q7⟩:=hread.out _ hb1)
   |(go_at_call 31;refine(KC.out _ hB1 hS.out).mono ?_;clear KC;rintro e W2 ⟨⟨n0,⟨ra,rn,rc⟩,⟨ka,kn,kc⟩,⟨oa,on,oc⟩,⟨aa,an,ac⟩,n1,⟨va,vn,vc⟩,ns⟩,M,rfl,hb2,hmach,hfr2,hlike,hcap2⟩;have hB2:=hB1.trans (hb2.mono hB1.size);have hst:Hid (Zr w d L W2 (MV.mk n0 ⟨ra,rn,rc⟩ ⟨ka,kn,kc⟩ ⟨oa,on,oc⟩ ⟨aa,an,ac⟩ n1 ⟨va,vn,vc⟩ ns) M):=vH ⟨hB2.size,hmach,hlike,hcap2,hfr2.mono hB1.size⟩;clear hmach hfr2 hlike hcap2 hb2 q0 q1 q2 q3 q4 q5 q6 q7 hb1)
   |(go_at_call 32;refine((hst.out.one hS.out a2.out)).mono ?_;rintro e W4 ⟨rfl,hq4,rS,rM,rl,hC4,hR4,hL4⟩;replace hR4:=vH hR4;replace hL4:=vH hL4)
   |(go_at_call 33;refine(hst.out.two hS.out a4.out hq4 hC4 hR4.out).mono ?_;rintro e W5 ⟨rfl,hq5,cS,cM,cl,hC5,hK5⟩;have hqq5:=But.trans hq4 hq5;have hR5:=vH ((hR4.out.but hC4 hq5).same (tb':=TB.mk (MV.mk n0 ⟨ra,rn,rc⟩ ⟨ka,kn,kc⟩ ⟨oa,on,oc⟩ ⟨aa,an,ac⟩ n1 ⟨va,vn,vc⟩ ns) rS rM cS cM ⟨none,0,0⟩ none ⟨none,0,0⟩ 0 ⟨none,0,0⟩ ⟨none,0,0⟩) rfl rfl);have hL5:=vH (fun x hx=>(But.stays hq5 hC4).set (hL4.out x hx) (by decide));replace hK5:=vH hK5)
   |(go_at_call 34;refine(hst.out.three hS.out a5.out hqq5 hC5 hR5.out hL5.out hK5.out).mono ?_;rintro e W6 ⟨rfl,hq6,oS,oM,ol,hC6,hO6⟩;have hqq6:=But.trans hqq5 hq6;have hR6:=vH ((hR5.out.but hC5 hq6).same (tb':=TB.mk (MV.mk n0 ⟨ra,rn,rc⟩ ⟨ka,kn,kc⟩ ⟨oa,on,oc⟩ ⟨aa,an,ac⟩ n1 ⟨va,vn,vc⟩ ns) rS rM cS cM oS oM ⟨none,0,0⟩ 0 ⟨none,0,0⟩ ⟨none,0,0⟩) rfl rfl);have hL6:=vH (fun x hx=>(But.stays hq6 hC5).set (hL5.out x hx) (by decide));have hK6:=vH (hK5.out.but hC5 hq6);replace hO6:=vH hO6)
   |(go_at_call 35;refine(hst.out.four hS.out hqq6 hC6 hR6.out).mono ?_;intro e W7 hp7;obtain⟨rfl,hq7,tb,htab⟩:=hst.out.done hS.out hqq6 hC6 hR6.out hL6.out hK6.out hO6.out (by simp) (by have:=hq4.size;simp at this;omega) (by have:=hqq5.size;simp at this;omega) hp7;replace htab:=vH htab;have hqq7:=But.trans hqq6 hq7))
  go_ret2
  refine(hpost.out _ _).2 ⟨hB2.trans ((hst.out.low hqq7).mono hB2.size),.inr ⟨by first|rfl|trivial,W2.heap.size,M,tb,rl,cl,ol,rfl,hB2.size,htab.out⟩⟩
 ·have hne:(E ==(0:Int))=false:=by simpa using hE0
  have hne2:(E !=(0:Int))=true:=by simpa using hE0
  clear hsz hsane KC
  go_enter func8,ntmps8
  go_wp2_with (go_at_call 30;refine K1.mono ?_;clear K1;rintro e W1 ⟨rfl,hb1⟩)
  go_ret2
  exact(hpost.out _ _).2 ⟨hb0.trans (hb1.mono hb0.size),.inl ⟨hE0,rfl⟩⟩
end Go.Proofs.YtomlgdnafeeeiaaGreatDoor
