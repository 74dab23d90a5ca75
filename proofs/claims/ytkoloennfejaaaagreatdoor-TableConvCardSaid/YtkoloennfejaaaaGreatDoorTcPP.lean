/-
  table.Make of any machine.
-/
import Derived.Test.YtkoloennfejaaaaGreatDoorTcLP
import Derived.Test.YtkoloennfejaaaaGreatDoorTcIP
set_option maxHeartbeats 16000000
set_option maxRecDepth 100000
namespace Go.Proofs.YtkoloennfejaaaaGreatDoor
open Go.RowKit
theorem qcU{d:MachD}{L:RegL}(h:qL nameB d (regsE L) (nmsL L) (plsL L)=0):nameB d.name=true/\regsE L=0/\nmsL L ≠ []/\classesS nameB (nmsL L) (plsL L) d.classes=0/\opsS (nmsL L) (plsL L) d.classes d.ops=0/\qs (nmsL L) (plsL L) d.args d.result d.saved d.slots=true:=by
 unfold qL at h
 split at h
 ·cases h
 ·rename_i h1
  split at h
  ·rename_i h2;exact absurd h h2
  ·rename_i h2
   split at h
   ·cases h
   ·rename_i h3
    split at h
    ·rename_i h4;exact absurd h h4
    ·rename_i h4
     split at h
     ·rename_i h5;exact absurd h h5
     ·rename_i h5
      split at h
      ·cases h
      ·rename_i h6
       exact⟨by simpa using h1,Classical.not_not.1 h2,h3,Classical.not_not.1 h4,Classical.not_not.1 h5,by simpa using h6⟩
theorem yN(nm:ByteArray->Bool):∀ (l:List (Spot×List qD)) (names:List ByteArray),placesErr nm names l=0->names.Nodup->(names++l.map fun q=>q.1.name).Nodup
 | [],names,_,hn=>by simpa using hn
 |p::r,names,h,hn=>by
  have h0:qK nm names p=0:=by
   by_cases h0:qK nm names p=0
   ·exact h0
   ·exfalso
    unfold placesErr at h
    rw[if_neg h0] at h
    exact h0 h
  have h1:placesErr nm (names++[p.1.name]) r=0:=by
   unfold placesErr at h
   rw[if_pos h0] at h
   exact h
  have hno:p.1.name∉names:=fun hm=>by
   unfold qK at h0
   split at h0
   ·cases h0
   ·split at h0
    ·cases h0
    ·split at h0
     ·cases h0
     ·rename_i h5
      exact h5 (.inr (List.any_eq_true.2 ⟨_,hm,by unfold eqB;simp⟩))
  have h2:=yN nm r (names++[p.1.name]) h1 (List.nodup_append.2 ⟨hn,by simp,fun a ha b hb=>by rw[List.mem_singleton.1 hb];exact fun e=>hno (e ▸ ha)⟩)
  simpa[List.append_assoc] using h2
theorem qea{L:RegL}(h:regsE L=0):(nmsL L).Nodup:=by
 have:=yN nameB (spotsOutA 0 L) [] h List.nodup_nil
 unfold nmsL
 rw[←qJ,List.map_map]
 simpa[Function.comp_def] using this
theorem qaZ{α:Type}{f:α->ByteArray}{l:List α}{s:ByteArray}(h:¬ 0<=idxP (fun x=>eqB (f x) s) l):s∉l.map f:=fun hm=>by
 obtain⟨x,hx,he⟩:=List.mem_map.1 hm
 rcases idxP_cases (fun x=>eqB (f x) s) l with⟨_,h2⟩|⟨k,_,h1,_⟩
 ·have:=h2 x hx
  unfold eqB at this
  simp[he] at this
 ·rw[h1] at h
  exact h (Int.natCast_nonneg _)
theorem jV(nm:ByteArray->Bool)(ns:List ByteArray)(ps:List Plc):∀ (cs pre:List ClassD),qH nm ns ps pre cs=0->(pre.map (·.name)).Nodup->((pre++cs).map (·.name)).Nodup
 | [],pre,_,hn=>by simpa using hn
 |k::rest,pre,h,hn=>by
  unfold qH at h
  split at h
  ·rename_i h0
   have hno:k.name∉pre.map (·.name):=by
    unfold classErr at h0
    split at h0
    ·cases h0
    ·rename_i h1
     refine qaZ (f:=fun x:ClassD=>x.name) fun h2=>h1 ?_
     rw[decide_eq_true h2];simp
   have h2:=jV nm ns ps rest (pre++[k]) h (by
    rw[List.map_append]
    exact List.nodup_append.2 ⟨hn,by simp,fun a ha b hb=>by
     have hb2:b=k.name:=by simpa using hb
     rw[hb2]
     exact fun e=>hno (e ▸ ha)⟩)
   simpa[List.append_assoc] using h2
  ·rename_i h0;exact absurd h h0
theorem Zv(ns:List ByteArray)(ps:List Plc)(cs:List ClassD):∀ (os pre:List OpD),zu ns ps cs pre os=0->(pre.map (·.name)).Nodup->((pre++os).map (·.name)).Nodup
 | [],pre,_,hn=>by simpa using hn
 |k::rest,pre,h,hn=>by
  unfold zu at h
  split at h
  ·rename_i h0
   have hno:k.name∉pre.map (·.name):=by
    unfold zH at h0
    split at h0
    ·cases h0
    ·rename_i h1
     refine qaZ (f:=fun x:OpD=>x.name) fun h2=>h1 ?_
     rw[decide_eq_true h2];simp
   have h2:=Zv ns ps cs rest (pre++[k]) h (by
    rw[List.map_append]
    exact List.nodup_append.2 ⟨hn,by simp,fun a ha b hb=>by
     have hb2:b=k.name:=by simpa using hb
     rw[hb2]
     exact fun e=>hno (e ▸ ha)⟩)
   simpa[List.append_assoc] using h2
  ·rename_i h0;exact absurd h h0
theorem JN{nm:ByteArray->Bool}{ns:List ByteArray}{ps:List Plc}{cs:List ClassD}(h:classesS nm ns ps cs=0):(cs.map (·.name)).Nodup:=by
 unfold classesS at h
 split at h
 ·cases h
 ·simpa using jV nm ns ps cs [] h (by simp)
theorem qeb{ns:List ByteArray}{ps:List Plc}{cs:List ClassD}{os:List OpD}(h:opsS ns ps cs os=0):(os.map (·.name)).Nodup:=by
 unfold opsS at h
 split at h
 ·cases h
 ·simpa using Zv ns ps cs os [] h (by simp)
theorem xi{ns l:List ByteArray}(h:(regsL ns l).contains (-1)=false):nums0 ns l=regsL ns l:=by
 unfold nums0 regsL
 apply List.map_congr_left
 intro s hs
 unfold num0
 have hr:=qA ns s
 have:regN ns s ≠ -1:=fun e=>by
  have hc:(regsL ns l).contains (-1)=true:=by
   rw[List.contains_iff_mem];exact List.mem_map.2 ⟨s,hs,e⟩
  rw[hc] at h;cases h
 omega
theorem qba(L:RegL):(plsL L).length=(nmsL L).length:=by unfold plsL nmsL;rw[List.length_map,List.length_map]
structure TabIn(base:Nat)(W:World)(C:Nat)(d:MachD)(L M:RegL)(tb:TB)(rl:List RegT)(cl:List ClsT)(ol:List OpT):Prop where
 tab:Cells W C 88 tb.cells
 mach:MachAt W tb.m d M
 cap:tb.m.regs.a≠none->tb.m.regs.n<=tb.m.regs.c
 like:L.Like M
 regs:qY base C W tb (nmsL L) (plsL L) rl
 laps:∀x,x∈rl->SetAt W x.laps (lapsP (plsL L) x.plc)
 cls:zt base W tb.cS tb.cM (nmsL L) (plsL L) d.classes cl
 ops:xh base W tb.oS tb.oM (nmsL L) (plsL L) d.classes d.ops ol
 args:IntsR W tb.args (regsL (nmsL L) d.args)
 result:tb.result=regN (nmsL L) d.result
 saved:IntsR W tb.saved (regsL (nmsL L) d.saved)
 surv:SetAt W tb.surv (fun n=>(regsL (nmsL L) d.saved).any fun a=>jU (plsL L) a n)
 fresh:FreshM base W tb.m d M
theorem MachAt.belowT{w w':World}{m:MV}{d:MachD}{L:RegL}(h:MachAt w m d L)(hb:Below w.heap.size w w'):MachAt w' m d L:=
 ⟨h.env.below hb,h.envA.below hb,h.same,h.result,h.slots,h.regs.imp id fun⟨b,o,c,h1,h2,h3⟩=>⟨b,o,c,h1,h2.below hb,h3⟩,h.classes.below hb,h.ops.below hb,h.oub,h.args.below hb,h.saved.below hb⟩
theorem qY.mono{base base' C:Nat}{W:World}{tb:TB}{ns:List ByteArray}{ps:List Plc}{rl:List RegT}(h:qY base C W tb ns ps rl)(hb:base'<=base):qY base' C W tb ns ps rl:=⟨qj h.row hb,h.map.mono hb,h.names,h.places⟩
theorem zt.mono{base base':Nat}{W:World}{cS:SlV}{cM:Option Nat}{ns:List ByteArray}{ps:List Plc}{ks:List ClassD}{cl:List ClsT}(h:zt base W cS cM ns ps ks cl)(hb:base'<=base):zt base' W cS cM ns ps ks cl:=⟨qj h.row hb,h.map.mono hb,h.len,h.each⟩
theorem xh.mono{base base':Nat}{W:World}{oS:SlV}{oM:Option Nat}{ns:List ByteArray}{ps:List Plc}{ks:List ClassD}{os:List OpD}{ol:List OpT}(h:xh base W oS oM ns ps ks os ol)(hb:base'<=base):xh base' W oS oM ns ps ks os ol:=⟨qj h.row hb,h.map.mono hb,h.len,h.each⟩
theorem xh.but{base C:Nat}{W W':World}{oS:SlV}{oM:Option Nat}{ns:List ByteArray}{ps:List Plc}{ks:List ClassD}{os:List OpD}{ol:List OpT}{cs:Array Value}(h:xh base W oS oM ns ps ks os ol)(hC:Cells W C 88 cs)(hb:But C W W'):xh base W' oS oM ns ps ks os ol:=by
 have hs:=hb.stays hC
 exact⟨hs.row h.row (by decide),h.map.but hC hb,h.len,fun i x k hx hk=>by obtain⟨h1,h2,h3⟩:=h.each i x k hx hk;exact⟨h1.stays hs (by decide) (by decide),h2,hs.row h3 (by decide)⟩⟩
theorem TabIn.below{base:Nat}{W W':World}{C:Nat}{d:MachD}{L M:RegL}{tb:TB}{rl:List RegT}{cl:List ClsT}{ol:List OpT}(h:TabIn base W C d L M tb rl cl ol)(hb:Below W.heap.size W W'):TabIn base W' C d L M tb rl cl ol:=
 ⟨h.tab.below hb h.tab.lt,h.mach.belowT hb,h.cap,h.like,h.regs.below hb,fun x hx=>(h.laps x hx).below hb,h.cls.below hb,h.ops.below hb,h.args.below hb,h.result,h.saved.below hb,h.surv.below hb,h.fresh.below hb⟩
structure jW(d:MachD):Prop where
 name:Fit48 d.name
 result:Fit48 d.result
 classes:∀k,k∈d.classes->Fit48 k.name/\∀s,s∈k.regs->Fit48 s
 ops:∀o,o∈d.ops->Fit48 o.name/\OperFit o.d/\(∀u,u∈o.uses->OperFit u)/\∀s,s∈o.clob->Fit48 s
 args:∀s,s∈d.args->Fit48 s
 saved:∀s,s∈d.saved->Fit48 s
theorem yO(nm:ByteArray->Bool):∀ (l:List (Spot×List qD)) (names:List ByteArray),placesErr nm names l=0->∀p,p∈l->nm p.1.name=true
 | [],_,_,_,hp=>by cases hp
 |q::r,names,h,p,hp=>by
  have h0:qK nm names q=0:=by
   by_cases h0:qK nm names q=0
   ·exact h0
   ·exfalso
    unfold placesErr at h
    rw[if_neg h0] at h
    exact h0 h
  rcases List.mem_cons.1 hp with rfl|hp
  ·unfold qK at h0
   split at h0
   ·cases h0
   ·split at h0
    ·cases h0
    ·split at h0
     ·cases h0
     ·rename_i h5
      cases hn:nm p.1.name
      ·exact absurd (.inl hn) h5
      ·rfl
  ·unfold placesErr at h
   rw[if_pos h0] at h
   exact yO nm r _ h p hp
theorem Yl{s:ByteArray}(h:nameB s=true):s.size<=20:=(jc h).1.le
structure xZ(d:MachD)(L:RegL):Prop where
 fit:jD d L
 few:(spotsOut 0 L).length<=200
 ok:∀p,p∈plsL L->PlcOk p
 names:∀s,s∈nmsL L->s.size<=20
 cn:d.classes.length<=64
 on:d.ops.length<=64
 kls:∀k,k∈d.classes->k.regs ≠ []/\k.regs.length<=64/\(regsL (nmsL L) k.regs).contains (-1)=false
 opk:∀o,o∈d.ops->o.uses.length<=2/\o.clob.length<=64/\(regsL (nmsL L) o.clob).contains (-1)=false
 an:d.args.length<=16/\(regsL (nmsL L) d.args).contains (-1)=false
 sn:d.saved.length<=64/\(regsL (nmsL L) d.saved).contains (-1)=false
 res:0<=regN (nmsL L) d.result
theorem qfG{w:World}{m:MV}{d:MachD}{L:RegL}(h:MachAt w m d L)(ht:jW d)(h0:qL nameB d (regsE L) (nmsL L) (plsL L)=0):xZ d L:=by
 obtain⟨a1,a2,a3,a4,a5,a6⟩:=qcU h0
 have hread:=h.read a1 a2 (fun e=>a3 (by unfold nmsL;rw[e];rfl))
 obtain⟨b1,b2⟩:=qX a4
 obtain⟨c1,c2⟩:=jO a5
 unfold qs at a6
 simp only[Bool.and_eq_true,decide_eq_true_eq] at a6
 obtain⟨⟨⟨⟨⟨d1,d2⟩,d3⟩,_⟩,_⟩,_⟩:=a6
 have hk:∀k,k∈d.classes->k.regs ≠ []/\k.regs.length<=64/\(regsL (nmsL L) k.regs).contains (-1)=false:=fun k hk=>by
  have hf:=b2 k hk
  unfold classFine at hf
  simp only[Bool.and_eq_true,Bool.not_eq_true',decide_eq_false_iff_not] at hf
  exact⟨hf.1.1.2,zq hf.1.1.1⟩
 have ho:∀o,o∈d.ops->o.uses.length<=2/\o.clob.length<=64/\(regsL (nmsL L) o.clob).contains (-1)=false:=fun o ho=>by
  have hf:=c2 o ho
  unfold opFine at hf
  simp only[Bool.and_eq_true,decide_eq_true_eq] at hf
  obtain⟨⟨⟨⟨⟨⟨e1,_⟩,e3⟩,_⟩,_⟩,_⟩,_⟩:=hf
  have:=Zh o.name
  exact⟨by omega,zq e3⟩
 have hnm:∀x,x∈spotsOut 0 L->nameB x.name=true:=fun x hx=>by
  rw[←qJ] at hx
  obtain⟨q,hq,rfl⟩:=List.mem_map.1 hx
  exact yO nameB _ _ a2 q hq
 have htot:L.total<=200:=by rw[←RegL.total_out L 0];exact hread.few
 exact {
  fit:={
   name:=ht.name
   result:=ht.result
   regs:=RegL.allN_out L 0 fun x hx=>by have:=Yl (hnm x hx);unfold Fit48;omega
   total:=by omega
   cn:=by omega
   classes:=fun k hk'=>⟨(ht.classes k hk').1,by have:=(hk k hk').2.1;omega,(ht.classes k hk').2⟩
   on:=by omega
   ops:=fun o ho'=>⟨(ht.ops o ho').1,(ht.ops o ho').2.1,by have:=(ho o ho').1;omega,(ht.ops o ho').2.2.1,by have:=(ho o ho').2.1;omega,(ht.ops o ho').2.2.2⟩
   an:=by have:=(zq d1).1;omega
   args:=ht.args
   sn:=by have:=(zq d2).1;omega
   saved:=ht.saved }
  few:=hread.few
  ok:=hread.ok
  names:=fun s hs=>by
   obtain⟨x,hx,rfl⟩:=List.mem_map.1 hs
   exact Yl (hnm x hx)
  cn:=b1
  on:=c1
  kls:=hk
  opk:=ho
  an:=zq d1
  sn:=zq d2
  res:=d3 }
def MakeTPost(w:World)(d:MachD)(L:RegL)(e:Ending)(w':World):Prop:=
 Below w.heap.size w w' /\
  ((qL nameB d (regsE L) (nmsL L) (plsL L)≠0/\e = .returned (.tuple #[.pointer none,.int .i64 (qL nameB d (regsE L) (nmsL L) (plsL L))])) ∨
    (qL nameB d (regsE L) (nmsL L) (plsL L)=0/\∃ (C:Nat) (M:RegL) (tb:TB) (rl:List RegT) (cl:List ClsT) (ol:List OpT),e = .returned (.tuple #[.pointer (some ⟨C,0,none⟩),.int .i64 0])/\w.heap.size<=C/\TabIn w.heap.size w' C d L M tb rl cl ol))
structure jX(w:World)(d:MachD)(L:RegL)(W2:World)(m':MV)(M:RegL):Prop where
 size:w.heap.size<=W2.heap.size
 mach:MachAt W2 m' d M
 like:L.Like M
 cap:m'.regs.a≠none->m'.regs.n<=m'.regs.c
 fresh:FreshM w.heap.size W2 m' d M
theorem jX.low{w:World}{d:MachD}{L:RegL}{W2:World}{m:MV}{M:RegL}(_:jX w d L W2 m M){W:World}(hb:But W2.heap.size (W2.alloc (.cells (TB.mk m ⟨none,0,0⟩ none ⟨none,0,0⟩ none ⟨none,0,0⟩ none ⟨none,0,0⟩ 0 ⟨none,0,0⟩ ⟨none,0,0⟩).cells 88)) W):Below W2.heap.size W2 W:=by
 have h3:Below W2.heap.size W2 (W2.alloc (.cells (TB.mk m ⟨none,0,0⟩ none ⟨none,0,0⟩ none ⟨none,0,0⟩ none ⟨none,0,0⟩ 0 ⟨none,0,0⟩ ⟨none,0,0⟩).cells 88)):=qe
 exact h3.trans (qo.low hb h3.size (Nat.le_refl _))
theorem jX.one{w:World}{d:MachD}{L:RegL}{W2:World}{m:MV}{M:RegL}(h:jX w d L W2 m M)(hS:xZ d L)(a2:regsE L=0) :
 Calls Tryz.prog 66 #[.pointer (some ⟨W2.heap.size,0,none⟩)] (W2.alloc (.cells (TB.mk m ⟨none,0,0⟩ none ⟨none,0,0⟩ none ⟨none,0,0⟩ none ⟨none,0,0⟩ 0 ⟨none,0,0⟩ ⟨none,0,0⟩).cells 88)) (yD W2.heap.size (TB.mk m ⟨none,0,0⟩ none ⟨none,0,0⟩ none ⟨none,0,0⟩ none ⟨none,0,0⟩ 0 ⟨none,0,0⟩ ⟨none,0,0⟩) (nmsL L) (plsL L) (W2.alloc (.cells (TB.mk m ⟨none,0,0⟩ none ⟨none,0,0⟩ none ⟨none,0,0⟩ none ⟨none,0,0⟩ 0 ⟨none,0,0⟩ ⟨none,0,0⟩).cells 88))):=by
 have h3:Below W2.heap.size W2 (W2.alloc (.cells (TB.mk m ⟨none,0,0⟩ none ⟨none,0,0⟩ none ⟨none,0,0⟩ none ⟨none,0,0⟩ 0 ⟨none,0,0⟩ ⟨none,0,0⟩).cells 88)):=qe
 have e1:(spotsOut 0 M).map (·.name)=nmsL L:=(qaT h.like).symm
 have e2:(spotsOut 0 M).map Spot.place=plsL L:=(qfy h.like).symm
 have hlen:(spotsOut 0 M).length=(spotsOut 0 L).length:=by rw[RegL.total_out,RegL.total_out,h.like.total]
 have:=qaX W2.heap.size m ⟨none,0,0⟩ none ⟨none,0,0⟩ none ⟨none,0,0⟩ 0 ⟨none,0,0⟩ ⟨none,0,0⟩ (spotsOut 0 M) (W2.alloc (.cells (TB.mk m ⟨none,0,0⟩ none ⟨none,0,0⟩ none ⟨none,0,0⟩ none ⟨none,0,0⟩ 0 ⟨none,0,0⟩ ⟨none,0,0⟩).cells 88)) (Cells.new W2 88 _)
  ((h.mach.places _ h3).mono fun e w' hp=>hp.1 (by rw[←qcr h.like];exact a2)) (by rw[hlen];exact hS.few)
  (fun x hx=>hS.ok _ (by rw[←e2];exact List.mem_map_of_mem hx)) (by rw[e1];exact qea a2)
  (fun x hx=>by have:=hS.names x.name (by rw[←e1];exact List.mem_map_of_mem hx);omega)
 rw[e1,e2] at this
 exact this
theorem jX.two{w:World}{d:MachD}{L:RegL}{W2:World}{m:MV}{M:RegL}(h:jX w d L W2 m M)(hS:xZ d L)(a4:classesS nameB (nmsL L) (plsL L) d.classes=0){rS:SlV}{rM:Option Nat}{rl:List RegT}{W4:World}
 (hb:But W2.heap.size (W2.alloc (.cells (TB.mk m ⟨none,0,0⟩ none ⟨none,0,0⟩ none ⟨none,0,0⟩ none ⟨none,0,0⟩ 0 ⟨none,0,0⟩ ⟨none,0,0⟩).cells 88)) W4) (hC:Cells W4 W2.heap.size 88 (TB.mk m rS rM ⟨none,0,0⟩ none ⟨none,0,0⟩ none ⟨none,0,0⟩ 0 ⟨none,0,0⟩ ⟨none,0,0⟩).cells) (hR:qY (W2.alloc (.cells (TB.mk m ⟨none,0,0⟩ none ⟨none,0,0⟩ none ⟨none,0,0⟩ none ⟨none,0,0⟩ 0 ⟨none,0,0⟩ ⟨none,0,0⟩).cells 88)).heap.size W2.heap.size W4 (TB.mk m rS rM ⟨none,0,0⟩ none ⟨none,0,0⟩ none ⟨none,0,0⟩ 0 ⟨none,0,0⟩ ⟨none,0,0⟩) (nmsL L) (plsL L) rl) :
 Calls Tryz.prog 67 #[.pointer (some ⟨W2.heap.size,0,none⟩)] W4 (Qf W2.heap.size (TB.mk m rS rM ⟨none,0,0⟩ none ⟨none,0,0⟩ none ⟨none,0,0⟩ 0 ⟨none,0,0⟩ ⟨none,0,0⟩) (nmsL L) (plsL L) d.classes W4):=
 qcs W2.heap.size _ m rS rM ⟨none,0,0⟩ none ⟨none,0,0⟩ 0 ⟨none,0,0⟩ ⟨none,0,0⟩ (nmsL L) (plsL L) rl d.classes W4 hC hR (fun W hW=>h.mach.classes.below (h.low (hb.trans hW))) (by have:=hS.cn;omega) (JN a4)
  (fun k hk=>⟨(hS.fit.classes k hk).1,(hS.kls k hk).1,by have:=(hS.kls k hk).2.1;omega,(hS.fit.classes k hk).2.2⟩)
theorem jX.three{w:World}{d:MachD}{L:RegL}{W2:World}{m:MV}{M:RegL}(h:jX w d L W2 m M)(hS:xZ d L)(a5:opsS (nmsL L) (plsL L) d.classes d.ops=0){rS cS:SlV}{rM cM:Option Nat}{rl:List RegT}{cl:List ClsT}{b1 b2:Nat}{W5:World}
 (hb:But W2.heap.size (W2.alloc (.cells (TB.mk m ⟨none,0,0⟩ none ⟨none,0,0⟩ none ⟨none,0,0⟩ none ⟨none,0,0⟩ 0 ⟨none,0,0⟩ ⟨none,0,0⟩).cells 88)) W5) (hC:Cells W5 W2.heap.size 88 (TB.mk m rS rM cS cM ⟨none,0,0⟩ none ⟨none,0,0⟩ 0 ⟨none,0,0⟩ ⟨none,0,0⟩).cells) (hR:qY b1 W2.heap.size W5 (TB.mk m rS rM cS cM ⟨none,0,0⟩ none ⟨none,0,0⟩ 0 ⟨none,0,0⟩ ⟨none,0,0⟩) (nmsL L) (plsL L) rl) (hl:∀x,x∈rl->SetAt W5 x.laps (lapsP (plsL L) x.plc)) (hK:zt b2 W5 cS cM (nmsL L) (plsL L) d.classes cl) :
 Calls Tryz.prog 68 #[.pointer (some ⟨W2.heap.size,0,none⟩)] W5 (Qg W2.heap.size (TB.mk m rS rM cS cM ⟨none,0,0⟩ none ⟨none,0,0⟩ 0 ⟨none,0,0⟩ ⟨none,0,0⟩) (nmsL L) (plsL L) d.classes d.ops W5):=
 qcu W2.heap.size b1 b2 m rS rM cS cM ⟨none,0,0⟩ 0 ⟨none,0,0⟩ ⟨none,0,0⟩ (nmsL L) (plsL L) rl d.classes cl d.ops W5 hC hR hl hK (fun W hW=>h.mach.ops.below (h.low (hb.trans hW))) (by have:=hS.on;omega) (qeb a5)
  (fun o ho=>⟨(hS.fit.ops o ho).1,(hS.fit.ops o ho).2.1.1,(hS.fit.ops o ho).2.1.2,by have:=(hS.opk o ho).1;omega,(hS.fit.ops o ho).2.2.2.1,by have:=(hS.opk o ho).2.1;omega,(hS.fit.ops o ho).2.2.2.2.2⟩)
theorem jX.four{w:World}{d:MachD}{L:RegL}{W2:World}{n0:ByteArray}{g1 g2 g3 g4:SlV}{n1:ByteArray}{g5:SlV}{g6:Int}{M:RegL}(h:jX w d L W2 (MV.mk n0 g1 g2 g3 g4 n1 g5 g6) M)(hS:xZ d L){rS cS oS:SlV}{rM cM oM:Option Nat}{rl:List RegT}{b1:Nat}{W6:World}
 (hb:But W2.heap.size (W2.alloc (.cells (TB.mk (MV.mk n0 g1 g2 g3 g4 n1 g5 g6) ⟨none,0,0⟩ none ⟨none,0,0⟩ none ⟨none,0,0⟩ none ⟨none,0,0⟩ 0 ⟨none,0,0⟩ ⟨none,0,0⟩).cells 88)) W6) (hC:Cells W6 W2.heap.size 88 (TB.mk (MV.mk n0 g1 g2 g3 g4 n1 g5 g6) rS rM cS cM oS oM ⟨none,0,0⟩ 0 ⟨none,0,0⟩ ⟨none,0,0⟩).cells) (hR:qY b1 W2.heap.size W6 (TB.mk (MV.mk n0 g1 g2 g3 g4 n1 g5 g6) rS rM cS cM oS oM ⟨none,0,0⟩ 0 ⟨none,0,0⟩ ⟨none,0,0⟩) (nmsL L) (plsL L) rl) :
 Calls Tryz.prog 69 #[.pointer (some ⟨W2.heap.size,0,none⟩)] W6 (xY W2.heap.size (TB.mk (MV.mk n0 g1 g2 g3 g4 n1 g5 g6) rS rM cS cM oS oM ⟨none,0,0⟩ 0 ⟨none,0,0⟩ ⟨none,0,0⟩) (nmsL L) (plsL L) d.args n1 d.saved W6):=by
 have hlen:(plsL L).length<=200:=by unfold plsL;rw[List.length_map];exact hS.few
 have hres:=h.mach.result
 dsimp only at hres
 exact qaY W2.heap.size b1 n0 g1 g2 g3 g4 n1 g5 g6 rS rM cS cM oS oM (nmsL L) (plsL L) rl d.args d.saved W6 hC hR (fun W hW=>h.mach.args.below (h.low (hb.trans hW))) (fun W hW=>h.mach.saved.below (h.low (hb.trans hW)))
  (by have:=hS.an.1;omega) (by have:=hS.sn.1;omega) hS.fit.args hS.fit.saved (by rw[hres];exact hS.fit.result) hS.ok (by omega) (fun a ha=>by
    rw[xi hS.sn.2] at ha
    exact(jd (ps:=plsL L) (qba L) hS.sn.2 a ha).2)
theorem jX.done{w:World}{d:MachD}{L:RegL}{W2:World}{n0:ByteArray}{g1 g2 g3 g4:SlV}{n1:ByteArray}{g5:SlV}{g6:Int}{M:RegL}(h:jX w d L W2 (MV.mk n0 g1 g2 g3 g4 n1 g5 g6) M)(hS:xZ d L){rS cS oS:SlV}{rM cM oM:Option Nat}{rl:List RegT}{cl:List ClsT}{ol:List OpT}{b1 b2 b3:Nat}{W6 W7:World}
 (hb:But W2.heap.size (W2.alloc (.cells (TB.mk (MV.mk n0 g1 g2 g3 g4 n1 g5 g6) ⟨none,0,0⟩ none ⟨none,0,0⟩ none ⟨none,0,0⟩ none ⟨none,0,0⟩ 0 ⟨none,0,0⟩ ⟨none,0,0⟩).cells 88)) W6) (hC:Cells W6 W2.heap.size 88 (TB.mk (MV.mk n0 g1 g2 g3 g4 n1 g5 g6) rS rM cS cM oS oM ⟨none,0,0⟩ 0 ⟨none,0,0⟩ ⟨none,0,0⟩).cells) (hR:qY b1 W2.heap.size W6 (TB.mk (MV.mk n0 g1 g2 g3 g4 n1 g5 g6) rS rM cS cM oS oM ⟨none,0,0⟩ 0 ⟨none,0,0⟩ ⟨none,0,0⟩) (nmsL L) (plsL L) rl)
 (hl:∀x,x∈rl->SetAt W6 x.laps (lapsP (plsL L) x.plc)) (hK:zt b2 W6 cS cM (nmsL L) (plsL L) d.classes cl) (hO:xh b3 W6 oS oM (nmsL L) (plsL L) d.classes d.ops ol) (e1:W2.heap.size<=b1) (e2:W2.heap.size<=b2) (e3:W2.heap.size<=b3) {e:Ending}
 (hp:xY W2.heap.size (TB.mk (MV.mk n0 g1 g2 g3 g4 n1 g5 g6) rS rM cS cM oS oM ⟨none,0,0⟩ 0 ⟨none,0,0⟩ ⟨none,0,0⟩) (nmsL L) (plsL L) d.args n1 d.saved W6 e W7) :
 e = .returned (.tuple #[])/\But W2.heap.size W6 W7/\∃tb,TabIn w.heap.size W7 W2.heap.size d L M tb rl cl ol:=by
 obtain⟨he,hb7,ag,sv,sr,c1,c2,c3,c4⟩:=hp
 have hst:=hb7.stays hC
 have hbb:=hb.trans hb7
 have hres:=h.mach.result
 dsimp only at hres
 refine⟨he,hb7,_,c1,h.mach.belowT (h.low hbb),h.cap,h.like,?_,fun x hx=>hst.set (hl x hx) (by decide),(hK.but hC hb7).mono (Nat.le_trans h.size e2),(hO.but hC hb7).mono (Nat.le_trans h.size e3),?_,?_,?_,?_,h.fresh.below (h.low hbb)⟩
 ·refine qY.mono (base:=b1) ?_ (Nat.le_trans h.size e1)
  exact qY.same (hR.but hC hb7) rfl rfl
 ·rw[←xi hS.an.2];exact c2
 ·show num0 (nmsL L) n1=_
  rw[hres]
  unfold num0
  have:=hS.res
  omega
 ·rw[←xi hS.sn.2];exact c3
 ·rw[←xi hS.sn.2];exact c4
theorem qbb(m:MV)(d:MachD)(L:RegL)(w:World)(h:MachAt w m d L)(ht:jW d)(hcap:m.regs.a≠none->m.regs.n<=m.regs.c) :
 Calls Tryz.prog 36 #[m.val] w (MakeTPost w d L):=by
 have hpost:∀x y,MakeTPost w d L x y↔(Below w.heap.size w y /\
  ((qL nameB d (regsE L) (nmsL L) (plsL L)≠0/\x = .returned (.tuple #[.pointer none,.int .i64 (qL nameB d (regsE L) (nmsL L) (plsL L))])) ∨
    (qL nameB d (regsE L) (nmsL L) (plsL L)=0/\∃ (C:Nat) (M:RegL) (tb:TB) (rl:List RegT) (cl:List ClsT) (ol:List OpT),x = .returned (.tuple #[.pointer (some ⟨C,0,none⟩),.int .i64 0])/\w.heap.size<=C/\TabIn w.heap.size y C d L M tb rl cl ol))):=fun _ _=>Iff.rfl
 have hsz:qL nameB d (regsE L) (nmsL L) (plsL L)=0->xZ d L:=qfG h ht
 have hsane:qL nameB d (regsE L) (nmsL L) (plsL L)=0->_:=qcU
 obtain⟨mn,⟨rga,rgn,rgc⟩,⟨kla,kln,klc⟩,⟨opa,opn,opc⟩,⟨ara,arn,arc⟩,mrs,⟨sva,svn,svc⟩,sl⟩:=m
 have hb0:Below w.heap.size w (w.alloc (.cells #[.string mn,.slice rga rgn rgc,.slice kla kln klc,.slice opa opn opc,.slice ara arn arc,.string mrs,.slice sva svn svc,.int .i64 sl] 27)):=qe
 have hbx:=Cells.new w 27 #[.string mn,.slice rga rgn rgc,.slice kla kln klc,.slice opa opn opc,.slice ara arn arc,.string mrs,.slice sva svn svc,.int .i64 sl]
 have h0:=h.belowT hb0
 have K1:=qdG h0
 have KC:=fun W (hb:Below w.heap.size w W) (hs:xZ d L)=>qio _ d L W (h.belowT hb) hs.fit hcap
 unfold MV.val at K1 KC ⊢
 dsimp only at K1 KC ⊢
 obtain⟨E,hE⟩:∃E,E=qL nameB d (regsE L) (nmsL L) (plsL L):=⟨_,rfl⟩
 change Calls _ _ _ _ fun e w'=>e = .returned (.int .i64 (qL nameB d (regsE L) (nmsL L) (plsL L)))/\_ at K1
 rw[←hE] at K1 hsz hsane
 simp only[←hE] at hpost
 replace hE:=Lib.hid hE
 replace hpost:=Lib.hid hpost
 replace KC:=Lib.hid KC
 replace hsane:=Lib.hid hsane
 have hread:∀W,Below (w.alloc (.cells #[.string mn,.slice rga rgn rgc,.slice kla kln klc,.slice opa opn opc,.slice ara arn arc,.string mrs,.slice sva svn svc,.int .i64 sl] 27)).heap.size (w.alloc (.cells #[.string mn,.slice rga rgn rgc,.slice kla kln klc,.slice opa opn opc,.slice ara arn arc,.string mrs,.slice sva svn svc,.int .i64 sl] 27)) W->W.cell? ⟨w.heap.size,0,none⟩=some (.string mn)/\W.cell? ⟨w.heap.size,1,none⟩=some (.slice rga rgn rgc)/\W.cell? ⟨w.heap.size,2,none⟩=some (.slice kla kln klc)/\W.cell? ⟨w.heap.size,3,none⟩=some (.slice opa opn opc)/\W.cell? ⟨w.heap.size,4,none⟩=some (.slice ara arn arc)/\W.cell? ⟨w.heap.size,5,none⟩=some (.string mrs)/\W.cell? ⟨w.heap.size,6,none⟩=some (.slice sva svn svc)/\W.cell? ⟨w.heap.size,7,none⟩=some (.int .i64 sl):=fun W hb=>by
  have a:=hbx.below hb hbx.lt
  exact⟨a.cell rfl,a.cell rfl,a.cell rfl,a.cell rfl,a.cell rfl,a.cell rfl,a.cell rfl,a.cell rfl⟩
 replace hread:=Lib.hid hread
 clear h h0 hcap ht hbx
 by_cases hE0:E=0
 ·have hS:=hsz hE0
  obtain⟨a1,a2,a3,a4,a5,a6⟩:=hsane.out hE0
  replace hS:=Lib.hid hS
  replace a2:=Lib.hid a2
  replace a4:=Lib.hid a4
  replace a5:=Lib.hid a5
  clear hsz hsane a1 a3 a6
  subst hE0
  go_enter Tryz.func36,Tryz.ntmps36
  go_wp2_with (first
   |(go_at_call 65;refine K1.mono ?_;clear K1;rintro e W1 ⟨rfl,hb1⟩;have hB1:=hb0.trans (hb1.mono hb0.size);obtain⟨q0,q1,q2,q3,q4,q5,q6,q7⟩:=hread.out _ hb1)
   |(go_at_call 58;refine(KC.out _ hB1 hS.out).mono ?_;clear KC;rintro e W2 ⟨⟨n0,⟨ra,rn,rc⟩,⟨ka,kn,kc⟩,⟨oa,on,oc⟩,⟨aa,an,ac⟩,n1,⟨va,vn,vc⟩,ns⟩,M,rfl,hb2,hmach,hfr2,hlike,hcap2⟩;have hB2:=hB1.trans (hb2.mono hB1.size);have hst:Hid (jX w d L W2 (MV.mk n0 ⟨ra,rn,rc⟩ ⟨ka,kn,kc⟩ ⟨oa,on,oc⟩ ⟨aa,an,ac⟩ n1 ⟨va,vn,vc⟩ ns) M):=Lib.hid ⟨hB2.size,hmach,hlike,hcap2,hfr2.mono hB1.size⟩;clear hmach hfr2 hlike hcap2 hb2 q0 q1 q2 q3 q4 q5 q6 q7 hb1)
   |(go_at_call 66;refine((hst.out.one hS.out a2.out)).mono ?_;rintro e W4 ⟨rfl,hq4,rS,rM,rl,hC4,hR4,hL4⟩;replace hR4:=Lib.hid hR4;replace hL4:=Lib.hid hL4)
   |(go_at_call 67;refine(hst.out.two hS.out a4.out hq4 hC4 hR4.out).mono ?_;rintro e W5 ⟨rfl,hq5,cS,cM,cl,hC5,hK5⟩;have hqq5:=But.trans hq4 hq5;have hR5:=Lib.hid ((hR4.out.but hC4 hq5).same (tb':=TB.mk (MV.mk n0 ⟨ra,rn,rc⟩ ⟨ka,kn,kc⟩ ⟨oa,on,oc⟩ ⟨aa,an,ac⟩ n1 ⟨va,vn,vc⟩ ns) rS rM cS cM ⟨none,0,0⟩ none ⟨none,0,0⟩ 0 ⟨none,0,0⟩ ⟨none,0,0⟩) rfl rfl);have hL5:=Lib.hid (fun x hx=>(But.stays hq5 hC4).set (hL4.out x hx) (by decide));replace hK5:=Lib.hid hK5)
   |(go_at_call 68;refine(hst.out.three hS.out a5.out hqq5 hC5 hR5.out hL5.out hK5.out).mono ?_;rintro e W6 ⟨rfl,hq6,oS,oM,ol,hC6,hO6⟩;have hqq6:=But.trans hqq5 hq6;have hR6:=Lib.hid ((hR5.out.but hC5 hq6).same (tb':=TB.mk (MV.mk n0 ⟨ra,rn,rc⟩ ⟨ka,kn,kc⟩ ⟨oa,on,oc⟩ ⟨aa,an,ac⟩ n1 ⟨va,vn,vc⟩ ns) rS rM cS cM oS oM ⟨none,0,0⟩ 0 ⟨none,0,0⟩ ⟨none,0,0⟩) rfl rfl);have hL6:=Lib.hid (fun x hx=>(But.stays hq6 hC5).set (hL5.out x hx) (by decide));have hK6:=Lib.hid (hK5.out.but hC5 hq6);replace hO6:=Lib.hid hO6)
   |(go_at_call 69;refine(hst.out.four hS.out hqq6 hC6 hR6.out).mono ?_;intro e W7 hp7;obtain⟨rfl,hq7,tb,htab⟩:=hst.out.done hS.out hqq6 hC6 hR6.out hL6.out hK6.out hO6.out (by simp) (by have:=hq4.size;simp at this;omega) (by have:=hqq5.size;simp at this;omega) hp7;replace htab:=Lib.hid htab;have hqq7:=But.trans hqq6 hq7))
  go_ret2
  refine(hpost.out _ _).2 ⟨hB2.trans ((hst.out.low hqq7).mono hB2.size),.inr ⟨by first|rfl|trivial,W2.heap.size,M,tb,rl,cl,ol,rfl,hB2.size,htab.out⟩⟩
 ·have hne:(E ==(0:Int))=false:=by simpa using hE0
  have hne2:(E !=(0:Int))=true:=by simpa using hE0
  clear hsz hsane KC
  go_enter Tryz.func36,Tryz.ntmps36
  go_wp2_with (go_at_call 65;refine K1.mono ?_;clear K1;rintro e W1 ⟨rfl,hb1⟩)
  go_ret2
  exact(hpost.out _ _).2 ⟨hb0.trans (hb1.mono hb0.size),.inl ⟨hE0,rfl⟩⟩
end Go.Proofs.YtkoloennfejaaaaGreatDoor
