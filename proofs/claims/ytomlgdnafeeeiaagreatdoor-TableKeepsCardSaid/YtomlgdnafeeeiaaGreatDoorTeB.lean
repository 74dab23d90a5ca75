/-
 law7's regs: what a table tells of registers is as the reference tells it.
-/
import Derived.Test.YtomlgdnafeeeiaaGreatDoorTdAP
import Derived.Test.YtomlgdnafeeeiaaGreatDoorTeA
import Derived.Deep.CutRange
namespace Go.Proofs.YtomlgdnafeeeiaaGreatDoor
open Proofs.Tryz
open Go.RowKit
structure XT(w:World)(C T:Nat)(i:Int)(nm:ByteArray)(p0 p1 p2 kk:Int)(ok sv:Bool):Prop where
 reg:∀W,BX w W->Calls prog 38 #[.pointer (some ⟨C,0,none⟩),.string nm] W fun e w'=>e = .returned (.tuple #[.int .i64 kk,.bool ok])/\BX W w'
 name:∀W,BX w W->Calls prog 39 #[.pointer (some ⟨C,0,none⟩),.int .i64 i] W fun e w'=>e = .returned (.string nm)/\BX W w'
 place:∀W,BX w W->Calls prog 40 #[.pointer (some ⟨C,0,none⟩),.int .i64 i] W fun e w'=>e = .returned (.agg #[.int .i64 p0,.int .i64 p1,.int .i64 p2])/\BX W w'
 surv:∀W,BX w W->Calls prog 41 #[.pointer (some ⟨C,0,none⟩),.int .i64 i] W fun e w'=>e = .returned (.bool sv)/\BX W w'
 rsurv:∀W,BX w W->Calls prog 42 #[.pointer (some ⟨T,0,none⟩),.int .i64 i] W fun e w'=>e = .returned (.bool sv)/\BX W w'
theorem qig{s:ByteArray}(h:s≠⟨#[]⟩):¬ s.toList = []:=fun e=>h (by
 rw[ByteArray.toList_eq] at e
 cases s with
 |mk d=>
  have h2:d=#[]:=Array.ext' (by simpa using e)
  rw[h2])
theorem qkT{ns:List ByteArray}{s:ByteArray}(h:s∉ns):qv ns s = -1:=by
 rcases xh (fun x=>eqB x s) ns with⟨h1,_⟩|⟨k,hk,_,h2⟩
 ·exact h1
 ·exfalso
  apply h
  have:ns[k]=s:=by unfold eqB at h2;exact of_decide_eq_true h2
  rw[←this];exact List.getElem_mem hk
structure qjT(base:Nat)(w:World)(C T:Nat)(d:qz)(L M:qg)(tb:TB)(rl:List qY)(cl:List zZ)(ol:List OpT)(t:TV):Prop where
 tab:yB base w C d L M tb rl cl ol
 ok:jy w T t d (qC L) (qQ L) (qr (qC L) d.classes)
 nodup:(qC L).Nodup
 size:∀s,s∈qC L->s.size<=20
 full:∀s,s∈qC L->s≠⟨#[]⟩
 saved:∀x,x∈d.saved->0<=qv (qC L) x
 fewS:d.saved.length<=64
 roots:tb.m.regs.n=t.m.regs.n
 bits:Go.Proofs.TabAt 0 Lib.deBruijn64tab w
section
variable {base:Nat} {w:World} {C T:Nat} {d:qz} {L M:qg} {tb:TB} {rl:List qY} {cl:List zZ} {ol:List OpT} {t:TV}
theorem qgI(h:qjT base w C T d L M tb rl cl ol t)(i:Int)(nm:ByteArray)(kk:Int)(ok:Bool)(hk:xG (qC L) nm=kk)(ho:qbG (qC L) nm=ok)(hn:nm.size<=20)(he:(zJ rl i).name=nm) :
 XT w C T i nm (zJ rl i).root (zJ rl i).at_ (zJ rl i).width kk ok (qci (qC L) (qQ L) d.saved i) where
 reg:=fun W hb=>by
  have:=qfW C base tb (qC L) nm W (h.tab.below hb).tab (h.tab.below hb).regs.map (by omega)
  rw[hk,ho] at this;exact this
 name:=fun W hb=>by
  have hT:=h.tab.below hb
  have:=qkI C tb.rS (.map tb.rM) rl i W (hT.tab.cell (j:=8) rfl) (hT.tab.cell (j:=9) rfl) (xH.of_row hT.regs.row)
  rw[he] at this;exact this
 place:=fun W hb=>by
  have hT:=h.tab.below hb
  exact qaS C tb.rS (.map tb.rM) rl i W (hT.tab.cell (j:=8) rfl) (hT.tab.cell (j:=9) rfl) (xH.of_row hT.regs.row)
 surv:=fun W hb=>by
  have hT:=h.tab.below hb
  exact qeF C tb.surv _ i W (hT.tab.cell (j:=17) rfl) hT.surv
 rsurv:=fun W hb=>qeM T t d (qC L) (qQ L) _ i W (h.ok.below hb) (by have:=h.fewS;omega) h.saved
theorem qkU(h:qjT base w C T d L M tb rl cl ol t){j:Nat}(hj:j<(qC L).length) :
 ∃nm p0 p1 p2 sv,(qC L)[j]?=some nm/\(qQ L)[j]?=some (p0,p1,p2)/\XT w C T j nm p0 p1 p2 j true sv:=by
 have hlen:rl.length=(qC L).length:=by rw[←h.tab.regs.names,vP]
 obtain⟨x,hx⟩:∃x,rl[j]?=some x:=⟨rl[j],vE (by omega)⟩
 have hnm:(qC L)[j]?=some x.name:=by rw[←h.tab.regs.names,vY,hx];rfl
 have hpl:(qQ L)[j]?=some x.plc:=by rw[←h.tab.regs.places,vY,hx];rfl
 have hg:zJ rl (j:Int)=x:=by unfold zJ;rw[if_pos (by omega),vG,Int.toNat_natCast,hx];rfl
 have hrn:qv (qC L) x.name=j:=by
  obtain⟨i,h1,h2⟩:=qgy (vM hnm)
  rw[h1,(List.getElem?_inj (vS.1 h2).1 h.nodup).1 (h2.trans hnm.symm)]
 have:=qgI h j x.name j true (by unfold xG;rw[hrn];omega) (by unfold qbG;rw[hrn];exact vT (by omega)) (h.size _ (vM hnm)) (by rw[hg])
 rw[hg] at this
 exact⟨x.name,x.root,x.at_,x.width,_,hnm,hpl,this⟩
theorem qjU(h:qjT base w C T d L M tb rl cl ol t){i:Int}(hi:i<0∨((qC L).length:Int)<=i):∃sv,XT w C T i ⟨#[]⟩ 0 0 0 0 false sv:=by
 have hlen:rl.length=(qC L).length:=by rw[←h.tab.regs.names,vP]
 have hg:zJ rl i=qY.none:=by
  unfold zJ
  by_cases h0:0<=i
  ·rw[if_pos h0,vG,List.getElem?_eq_none (by omega)];rfl
  ·rw[if_neg h0]
 have hrn:qv (qC L) ⟨#[]⟩ = -1:=qkT fun hm=>h.full _ hm rfl
 have:=qgI h i ⟨#[]⟩ 0 false (by unfold xG;rw[hrn];omega) (by unfold qbG;rw[hrn];exact vF (by omega)) (by decide) (by rw[hg];rfl)
 rw[hg] at this
 exact⟨_,this⟩
end
def Zf(ps:List Plc)(a:Int)(k:Nat):List Int:=((List.range k).filter fun q:Nat=>QJ ps a q).map fun q:Nat=>(q:Int)
theorem qjV{ps:List Plc}{a:Int}{k:Nat}(h:QJ ps a k=true):Zf ps a (k+1)=Zf ps a k++[(k:Int)]:=by
 unfold Zf
 rw[List.range_succ,List.filter_append,kM]
 congr 1
 simp[h]
theorem qkV{ps:List Plc}{a:Int}{k:Nat}(h:QJ ps a k=false):Zf ps a (k+1)=Zf ps a k:=by
 unfold Zf
 rw[List.range_succ,List.filter_append,kM]
 simp[h]
theorem qkW(ps:List Plc)(a:Int)(k:Nat):(Zf ps a k).length<=k:=by
 unfold Zf
 rw[vP]
 exact vR (List.length_filter_le _ _) (by simp)
theorem qjW{ps:List Plc}(h:ps.length<=200)(a:Int):Xh (fun n:Nat=>QJ ps a n)=Zf ps a ps.length:=by
 have e:(List.range 65536).filter (fun n:Nat=>QJ ps a n)=(List.range ps.length).filter fun n:Nat=>QJ ps a n:=by
  obtain⟨m,hm⟩:∃m,65536=ps.length+m:=⟨65536-ps.length,by omega⟩
  rw[hm,List.range_add,List.filter_append]
  have:((List.range m).map (ps.length+·)).filter (fun n:Nat=>QJ ps a n) = []:=by
   rw[List.filter_eq_nil_iff]
   intro n hn
   obtain⟨i,_,rfl⟩:=List.mem_map.1 hn
   unfold QJ
   rw[vF (p:=((ps.length+i:Nat):Int)<(ps.length:Int)) (by omega)]
   simp
  rw[this,List.append_nil]
 unfold Xh Zf qgC
 rw[e]
def Zs(base:Nat)(W:World)(a:Option Addr)(n:Nat):Prop:=n=0∨∃ (g:Nat) (cs:Array Value),a=some ⟨g,0,none⟩/\base<=g/\qd W g 3 cs/\n<=cs.size
theorem Zs.of{base n:Nat}{W:World}{a:Option Addr}{c:Nat}{l:List Value}(h:W.ownsRow base 3 1 (.slice a n c) l.length l):Zs base W a n:=by
 rcases h.2 with⟨h1,_⟩|⟨g,cap,cur,h1,h2,h3,h4,h5,h6,_⟩
 ·injection h1 with e1 e2 e3
  exact .inl e2
 ·injection h1 with e1 e2 e3
  exact .inr ⟨g,cur,e1,h2,h3,by omega⟩
end Go.Proofs.YtomlgdnafeeeiaaGreatDoor
set_option maxHeartbeats 16000000
set_option maxRecDepth 100000
namespace Go.Proofs.YtomlgdnafeeeiaaGreatDoor
open Proofs.Tryz
open Go.RowKit
theorem qeO{base:Nat}{w:World}{C T:Nat}{d:qz}{L M:qg}{tb:TB}{rl:List qY}{cl:List zZ}{ol:List OpT}{t:TV}(h:qjT base w C T d L M tb rl cl ol t) :
 Calls prog 10 #[.pointer (some ⟨C,0,none⟩),.pointer (some ⟨T,0,none⟩)] w fun e w'=>e = .returned (.bool true)/\BX w w':=by
 have hrl:rl.length=(qC L).length:=by rw[←h.tab.regs.names,vP]
 have e1:tb.rS.n=(qC L).length:=by rw[(jk h.tab.regs.row).1,hrl]
 have hps:(qQ L).length=(qC L).length:=h.ok.len.symm
 have hfew:(qC L).length<=200:=by have:=h.ok.few;omega
 have KG:=qeG C tb.rS w (h.tab.tab.cell (j:=8) rfl)
 rw[e1] at KG
 have KR:=qjK C tb.m.regs w (h.tab.tab.cell (j:=1) rfl)
 rw[h.roots] at KR
 have KQ:=qjS T t w h.ok.tab
 have c8:=qd.cell h.ok.tab (j:=8) (v:=.slice t.names.a t.names.n t.names.c) rfl
 have c9:=qd.cell h.ok.tab (j:=9) (v:=.slice t.places.a t.places.n t.places.c) rfl
 have n8:t.names.n=(qC L).length:=h.ok.names.1
 have n9:t.places.n=(qC L).length:=by have:=h.ok.places.len;rw[←hps];exact this
 rw[n8] at c8
 rw[n9] at c9
 have hIn:Hid (∀j:Nat,j<(qC L).length->∃nm p0 p1 p2 sv,nm≠⟨#[]⟩/\XT w C T j nm p0 p1 p2 j true sv/\(∃b o,t.names.a=some ⟨b,o,none⟩/\w.cell? ⟨b,o+j,none⟩=some (.string nm)) /\
  ∃b o,t.places.a=some ⟨b,o,none⟩/\w.cell? ⟨b,o+j*3,none⟩=some (.int .i64 p0)/\w.cell? ⟨b,o+j*3+1,none⟩=some (.int .i64 p1)/\w.cell? ⟨b,o+j*3+2,none⟩=some (.int .i64 p2)):=vH fun j hj=>by
  obtain⟨nm,p0,p1,p2,sv,h1,h2,h3⟩:=qkU h hj
  exact⟨nm,p0,p1,p2,sv,h.full _ (vM h1),h3,h.ok.names.2.2 j nm h1,h.ok.places.at_ j _ h2⟩
 have hOut:Hid (∀i:Int,(i<0∨((qC L).length:Int)<=i)->∃sv,XT w C T i ⟨#[]⟩ 0 0 0 0 false sv):=vH fun i hi=>qjU h hi
 have hLap:Hid (∀ (W:World) (i:Int) (j:Nat),BX w W->Calls prog 23 #[.pointer (some ⟨T,0,none⟩),.int .i64 i,.int .i64 j] W fun e w'=>e = .returned (.bool (QJ (qQ L) i j))/\BX W w'):=
  vH fun W i j hb=>qaK T t (qQ L) i j W (h.ok.below hb).tab (h.ok.below hb).places
 have hLaps:Hid (∀ (W:World) (i:Int),BX w W->Calls prog 17 #[.pointer (some ⟨C,0,none⟩),.int .i64 i] W fun e w'=>BX W w'/\∃ (a:Option Addr) (m c:Nat),e = .returned (.slice a m c)/\w'.ownsRow W.heap.size 3 1 (.slice a m c) (Zf (qQ L) i (qC L).length).length ((Zf (qQ L) i (qC L).length).map (Value.int .i64))/\qJ w' ⟨a,m,c⟩ (Zf (qQ L) i (qC L).length)):=vH fun W i hb=>by
  have hT:=h.tab.below hb
  have:=qgG C tb.rS (.map tb.rM) rl _ i W (hT.tab.cell (j:=8) rfl) (hT.tab.cell (j:=9) rfl) (xH.of_row hT.regs.row) (hT.lapSet i) (fun j hj=>qb hb (h.bits j hj))
  rw[qjW (by omega),hps] at this
  exact this.mono fun e w' ⟨h1,⟨a,m,c⟩,h2,h3,h4⟩=>⟨h1,a,m,c,h2,h3,h4⟩
 generalize qQ L=ps at *
 generalize(qC L).length=n at *
 generalize t.names.a=na at *
 generalize t.names.c=nc at *
 generalize t.places.a=pa at *
 generalize t.places.c=pc at *
 generalize t.m.regs.n=rn at *
 clear h hrl e1 n8 n9 hps
 go_enter func10,ntmps10
 go_wp2_with (first
  |(go_at_call 15;refine KG.mono ?_;clear KG;rintro e W1 ⟨rfl,rfl⟩)
  |(go_at_call 36;refine KR.mono ?_;clear KR;rintro e W1 ⟨rfl,rfl⟩)
  |(go_at_call 37;refine KQ.mono ?_;clear KQ;rintro e W1 ⟨rfl,rfl⟩))
 go_loopw [6] (fun iv wr=>∃k:Nat,k<=n+2/\iv = .int .i64 ((k:Int)-1)/\BX w wr) (fun iv _=>n+2-(intOf iv+1).toNat)
 case atStart=>exact⟨0,by omega,by simp,kB _ _⟩
 case round=>
  obtain⟨k,hk,rfl,hb⟩:=hrel
  by_cases hlt:k<n+2
  ·obtain⟨i,hi⟩:∃i:Int,i=(k:Int)-1:=⟨_,rfl⟩
   rw[←hi]
   have hle:i<=(n:Int):=by omega
   have hiw:IntKind.i64.wrap (i+1)=(k:Int):=by rw[vI _ (by omega)];omega
   have hfact:∃nm p0 p1 p2 kk ok sv,XT w C T i nm p0 p1 p2 kk ok sv/\((ok=true/\0<=i/\i<n/\kk=i/\nm≠⟨#[]⟩/\(∃b o,na=some ⟨b,o,none⟩/\w.cell? ⟨b,o+i.toNat,none⟩=some (.string nm)) /\
    ∃b o,pa=some ⟨b,o,none⟩/\w.cell? ⟨b,o+i.toNat*3,none⟩=some (.int .i64 p0)/\w.cell? ⟨b,o+i.toNat*3+1,none⟩=some (.int .i64 p1)/\w.cell? ⟨b,o+i.toNat*3+2,none⟩=some (.int .i64 p2)) ∨
    (ok=false/\(i<0∨(n:Int)<=i)/\kk=0/\nm=⟨#[]⟩/\p0=0/\p1=0/\p2=0)):=by
    by_cases hin:0<=i/\i<n
    ·obtain⟨j,rfl⟩:∃j:Nat,i=j:=⟨i.toNat,by omega⟩
     obtain⟨nm,p0,p1,p2,sv,h1,h2,h3,h4⟩:=hIn.out j (by omega)
     exact⟨nm,p0,p1,p2,j,true,sv,h2,.inl ⟨rfl,hin.1,hin.2,rfl,h1,h3,h4⟩⟩
    ·obtain⟨sv,h1⟩:=hOut.out i (by omega)
     exact⟨_,0,0,0,0,false,sv,h1,.inr ⟨rfl,by omega,rfl,rfl,rfl,rfl,rfl⟩⟩
   obtain⟨nm,p0,p1,p2,kk,ok,sv,hF,hcase⟩:=hfact
   replace hcase:=vH hcase
   replace hF:=vH hF
   replace hi:=vH hi
   obtain⟨W0,hW0⟩:∃W0,W0=wr.alloc (.cells #[.int .i64 0,.int .i64 0,.int .i64 0] 87):=⟨_,rfl⟩
   obtain⟨B,hB⟩:∃B,B=wr.heap.size:=⟨_,rfl⟩
   have hbW0:BX w W0:=by rw[hW0];exact hb.alloc hb.size _
   have hbox0:qd W0 B 87 #[.int .i64 0,.int .i64 0,.int .i64 0]:=by rw[hW0,hB];exact qd.new _ _ _
   have hBw:w.heap.size<=B:=by rw[hB];exact hb.size
   replace hW0:=vH hW0
   replace hB:=vH hB
   clear hIn hOut hlt
   go_upto_region 9 with fail
   rw[←hW0.out,←hB.out]
   go_cut [43] from 32 to 136 (fun s Wx=>s = .bool ok/\Wx=W0)
   case first=>
    rcases hcase.out with⟨rfl,h0,h1,_⟩|⟨rfl,h0,_⟩
    ·go_wp2_with fail
     go_meet
     exact⟨rfl,rfl⟩
    ·by_cases h1:i<0
     ·have h2:¬ 0<=i:=by omega
      go_wp2_with fail
      go_meet
      exact⟨rfl,rfl⟩
     ·have h2:0<=i:=by omega
      have h3:¬ i<(n:Int):=by omega
      go_wp2_with fail
      go_meet
      exact⟨rfl,rfl⟩
   case rest=>
    obtain⟨rfl,hwc⟩:=hcut
    subst wc
    go_upto_if 43 with fail
    go_cut [7] from 32 to 136 (fun s Wx=>s = .string nm/\qd Wx B 87 #[.int .i64 p0,.int .i64 p1,.int .i64 p2]/\BX w Wx)
    case first=>
     rcases hcase.out with⟨rfl,h0,h1,_,_,⟨b,o,rfl,q0⟩,⟨b2,o2,rfl,r0,r1,r2⟩⟩|⟨rfl,_,_,rfl,rfl,rfl,rfl⟩
     ·obtain⟨j,rfl⟩:∃j:Nat,i=j:=⟨i.toNat,by omega⟩
      rw[Int.toNat_natCast] at q0 r0 r1 r2
      have j1:j<n:=by omega
      have d8:=qb hbW0 c8
      have d9:=qb hbW0 c9
      have s0:=qb hbW0 q0
      have t0:=qb hbW0 r0
      have t1:=qb hbW0 r1
      have t2:=qb hbW0 r2
      have x0:=hbox0.cell (j:=0) (v:=.int .i64 0) rfl
      have x1:=hbox0.cell (j:=1) (v:=.int .i64 0) rfl
      have x2:=hbox0.cell (j:=2) (v:=.int .i64 0) rfl
      have f0:=hbox0.frozen 0
      have f1:=hbox0.frozen 1
      have f2:=hbox0.frozen 2
      have hfin:Hid (qd (((W0.setCell ⟨B,0,none⟩ (.int .i64 p0)).setCell ⟨B,1,none⟩ (.int .i64 p1)).setCell ⟨B,2,none⟩ (.int .i64 p2)) B 87 #[.int .i64 p0,.int .i64 p1,.int .i64 p2]/\BX w (((W0.setCell ⟨B,0,none⟩ (.int .i64 p0)).setCell ⟨B,1,none⟩ (.int .i64 p1)).setCell ⟨B,2,none⟩ (.int .i64 p2))):=
       vH ⟨((hbox0.set (j:=0) (.int .i64 p0)).set (j:=1) (.int .i64 p1)).set (j:=2) (.int .i64 p2),((hbW0.setCell (p:=⟨B,0,none⟩) hBw _).setCell (p:=⟨B,1,none⟩) hBw _).setCell (p:=⟨B,2,none⟩) hBw _⟩
      clear hbox0 q0 r0 r1 r2 c8 c9
      go_wp2_with fail
      go_meet
      exact⟨rfl,hfin.out⟩
     ·go_wp2_with fail
      go_meet
      exact⟨rfl,hbox0,hbW0⟩
    case rest=>
     obtain⟨rfl,hbx,hbc⟩:=hcut
     clear hbox0 hbW0 hW0 hB
     have hbx':=vH hbx
     clear hbx
     go_upto_region 13 with(go_at_call 38;refine(hF.out.reg _ hbc).mono ?_;rintro e V0 ⟨rfl,hv0⟩)
     have hbV:BX w V0:=hbc.trans (hv0.mono hbc.size)
     have hbx:=hbx'.out.below hv0 hbx'.out.lt
     clear hbx' hbc hv0
     go_cut [106] from 32 to 136 (fun s Wx=>s = .bool false/\BX w Wx)
     case first=>
      have hbd:BX w V0.drew:=hbV.drew
      have z0:=hbx.cell (j:=0) (v:=.int .i64 p0) rfl
      have z1:=hbx.cell (j:=1) (v:=.int .i64 p1) rfl
      have z2:=hbx.cell (j:=2) (v:=.int .i64 p2) rfl
      rcases hcase.out with⟨rfl,h0,h1,hkk,hne,_⟩|⟨rfl,_,rfl,rfl,rfl,rfl,rfl⟩
      ·have hkk2:(kk != i)=false:=by simp[hkk]
       have hkk3:(kk==i)=true:=by simp[hkk]
       clear hkk
       have hne4:=qig hne
       clear hne
       have hF:=hF.out
       clear hbx hcase
       refine wp_region_held_drew (S:=fun w'=>w'.cell? ⟨B,0,none⟩=some (.int .i64 p0)/\w'.cell? ⟨B,1,none⟩=some (.int .i64 p1)/\w'.cell? ⟨B,2,none⟩=some (.int .i64 p2)) (by kernel_rfl) ⟨z0,z1,z2⟩ (fun hH=>?_)
       refine tk 0 (some 64) (.pointer (some ⟨C,0,none⟩)) rfl hH ?_
       try simp only[Act.put,vK,kZ,kS]
       refine tk 1 (some 65) (.int .i64 i) rfl hH ?_
       try simp only[Act.put,vK,kZ,kS]
       refine tk 3 (some 67) (.string nm) rfl hH ?_
       try simp only[Act.put,vK,kZ,kS]
       refine wpAnyH_ready (rs:=[2]) (by kernel_rfl) (by simp) (AllReadyH.cons rfl (fun K hK=>?_) AllReadyH.nil)
       go_simp
       go_at_call 39
       refine(hF.name _ hbd).mono ?_
       rintro e V1 ⟨rfl,hv1⟩
       have hA1:=hbd.trans (hv1.mono hbd.size)
       have hH1:V1.cell? ⟨B,0,none⟩=some (.int .i64 p0)/\V1.cell? ⟨B,1,none⟩=some (.int .i64 p1)/\V1.cell? ⟨B,2,none⟩=some (.int .i64 p2):=⟨qb hv1 hH.1,qb hv1 hH.2.1,qb hv1 hH.2.2⟩
       try go_simp
       refine hK.out _ _ hH1 (fun _=>?_)
       clear hK K
       try simp only[Act.put,vK,kZ,kS]
       refine tk 4 (some 68) (.bool false) rfl hH1 ?_
       try simp only[Act.put,vK,kZ,kS]
       refine tk 5 (some 69) (.bool false) rfl hH1 ?_
       try simp only[Act.put,vK,kZ,kS]
       refine tk 6 (some 70) (.pointer (some ⟨C,0,none⟩)) rfl hH1 ?_
       try simp only[Act.put,vK,kZ,kS]
       refine tk 7 (some 71) (.int .i64 i) rfl hH1 ?_
       try simp only[Act.put,vK,kZ,kS]
       refine tk 9 (some 73) (.agg #[.int .i64 p0,.int .i64 p1,.int .i64 p2]) rfl hH1 ?_ (fun W hS=>by(obtain⟨s0,s1,s2⟩:=hS;go_simp))
       try simp only[Act.put,vK,kZ,kS]
       refine wpAnyH_ready (rs:=[8]) (by kernel_rfl) (by simp) (AllReadyH.cons rfl (fun K hK=>?_) AllReadyH.nil)
       go_simp
       go_at_call 40
       refine(hF.place _ hA1).mono ?_
       rintro e V2 ⟨rfl,hv2⟩
       have hA2:=hA1.trans (hv2.mono hA1.size)
       have hH2:V2.cell? ⟨B,0,none⟩=some (.int .i64 p0)/\V2.cell? ⟨B,1,none⟩=some (.int .i64 p1)/\V2.cell? ⟨B,2,none⟩=some (.int .i64 p2):=⟨qb hv2 hH1.1,qb hv2 hH1.2.1,qb hv2 hH1.2.2⟩
       try go_simp
       refine hK.out _ _ hH2 (fun _=>?_)
       clear hK K
       try simp only[Act.put,vK,kZ,kS]
       refine tk 10 (some 74) (.bool false) rfl hH2 ?_
       try simp only[Act.put,vK,kZ,kS]
       refine tk 11 (some 75) (.bool false) rfl hH2 ?_
       try simp only[Act.put,vK,kZ,kS]
       refine tk 12 (some 76) (.bool false) rfl hH2 ?_
       try simp only[Act.put,vK,kZ,kS]
       refine tk 13 (some 77) (.bool true) rfl hH2 ?_
       try simp only[Act.put,vK,kZ,kS]
       refine tk 14 (some 78) (.string nm) rfl hH2 ?_
       try simp only[Act.put,vK,kZ,kS]
       refine tk 15 (some 79) (.bool true) rfl hH2 ?_
       try simp only[Act.put,vK,kZ,kS]
       refine tk 16 (some 80) (.bool false) rfl hH2 ?_
       try simp only[Act.put,vK,kZ,kS]
       refine tk 17 (some 81) (.bool false) rfl hH2 ?_
       try simp only[Act.put,vK,kZ,kS]
       refine tk 18 (some 82) (.bool false) rfl hH2 ?_
       try simp only[Act.put,vK,kZ,kS]
       refine tk 19 (some 83) (.bool true) rfl hH2 ?_
       try simp only[Act.put,vK,kZ,kS]
       refine tk 20 (some 84) (.bool true) rfl hH2 ?_
       try simp only[Act.put,vK,kZ,kS]
       refine tk 21 (some 85) (.int .i64 kk) rfl hH2 ?_
       try simp only[Act.put,vK,kZ,kS]
       refine tk 22 (some 86) (.int .i64 i) rfl hH2 ?_
       try simp only[Act.put,vK,kZ,kS]
       refine tk 23 (some 87) (.bool false) rfl hH2 ?_
       try simp only[Act.put,vK,kZ,kS]
       refine tk 24 (some 88) (.bool false) rfl hH2 ?_
       try simp only[Act.put,vK,kZ,kS]
       refine tk 25 (some 89) (.bool false) rfl hH2 ?_
       try simp only[Act.put,vK,kZ,kS]
       refine tk 26 (some 90) (.bool false) rfl hH2 ?_
       try simp only[Act.put,vK,kZ,kS]
       refine tk 27 (some 91) (.bool true) rfl hH2 ?_
       try simp only[Act.put,vK,kZ,kS]
       refine tk 28 (some 92) (.bool false) rfl hH2 ?_
       try simp only[Act.put,vK,kZ,kS]
       refine tk 29 (some 93) (.bool false) rfl hH2 ?_
       try simp only[Act.put,vK,kZ,kS]
       refine jw 11 (by kernel_rfl) (fun d _ _ _ h=>by cases d <;> exact h) hH2 [(30,some 94),(31,some 95)] (by kernel_rfl) ?_
       try simp only[Xo,Act.put,vK,kS,kZ]
       refine tk 32 (some 96) (.bool false) rfl hH2 ?_
       try simp only[Act.put,vK,kZ,kS]
       refine tk 33 (some 97) (.bool false) rfl hH2 ?_
       try simp only[Act.put,vK,kZ,kS]
       refine tk 34 (some 98) (.bool false) rfl hH2 ?_
       try simp only[Act.put,vK,kZ,kS]
       refine tk 35 (some 99) (.pointer (some ⟨C,0,none⟩)) rfl hH2 ?_
       try simp only[Act.put,vK,kZ,kS]
       refine tk 36 (some 100) (.int .i64 i) rfl hH2 ?_
       try simp only[Act.put,vK,kZ,kS]
       refine tk 38 (some 102) (.pointer (some ⟨T,0,none⟩)) rfl hH2 ?_
       try simp only[Act.put,vK,kZ,kS]
       refine tk 39 (some 103) (.int .i64 i) rfl hH2 ?_
       try simp only[Act.put,vK,kZ,kS]
       refine wpAnyH_ready (rs:=[37]) (by kernel_rfl) (by simp) (AllReadyH.cons rfl (fun K hK=>?_) AllReadyH.nil)
       go_simp
       go_at_call 41
       refine(hF.surv _ hA2).mono ?_
       rintro e V3 ⟨rfl,hv3⟩
       have hA3:=hA2.trans (hv3.mono hA2.size)
       have hH3:V3.cell? ⟨B,0,none⟩=some (.int .i64 p0)/\V3.cell? ⟨B,1,none⟩=some (.int .i64 p1)/\V3.cell? ⟨B,2,none⟩=some (.int .i64 p2):=⟨qb hv3 hH2.1,qb hv3 hH2.2.1,qb hv3 hH2.2.2⟩
       try go_simp
       refine hK.out _ _ hH3 (fun _=>?_)
       clear hK K
       try simp only[Act.put,vK,kZ,kS]
       refine wpAnyH_ready (rs:=[40]) (by kernel_rfl) (by simp) (AllReadyH.cons rfl (fun K hK=>?_) AllReadyH.nil)
       go_simp
       go_at_call 42
       refine(hF.rsurv _ hA3).mono ?_
       rintro e V4 ⟨rfl,hv4⟩
       have hA4:=hA3.trans (hv4.mono hA3.size)
       have hH4:V4.cell? ⟨B,0,none⟩=some (.int .i64 p0)/\V4.cell? ⟨B,1,none⟩=some (.int .i64 p1)/\V4.cell? ⟨B,2,none⟩=some (.int .i64 p2):=⟨qb hv4 hH3.1,qb hv4 hH3.2.1,qb hv4 hH3.2.2⟩
       try go_simp
       refine hK.out _ _ hH4 (fun _=>?_)
       clear hK K
       try simp only[Act.put,vK,kZ,kS]
       refine tk 41 (some 105) (.bool false) rfl hH4 ?_
       try simp only[Act.put,vK,kZ,kS]
       refine tk 42 (some 106) (.bool false) rfl hH4 ?_
       try simp only[Act.put,vK,kZ,kS]
       refine wpAnyH_done (by kernel_rfl) ?_ _
       try simp only[Act.put,vK,kZ,kS]
       go_wp2_with fail
       go_meet
       exact⟨rfl,hA4⟩
      ·have hF:=hF.out
       clear hbx hcase
       refine wp_region_held_drew (S:=fun w'=>w'.cell? ⟨B,0,none⟩=some (.int .i64 0)/\w'.cell? ⟨B,1,none⟩=some (.int .i64 0)/\w'.cell? ⟨B,2,none⟩=some (.int .i64 0)) (by kernel_rfl) ⟨z0,z1,z2⟩ (fun hH=>?_)
       refine tk 0 (some 64) (.pointer (some ⟨C,0,none⟩)) rfl hH ?_
       try simp only[Act.put,vK,kZ,kS]
       refine tk 1 (some 65) (.int .i64 i) rfl hH ?_
       try simp only[Act.put,vK,kZ,kS]
       refine tk 3 (some 67) (.string ⟨#[]⟩) rfl hH ?_
       try simp only[Act.put,vK,kZ,kS]
       refine wpAnyH_ready (rs:=[2]) (by kernel_rfl) (by simp) (AllReadyH.cons rfl (fun K hK=>?_) AllReadyH.nil)
       go_simp
       go_at_call 39
       refine(hF.name _ hbd).mono ?_
       rintro e V1 ⟨rfl,hv1⟩
       have hA1:=hbd.trans (hv1.mono hbd.size)
       have hH1:V1.cell? ⟨B,0,none⟩=some (.int .i64 0)/\V1.cell? ⟨B,1,none⟩=some (.int .i64 0)/\V1.cell? ⟨B,2,none⟩=some (.int .i64 0):=⟨qb hv1 hH.1,qb hv1 hH.2.1,qb hv1 hH.2.2⟩
       try go_simp
       refine hK.out _ _ hH1 (fun _=>?_)
       clear hK K
       try simp only[Act.put,vK,kZ,kS]
       refine tk 4 (some 68) (.bool false) rfl hH1 ?_
       try simp only[Act.put,vK,kZ,kS]
       refine tk 5 (some 69) (.bool false) rfl hH1 ?_
       try simp only[Act.put,vK,kZ,kS]
       refine tk 6 (some 70) (.pointer (some ⟨C,0,none⟩)) rfl hH1 ?_
       try simp only[Act.put,vK,kZ,kS]
       refine tk 7 (some 71) (.int .i64 i) rfl hH1 ?_
       try simp only[Act.put,vK,kZ,kS]
       refine tk 9 (some 73) (.agg #[.int .i64 0,.int .i64 0,.int .i64 0]) rfl hH1 ?_ (fun W hS=>by(obtain⟨s0,s1,s2⟩:=hS;go_simp))
       try simp only[Act.put,vK,kZ,kS]
       refine wpAnyH_ready (rs:=[8]) (by kernel_rfl) (by simp) (AllReadyH.cons rfl (fun K hK=>?_) AllReadyH.nil)
       go_simp
       go_at_call 40
       refine(hF.place _ hA1).mono ?_
       rintro e V2 ⟨rfl,hv2⟩
       have hA2:=hA1.trans (hv2.mono hA1.size)
       have hH2:V2.cell? ⟨B,0,none⟩=some (.int .i64 0)/\V2.cell? ⟨B,1,none⟩=some (.int .i64 0)/\V2.cell? ⟨B,2,none⟩=some (.int .i64 0):=⟨qb hv2 hH1.1,qb hv2 hH1.2.1,qb hv2 hH1.2.2⟩
       try go_simp
       refine hK.out _ _ hH2 (fun _=>?_)
       clear hK K
       try simp only[Act.put,vK,kZ,kS]
       refine tk 10 (some 74) (.bool false) rfl hH2 ?_
       try simp only[Act.put,vK,kZ,kS]
       refine tk 11 (some 75) (.bool false) rfl hH2 ?_
       try simp only[Act.put,vK,kZ,kS]
       refine tk 12 (some 76) (.bool false) rfl hH2 ?_
       try simp only[Act.put,vK,kZ,kS]
       refine tk 13 (some 77) (.bool false) rfl hH2 ?_
       try simp only[Act.put,vK,kZ,kS]
       refine tk 14 (some 78) (.string ⟨#[]⟩) rfl hH2 ?_
       try simp only[Act.put,vK,kZ,kS]
       refine tk 15 (some 79) (.bool false) rfl hH2 ?_
       try simp only[Act.put,vK,kZ,kS]
       refine tk 16 (some 80) (.bool false) rfl hH2 ?_
       try simp only[Act.put,vK,kZ,kS]
       refine tk 17 (some 81) (.bool false) rfl hH2 ?_
       try simp only[Act.put,vK,kZ,kS]
       refine tk 18 (some 82) (.bool false) rfl hH2 ?_
       try simp only[Act.put,vK,kZ,kS]
       refine tk 19 (some 83) (.bool false) rfl hH2 ?_
       try simp only[Act.put,vK,kZ,kS]
       refine tk 20 (some 84) (.bool false) rfl hH2 ?_
       try simp only[Act.put,vK,kZ,kS]
       refine jw 19 (by kernel_rfl) (fun d _ _ _ h=>by cases d <;> exact h) hH2 [(21,some 85),(22,some 86),(23,some 87)] (by kernel_rfl) ?_
       try simp only[Xo,Act.put,vK,kS,kZ]
       refine tk 24 (some 88) (.bool false) rfl hH2 ?_
       try simp only[Act.put,vK,kZ,kS]
       refine tk 25 (some 89) (.bool false) rfl hH2 ?_
       try simp only[Act.put,vK,kZ,kS]
       refine tk 26 (some 90) (.bool false) rfl hH2 ?_
       try simp only[Act.put,vK,kZ,kS]
       refine tk 27 (some 91) (.bool false) rfl hH2 ?_
       try simp only[Act.put,vK,kZ,kS]
       refine tk 28 (some 92) (.bool true) rfl hH2 ?_
       try simp only[Act.put,vK,kZ,kS]
       refine tk 29 (some 93) (.bool true) rfl hH2 ?_
       try simp only[Act.put,vK,kZ,kS]
       refine tk 30 (some 94) (.int .i64 0) rfl hH2 ?_
       try simp only[Act.put,vK,kZ,kS]
       refine tk 31 (some 95) (.bool false) rfl hH2 ?_
       try simp only[Act.put,vK,kZ,kS]
       refine tk 32 (some 96) (.bool false) rfl hH2 ?_
       try simp only[Act.put,vK,kZ,kS]
       refine tk 33 (some 97) (.bool false) rfl hH2 ?_
       try simp only[Act.put,vK,kZ,kS]
       refine tk 34 (some 98) (.bool false) rfl hH2 ?_
       try simp only[Act.put,vK,kZ,kS]
       refine tk 35 (some 99) (.pointer (some ⟨C,0,none⟩)) rfl hH2 ?_
       try simp only[Act.put,vK,kZ,kS]
       refine tk 36 (some 100) (.int .i64 i) rfl hH2 ?_
       try simp only[Act.put,vK,kZ,kS]
       refine tk 38 (some 102) (.pointer (some ⟨T,0,none⟩)) rfl hH2 ?_
       try simp only[Act.put,vK,kZ,kS]
       refine tk 39 (some 103) (.int .i64 i) rfl hH2 ?_
       try simp only[Act.put,vK,kZ,kS]
       refine wpAnyH_ready (rs:=[37]) (by kernel_rfl) (by simp) (AllReadyH.cons rfl (fun K hK=>?_) AllReadyH.nil)
       go_simp
       go_at_call 41
       refine(hF.surv _ hA2).mono ?_
       rintro e V3 ⟨rfl,hv3⟩
       have hA3:=hA2.trans (hv3.mono hA2.size)
       have hH3:V3.cell? ⟨B,0,none⟩=some (.int .i64 0)/\V3.cell? ⟨B,1,none⟩=some (.int .i64 0)/\V3.cell? ⟨B,2,none⟩=some (.int .i64 0):=⟨qb hv3 hH2.1,qb hv3 hH2.2.1,qb hv3 hH2.2.2⟩
       try go_simp
       refine hK.out _ _ hH3 (fun _=>?_)
       clear hK K
       try simp only[Act.put,vK,kZ,kS]
       refine wpAnyH_ready (rs:=[40]) (by kernel_rfl) (by simp) (AllReadyH.cons rfl (fun K hK=>?_) AllReadyH.nil)
       go_simp
       go_at_call 42
       refine(hF.rsurv _ hA3).mono ?_
       rintro e V4 ⟨rfl,hv4⟩
       have hA4:=hA3.trans (hv4.mono hA3.size)
       have hH4:V4.cell? ⟨B,0,none⟩=some (.int .i64 0)/\V4.cell? ⟨B,1,none⟩=some (.int .i64 0)/\V4.cell? ⟨B,2,none⟩=some (.int .i64 0):=⟨qb hv4 hH3.1,qb hv4 hH3.2.1,qb hv4 hH3.2.2⟩
       try go_simp
       refine hK.out _ _ hH4 (fun _=>?_)
       clear hK K
       try simp only[Act.put,vK,kZ,kS]
       refine tk 41 (some 105) (.bool false) rfl hH4 ?_
       try simp only[Act.put,vK,kZ,kS]
       refine tk 42 (some 106) (.bool false) rfl hH4 ?_
       try simp only[Act.put,vK,kZ,kS]
       refine wpAnyH_done (by kernel_rfl) ?_ _
       try simp only[Act.put,vK,kZ,kS]
       go_wp2_with fail
       go_meet
       exact⟨rfl,hA4⟩
     case rest=>
      obtain⟨rfl,hbc⟩:=hcut
      clear hbx hbV hF hcase hb
      generalize wc=w1 at *
      go_wp2_with fail
      go_loopw [11,12,13] (fun v jv _ wr=>∃ (j:Nat) (s:SlV),j<=n/\jv = .int .i64 j/\v = .slice s.a s.n s.c/\Hid (wr.ownsRow w.heap.size 3 1 s.v (Zf ps i j).length ((Zf ps i j).map (Value.int .i64)))/\BX w wr) (fun _ jv _ _=>n-(intOf jv).toNat)
      case atStart=>exact⟨0,⟨none,0,0⟩,vO _,rfl,rfl,vH (kO _ _ _ _),hbc⟩
      case round=>
       obtain⟨j,⟨va,vn,vc⟩,hj,rfl,rfl,hrow,hB⟩:=hrel
       dsimp only at hrow ⊢
       have k0:(0:Int)<=j:=vN _
       have hBs:=hB.size
       have hlen:=qkW ps i j
       by_cases hlt:j<n
       ·have K:=hLap.out wr i j hB
        have hjw:IntKind.i64.wrap ((j:Int)+1)=j+1:=vI _ (by omega)
        obtain⟨i0,hi0,hz0,hz1,hz2⟩:=info_parts ji
        cases hz:QJ ps i j with
        |true=>
         have hs2:=vH (qjV hz)
         rw[hz] at K
         clear hz
         generalize Zf ps i j=L at hrow hs2 hlen
         go_wp2_with (first
          |(go_at_call 23;refine K.mono ?_;clear K;rintro e W1 ⟨rfl,hb1⟩;have hrow1:=qe hrow.out hb1;have hBW:=hB.trans (hb1.mono hB.size);have hBs1:=hBW.size)
          |(at_builtin;refine wpList_append_own_at _ rfl _ _ 55 rfl w.heap.size 3 i0 _ 1 8 underlying55 hi0 hz0 hz1 hz2 rfl (by decide) _ L.length (L.map (Value.int .i64)) rfl (hrow1.alloc _) ⟨W1.heap.size,0,none⟩ 1 1 [.int .i64 j] rfl rfl (zo _ _ _ _ rfl) (by simp[Value.oneCell']) (by unfold maxLen;omega) (by omega) (by simp;omega) ?_;intro v' W7 hown7 hgrow _ hblk;obtain⟨g',cap',rfl⟩:=ownsRow_succ hown7))
         have hB7:BX w W7:=(hBW.alloc hBs1 _).grown hgrow (by simp;omega) (fun g hg=>(qf hrow1 hg).1)
         replace hown7:Hid (W7.ownsRow w.heap.size 3 1 (SlV.v ⟨some ⟨g',0,none⟩,L.length+1,cap'⟩) (Zf ps i (j+1)).length ((Zf ps i (j+1)).map (Value.int .i64))):=vH (by
          rw[hs2.out,kA,kM];exact hown7)
         exact⟨⟨j+1,⟨some ⟨g',0,none⟩,L.length+1,cap'⟩,by omega,by go_num,rfl,hown7,hB7⟩,by simp[intOf];omega⟩
        |false=>
         have hs2:=vH (qkV hz)
         rw[hz] at K
         clear hz
         generalize Zf ps i j=L at hrow hs2 hlen
         go_wp2_with (go_at_call 23;refine K.mono ?_;clear K;rintro e W1 ⟨rfl,hb1⟩;have hrow1:=qe hrow.out hb1;have hBW:=hB.trans (hb1.mono hB.size))
         exact⟨⟨j+1,⟨va,vn,vc⟩,by omega,by go_num,rfl,vH (by rw[hs2.out];exact hrow1),hBW⟩,by simp[intOf];omega⟩
       ·obtain rfl:j=n:=by omega
        have K:=hLaps.out wr i hB
        have hin:qJ wr ⟨va,vn,vc⟩ (Zf ps i j):=qJ.of_row hrow.out rfl
        generalize Zf ps i j=L at *
        replace hin:=vH hin
        clear hrow
        go_wp2_with (first
         |(go_at_call 17;refine K.mono ?_;clear K;rintro e W4 ⟨hb4,la,ln,lc,rfl,hr4,hi4⟩;have hB4:=hB.trans (hb4.mono hB.size);replace hr4:=vH hr4;replace hi4:=vH hi4)
         |(go_at_call 16;refine(qbe ⟨la,ln,lc⟩ ⟨va,vn,vc⟩ L W4 hi4.out (hin.out.below hb4) (by omega)).mono ?_;rintro e W5 ⟨rfl,hb5⟩;have hB5:=hB4.trans (hb5.mono hB4.size)))
        have hln:ln=L.length:=hi4.out.1
        subst hln
        have hr5:=qe (qm hr4.out hB.size) hb5
        have hmw:Hid (Zs w.heap.size W5 la L.length):=vH (Zs.of (l:=L.map (Value.int .i64)) (by rw[vP];exact hr5))
        clear hin hr4 hi4 hb4 hb5 hB4 hr5 hB
        generalize W5=w5 at *
        go_loopw [15] (fun q wr=>∃m:Nat,m<=L.length/\q = .int .i64 m/\BX w wr/\Hid (Zs w.heap.size wr la L.length)) (fun q _=>L.length-(intOf q).toNat)
        case atStart=>exact⟨0,vO _,rfl,hB5,hmw⟩
        case round=>
         clear hmw hB5
         obtain⟨m,hm,rfl,hB,hmw⟩:=hrel
         by_cases hlt:m<L.length
         ·have hmi:IntKind.i64.wrap ((m:Int)+1)=m+1:=vI _ (by omega)
          have m0:(0:Int)<=m:=vN _
          have m1:(m:Int)<L.length:=by omega
          rcases hmw.out with h0|⟨g,cs,rfl,hg,hC,hsz⟩
          ·omega
          have hcm:cs[m]?=some cs[m]:=Array.getElem?_eq_getElem (by omega)
          have c1:=hC.cell hcm
          have f1:=hC.frozen m
          have hfin:Hid (BX w (wr.setCell ⟨g,m,none⟩ (.int .i64 (-1)))/\Zs w.heap.size (wr.setCell ⟨g,m,none⟩ (.int .i64 (-1))) (some ⟨g,0,none⟩) L.length):=
           vH ⟨hB.setCell (p:=⟨g,m,none⟩) hg _,.inr ⟨g,_,rfl,hg,hC.set (j:=m) (.int .i64 (-1)),by simpa using hsz⟩⟩
          generalize cs[m]=cv at c1 hcm
          clear hcm hmw hC
          go_wp2_with fail
          exact⟨⟨m+1,by omega,by go_num,hfin.out.1,vH hfin.out.2⟩,by simp[intOf];omega⟩
         ·clear hmw
          obtain rfl:m=L.length:=by omega
          go_wp2_with fail
          have hi2:=hi.out
          exact⟨⟨k+1,by omega,by simp,hB⟩,by simp[intOf];omega⟩
  ·obtain rfl:k=n+2:=by omega
   have hgt:¬ (((n+2:Nat):Int)-1<=(n:Int)):=by omega
   clear hIn hOut hLap hLaps
   go_wp2_with fail
   go_ret
   exact⟨rfl,hb⟩
end Go.Proofs.YtomlgdnafeeeiaaGreatDoor
namespace Go.Proofs.YtomlgdnafeeeiaaGreatDoor
open Go.RowKit
theorem yl.n{w:World}{s:SlV}{L:qg}(h:yl w s L):s.n=L.length:=by
 rcases h with⟨rfl,rfl⟩|⟨b,o,c,rfl,_⟩
 ·rfl
 ·rfl
theorem qkX{base:Nat}{w0 w1 w:World}{C T:Nat}{m:MV}{d:qz}{L M:qg}{tb:TB}{rl:List qY}{cl:List zZ}{ol:List OpT}{nV pV cV:SlV}(hM:zP w0 m d L)(ht:XC d)(hx:yu d L=0)
 (hTab:yB base w C d L M tb rl cl ol) (hSt:jn w1 w T ⟨m,nV,pV,cV⟩ d (qC L) (qQ L)) (hLs:zW w cV (qr (qC L) d.classes)) (hbits:Go.Proofs.TabAt 0 Lib.deBruijn64tab w) :
 qjT base w C T d L M tb rl cl ol ⟨m,nV,pV,cV⟩ where
 tab:=hTab
 ok:=hSt.tabOk hLs
 nodup:=qcg (qaj hx).2.1
 size:=(XD hM ht hx).names
 full:=fun s hs e=>by
  obtain⟨x,hx1,hx2⟩:=List.mem_map.1 hs
  have h2:=(qaj hx).2.1
  rw[←zz] at hx1
  obtain⟨q,hq,rfl⟩:=List.mem_map.1 hx1
  have h3:=Qa qj _ _ h2 q hq
  rw[hx2,e] at h3
  exact absurd h3 (by decide)
 saved:=fun x hx1=>by
  have h1:=(XD hM ht hx).sn.2
  have h2:=zO (qC L) x
  by_cases h0:0<=qv (qC L) x
  ·exact h0
  ·exfalso
   have h3:qv (qC L) x = -1:=by omega
   have h4:(-1:Int)∈qh (qC L) d.saved:=List.mem_map.2 ⟨x,hx1,h3⟩
   rw[List.contains_eq_mem,vT h4] at h1
   cases h1
 fewS:=(XD hM ht hx).sn.1
 roots:=by
  show tb.m.regs.n=m.regs.n
  rw[hTab.mach.regs.n,hM.regs.n,hTab.like.length]
 bits:=hbits
end Go.Proofs.YtomlgdnafeeeiaaGreatDoor
