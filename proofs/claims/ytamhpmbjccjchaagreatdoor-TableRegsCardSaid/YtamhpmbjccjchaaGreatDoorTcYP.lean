/-
  law7's Make; TableLap beside the law's example.
-/
import Derived.Test.YtamhpmbjccjchaaGreatDoorTcPP
import Derived.Test.YtamhpmbjccjchaaGreatDoorTcWP
import Derived.Test.YtamhpmbjccjchaaGreatDoorRefThree
import Derived.Test.YtamhpmbjccjchaaGreatDoorBiD
set_option maxHeartbeats 6400000
set_option maxRecDepth 100000
namespace Go.Proofs.YtamhpmbjccjchaaGreatDoor
open Go.RowKit
theorem Qf{w:World}{m:MV}{d:MachD}{L:RegL}(h:QE w m d L):jN d where
 name:=by have:=h.nz;unfold Fit48;omega
 result:=by have:=h.rz;unfold Fit48;omega
 classes:=fun k hk=>⟨by have:=(h.fk.2 k hk).1;unfold Fit48;omega,fun s hs=>by have:=(h.fk.2 k hk).2.2 s hs;unfold Fit48;omega⟩
 ops:=fun o ho=>by
  obtain⟨h1,h2,h3,h4,h5⟩:=h.fp.2 o ho
  refine⟨by unfold Fit48;omega,⟨by unfold Fit48;omega,by unfold Fit48;omega⟩,fun u hu=>?_,fun s hs=>?_⟩
  ·have:=h4.2 u hu
   exact⟨by unfold Fit48;omega,by unfold Fit48;omega⟩
  ·have:=h5.2 s hs
   unfold Fit48;omega
 args:=fun s hs=>by have:=h.fa.2 s hs;unfold Fit48;omega
 saved:=fun s hs=>by have:=h.fs.2 s hs;unfold Fit48;omega
theorem qhm(x:Int)(w:World):Calls Tryz.prog 14 #[.int .i64 x] w fun e w'=>e = .returned (.int .i64 x)/\w=w':=by
 go_enter Tryz.func14,Tryz.ntmps14
 go_wp2
 go_ret
 exact⟨rfl,rfl⟩
theorem TabIn.mono{base base':Nat}{W:World}{C:Nat}{d:MachD}{L M:RegL}{tb:TB}{rl:List RegT}{cl:List ClsT}{ol:List OpT}(h:TabIn base W C d L M tb rl cl ol)(hb:base'<=base):TabIn base' W C d L M tb rl cl ol:=
 ⟨h.tab,h.mach,h.cap,h.like,h.regs.mono hb,h.laps,h.cls.mono hb,h.ops.mono hb,h.args,h.result,h.saved,h.surv⟩
def qhB(w:World)(m:MV)(d:MachD)(L:RegL)(e:Ending)(w':World):Prop:=
 Below w.heap.size w w' /\
  ((makeE d L≠0/\e = .returned (.tuple #[.pointer none,.pointer none,.bool true])) ∨
    (makeE d L=0/\∃ (C T:Nat) (M:RegL) (tb:TB) (rl:List RegT) (cl:List ClsT) (ol:List OpT) (nV pV cV:SlV),e = .returned (.tuple #[.pointer (some ⟨C,0,none⟩),.pointer (some ⟨T,0,none⟩),.bool true]) /\
      TabIn w.heap.size w' C d L M tb rl cl ol/\TabSt w w' T ⟨m,nV,pV,cV⟩ d (nmsL L) (plsL L)/\ListsO w w' cV (clsOf (nmsL L) d.classes)))
theorem qgQ{w:World}{m:MV}{d:MachD}{L:RegL}(hM:MachAt w m d L)(ht:jN d)(hI:yo w m d)(hn:m.name=d.name)(hcap:m.regs.n<=m.regs.c) :
 Calls Tryz.prog 7 #[m.val] w (qhB w m d L):=by
 obtain⟨mn,rg,kl,op,ar,rs,sv,sl⟩:=m
 show Calls Tryz.prog 7 #[.agg #[.string mn,.slice rg.a rg.n rg.c,.slice kl.a kl.n kl.c,.slice op.a op.n op.c,.slice ar.a ar.n ar.c,.string rs,.slice sv.a sv.n sv.c,.int .i64 sl]] w _
 obtain⟨W0,hW0⟩:∃W0,W0=w.alloc (.cells #[.string mn,.slice rg.a rg.n rg.c,.slice kl.a kl.n kl.c,.slice op.a op.n op.c,.slice ar.a ar.n ar.c,.string rs,.slice sv.a sv.n sv.c,.int .i64 sl] 27):=⟨_,rfl⟩
 have hb0:Below w.heap.size w W0:=by rw[hW0];exact qe
 have hbx:Cells W0 w.heap.size 27 #[.string mn,.slice rg.a rg.n rg.c,.slice kl.a kl.n kl.c,.slice op.a op.n op.c,.slice ar.a ar.n ar.c,.string rs,.slice sv.a sv.n sv.c,.int .i64 sl]:=by rw[hW0];exact Cells.new _ _ _
 have x0:=hbx.cell (j:=0) (v:=.string mn) rfl
 have x1:=hbx.cell (j:=1) (v:=.slice rg.a rg.n rg.c) rfl
 have x2:=hbx.cell (j:=2) (v:=.slice kl.a kl.n kl.c) rfl
 have x3:=hbx.cell (j:=3) (v:=.slice op.a op.n op.c) rfl
 have x4:=hbx.cell (j:=4) (v:=.slice ar.a ar.n ar.c) rfl
 have x5:=hbx.cell (j:=5) (v:=.string rs) rfl
 have x6:=hbx.cell (j:=6) (v:=.slice sv.a sv.n sv.c) rfl
 have x7:=hbx.cell (j:=7) (v:=.int .i64 sl) rfl
 have KT:=qaR ⟨mn,rg,kl,op,ar,rs,sv,sl⟩ d L W0 (hM.below hb0) ht (fun _=>hcap)
 change Calls _ _ #[.agg #[.string mn,.slice rg.a rg.n rg.c,.slice kl.a kl.n kl.c,.slice op.a op.n op.c,.slice ar.a ar.n ar.c,.string rs,.slice sv.a sv.n sv.c,.int .i64 sl]] W0 _ at KT
 have KR:∀W1,Below W0.heap.size W0 W1->Calls Tryz.prog 20 #[.agg #[.string mn,.slice rg.a rg.n rg.c,.slice kl.a kl.n kl.c,.slice op.a op.n op.c,.slice ar.a ar.n ar.c,.string rs,.slice sv.a sv.n sv.c,.int .i64 sl]] W1 (MakeR W1 ⟨mn,rg,kl,op,ar,rs,sv,sl⟩ d L):=fun W1 h1=>by
  have hB:=hb0.trans (h1.mono hb0.size)
  exact qgm (m:=⟨mn,rg,kl,op,ar,rs,sv,sl⟩) hn (hI.below hB) ((hM.below hB).regs) hcap
 replace hI:=Lib.hid hI
 clear hM ht hn hcap
 replace hW0:=Lib.hid hW0
 replace KR:=Lib.hid KR
 go_enter Tryz.func7,Tryz.ntmps7
 go_upto_region 1 with fail
 rw[←hW0.out]
 by_cases hx:makeE d L=0
 ·have hx2:qL nameB d (regsE L) (nmsL L) (plsL L)=0:=hx
  go_upto_region 2 with(go_at_call 13;refine KT.mono ?_;clear KT;rintro e W1 ⟨hb1,(⟨hne,_⟩|⟨_,C,M,tb,rl,cl,ol,rfl,hC,hTab⟩)⟩;· exact absurd hx2 hne)
  have y0:=cell_below hb1 x0
  have y1:=cell_below hb1 x1
  have y2:=cell_below hb1 x2
  have y3:=cell_below hb1 x3
  have y4:=cell_below hb1 x4
  have y5:=cell_below hb1 x5
  have y6:=cell_below hb1 x6
  have y7:=cell_below hb1 x7
  have K1:=KR.out W1 hb1
  replace hTab:=Lib.hid hTab
  clear x0 x1 x2 x3 x4 x5 x6 x7
  go_wp2_with (first
   |(go_at_call 20;refine K1.mono ?_;clear K1;rintro e W2 ⟨hb2,h2,_⟩;obtain⟨T,nV,pV,cV,rfl,hSt,hLs⟩:=h2 hx;replace hSt:=Lib.hid hSt;replace hLs:=Lib.hid hLs)
   |(go_at_call 14;refine(qhm _ _).mono ?_;rintro e W5 ⟨rfl,rfl⟩))
  go_ret3
  have hB1:Below w.heap.size w W1:=hb0.trans (hb1.mono hb0.size)
  exact⟨hB1.trans (hb2.mono hB1.size),.inr ⟨hx,C,T,M,tb,rl,cl,ol,nV,pV,cV,rfl,(hTab.out.below hb2).mono hb0.size,hSt.out.base' hB1 hI.out,hLs.out.base' hB1.size⟩⟩
 ·have hx2:qL nameB d (regsE L) (nmsL L) (plsL L)≠0:=hx
  have hmk:makeE d L=qL nameB d (regsE L) (nmsL L) (plsL L):=rfl
  go_upto_region 2 with(go_at_call 13;refine KT.mono ?_;clear KT;rintro e W1 ⟨hb1,(⟨_,rfl⟩|⟨h0,_⟩)⟩;rotate_left;· exact absurd h0 hx2)
  have y0:=cell_below hb1 x0
  have y1:=cell_below hb1 x1
  have y2:=cell_below hb1 x2
  have y3:=cell_below hb1 x3
  have y4:=cell_below hb1 x4
  have y5:=cell_below hb1 x5
  have y6:=cell_below hb1 x6
  have y7:=cell_below hb1 x7
  have K1:=KR.out W1 hb1
  clear x0 x1 x2 x3 x4 x5 x6 x7
  rw[←hmk]
  go_wp2_with (first
   |(go_at_call 20;refine K1.mono ?_;clear K1;rintro e W2 ⟨hb2,_,h3⟩;obtain rfl:=h3 hx)
   |(go_at_call 14;refine(qhm _ _).mono ?_;rintro e W5 ⟨rfl,rfl⟩))
  go_ret3
  have hB1:Below w.heap.size w W1:=hb0.trans (hb1.mono hb0.size)
  exact⟨hB1.trans (hb2.mono hB1.size),.inl ⟨hx,rfl⟩⟩
theorem SetAt.congr{W:World}{s:SlV}{p q:Nat->Bool}(h:SetAt W s p)(hq:∀n,p n=q n):SetAt W s q:=by
 obtain⟨ws,h1,h2,h3,h4⟩:=h
 exact⟨ws,h1,h2,h3,fun n=>(h4 n).trans (hq n)⟩
theorem qfE(ps:List Plc){a:Int}(h0:0<=a)(h1:a<ps.length)(n:Nat):lapsP ps (plc ps a) n=lapA ps a n:=by
 unfold lapsP lapA
 rw[decide_eq_true h0,decide_eq_true h1,decide_eq_true (show(0:Int)<=(n:Int) by omega)]
 simp only[Bool.true_and]
 congr 1
 rw[decide_eq_decide]
 omega
theorem TabIn.lapSet{base:Nat}{W:World}{C:Nat}{d:MachD}{L M:RegL}{tb:TB}{rl:List RegT}{cl:List ClsT}{ol:List OpT}(h:TabIn base W C d L M tb rl cl ol)(a:Int) :
 SetAt W (regAtN rl a).laps (fun n:Nat=>lapA (plsL L) a n):=by
 have hlen:rl.length=(plsL L).length:=by rw[←h.regs.places,List.length_map]
 by_cases ha:0<=a/\a<(plsL L).length
 ·obtain⟨x,hx⟩:∃x,rl[a.toNat]?=some x:=⟨rl[a.toNat]'(by omega),List.getElem?_eq_getElem _⟩
  have hg:regAtN rl a=x:=by unfold regAtN;rw[if_pos ha.1,List.getD_eq_getElem?_getD,hx];rfl
  have hp:x.plc=plc (plsL L) a:=by rw[←hg];exact yy h.regs.places ha.1
  rw[hg]
  refine(h.laps x (List.mem_of_getElem? hx)).congr fun n=>?_
  rw[hp]
  exact qfE _ ha.1 ha.2 n
 ·have hg:regAtN rl a=RegT.none:=by
   unfold regAtN
   by_cases h0:0<=a
   ·rw[if_pos h0,List.getD_eq_getElem?_getD,List.getElem?_eq_none (by omega)];rfl
   ·rw[if_neg h0]
  rw[hg]
  refine(SetAt.none W).congr fun n=>?_
  unfold lapA
  by_cases h0:0<=a
  ·rw[decide_eq_false (p:=a<((plsL L).length:Int)) (by omega)];simp
  ·rw[decide_eq_false h0];simp
theorem qcn(ps:List Plc)(a b:Int):(decide (0<=b)&&lapA ps a (b.toNat:Int))=lapA ps a b:=by
 by_cases hb:0<=b
 ·rw[Int.toNat_of_nonneg hb,decide_eq_true hb,Bool.true_and]
 ·unfold lapA
  rw[decide_eq_false hb]
  simp
theorem qdR(ps:List Plc)(a b:Int):lapA ps a b=lapA ps b a:=by
 have h1:lapP (plc ps a) (plc ps b)=lapP (plc ps b) (plc ps a):=by
  unfold lapP lapB
  rw[show decide ((plc ps a).1=(plc ps b).1)=decide ((plc ps b).1=(plc ps a).1) from decide_eq_decide.2 eq_comm,Bool.and_comm (decide ((plc ps a).2.1<_))]
 unfold lapA
 rw[h1]
 cases decide (0<=a) <;> cases decide (0<=b) <;> cases decide (a<(ps.length:Int)) <;> cases decide (b<(ps.length:Int)) <;> rfl
theorem qcJ{base:Nat}{W:World}{C:Nat}{d:MachD}{L M:RegL}{tb:TB}{rl:List RegT}{cl:List ClsT}{ol:List OpT}(h:TabIn base W C d L M tb rl cl ol)(a b:Int) :
 Calls Tryz.prog 9 #[.pointer (some ⟨C,0,none⟩),.int .i64 a,.int .i64 b] W fun e w'=>e = .returned (.bool (lapA (plsL L) a b))/\Below W.heap.size W w':=by
 have:=qhc C tb.rS (.map tb.rM) rl _ a b W (h.tab.cell (j:=8) rfl) (h.tab.cell (j:=9) rfl) (qU.of_row h.regs.row) (h.lapSet a)
 rw[qcn] at this
 exact this
theorem qhD{w:World}{m:MV}{d:MachD}{L:RegL}(hE:Env w)(hA:Qo w)(h:QE w m d L)(a b:Int)
 (hAl:∀W,Below w.heap.size w W->Calls Tryz.prog 5 #[] W fun e w'=>e = .returned (.bool true)/\Below W.heap.size W w') :
 Calls Tryz.prog 4 #[m.val,.int .i64 a,.int .i64 b] w fun e w'=>e = .returned (.bool true)/\Below w.heap.size w w':=by
 obtain⟨mn,rg,kl,op,ar,rs,sv,sl⟩:=m
 show Calls Tryz.prog 4 #[.agg #[.string mn,.slice rg.a rg.n rg.c,.slice kl.a kl.n kl.c,.slice op.a op.n op.c,.slice ar.a ar.n ar.c,.string rs,.slice sv.a sv.n sv.c,.int .i64 sl],.int .i64 a,.int .i64 b] w _
 obtain⟨W0,hW0⟩:∃W0,W0=w.alloc (.cells #[.string mn,.slice rg.a rg.n rg.c,.slice kl.a kl.n kl.c,.slice op.a op.n op.c,.slice ar.a ar.n ar.c,.string rs,.slice sv.a sv.n sv.c,.int .i64 sl] 27):=⟨_,rfl⟩
 have hb0:Below w.heap.size w W0:=by rw[hW0];exact qe
 have hbx:Cells W0 w.heap.size 27 #[.string mn,.slice rg.a rg.n rg.c,.slice kl.a kl.n kl.c,.slice op.a op.n op.c,.slice ar.a ar.n ar.c,.string rs,.slice sv.a sv.n sv.c,.int .i64 sl]:=by rw[hW0];exact Cells.new _ _ _
 have A:=hAl W0 hb0
 have x0:=hbx.cell (j:=0) (v:=.string mn) rfl
 have x1:=hbx.cell (j:=1) (v:=.slice rg.a rg.n rg.c) rfl
 have x2:=hbx.cell (j:=2) (v:=.slice kl.a kl.n kl.c) rfl
 have x3:=hbx.cell (j:=3) (v:=.slice op.a op.n op.c) rfl
 have x4:=hbx.cell (j:=4) (v:=.slice ar.a ar.n ar.c) rfl
 have x5:=hbx.cell (j:=5) (v:=.string rs) rfl
 have x6:=hbx.cell (j:=6) (v:=.slice sv.a sv.n sv.c) rfl
 have x7:=hbx.cell (j:=7) (v:=.int .i64 sl) rfl
 replace hW0:=Lib.hid hW0
 replace h:=Lib.hid h
 clear hAl
 go_enter Tryz.func4,Tryz.ntmps4
 go_upto_region 1 with fail
 rw[←hW0.out]
 go_upto_region 2 with(go_at_call 5;refine A.mono ?_;clear A;rintro e W1 ⟨rfl,hb1⟩)
 have hB1:Below w.heap.size w W1:=hb0.trans (hb1.mono hb0.size)
 have y0:=cell_below hb1 x0
 have y1:=cell_below hb1 x1
 have y2:=cell_below hb1 x2
 have y3:=cell_below hb1 x3
 have y4:=cell_below hb1 x4
 have y5:=cell_below hb1 x5
 have y6:=cell_below hb1 x6
 have y7:=cell_below hb1 x7
 have h1:=Lib.hid (h.out.below hB1)
 have KB:=qfe h1.out
 change Calls _ _ #[.agg #[.string mn,.slice rg.a rg.n rg.c,.slice kl.a kl.n kl.c,.slice op.a op.n op.c,.slice ar.a ar.n ar.c,.string rs,.slice sv.a sv.n sv.c,.int .i64 sl]] W1 _ at KB
 clear x0 x1 x2 x3 x4 x5 x6 x7 hbx
 go_upto_region 3 with(go_at_call 6;refine KB.mono ?_;clear KB;rintro e W2 ⟨g,rfl,hg,hb2⟩)
 have hB2:Below w.heap.size w W2:=hB1.trans (hb2.mono hB1.size)
 cases g with
 |true=>
  clear hg
  go_wp2_with fail
  go_ret
  exact⟨rfl,hB2⟩
 |false=>
  have hN:=hg rfl
  have KM:=qgQ (m:=⟨mn,rg,kl,op,ar,rs,sv,sl⟩) ((ZI (hE.below hB1) (hA.below hB1) h1.out hN).below hb2) (Qf h.out) ((Yb h1.out hN).below hb2) h.out.same h.out.regs.2.1
  change Calls _ _ #[.agg #[.string mn,.slice rg.a rg.n rg.c,.slice kl.a kl.n kl.c,.slice op.a op.n op.c,.slice ar.a ar.n ar.c,.string rs,.slice sv.a sv.n sv.c,.int .i64 sl]] W2 _ at KM
  have z0:=cell_below hb2 y0
  have z1:=cell_below hb2 y1
  have z2:=cell_below hb2 y2
  have z3:=cell_below hb2 y3
  have z4:=cell_below hb2 y4
  have z5:=cell_below hb2 y5
  have z6:=cell_below hb2 y6
  have z7:=cell_below hb2 y7
  clear y0 y1 y2 y3 y4 y5 y6 y7 hg hN h1
  by_cases hx:makeE d L=0
  ·go_upto_region 6 with(go_at_call 7;refine KM.mono ?_;clear KM;rintro e W3 ⟨hb3,(⟨hne,_⟩|⟨_,C,T,M,tb,rl,cl,ol,nV,pV,cV,rfl,hTab,hSt,hLs⟩)⟩;· exact absurd hx hne)
   have hB3:Below w.heap.size w W3:=hB2.trans (hb3.mono hB2.size)
   have KL:=fun(W:World) (hb:Below W3.heap.size W3 W)=>qcJ (hTab.below hb) a b
   have KM:=fun(W:World) (hb:Below W3.heap.size W3 W)=>qcJ (hTab.below hb) b a
   have KR:=fun(W:World) (hb:Below W3.heap.size W3 W)=>QO T _ (plsL L) a b W (hSt.step hb).tab (hSt.step hb).placesAt
   rw[qdR (plsL L) b a] at KM
   generalize lapA (plsL L) a b=q at KL KM KR
   clear hTab hSt hLs hx z0 z1 z2 z3 z4 z5 z6 z7
   replace KL:=Lib.hid KL
   replace KM:=Lib.hid KM
   replace KR:=Lib.hid KR
   have hb33:=Below.refl W3.heap.size W3
   go_wp2_with (first
    |(go_at_call 10;refine(KR.out _ hb4).mono ?_;rintro e W5 ⟨rfl,hb5'⟩;have hb5:=hb4.trans (hb5'.mono hb4.size);clear hb5' hb4)
    |(go_at_call 9;refine(KL.out _ hb6).mono ?_;rintro e W7 ⟨rfl,hb7'⟩;have hb7:=hb6.trans (hb7'.mono hb6.size);clear hb7' hb6)
    |(go_at_call 9;refine(KM.out _ hb5).mono ?_;rintro e W6 ⟨rfl,hb6'⟩;have hb6:=hb5.trans (hb6'.mono hb5.size);clear hb6' hb5)
    |(go_at_call 9;refine(KL.out _ hb33).mono ?_;rintro e W4 ⟨rfl,hb4⟩;clear hb33))
   go_ret
   exact⟨qg (by simp),hB3.trans (hb7.mono hB3.size)⟩
  ·go_upto_region 6 with(go_at_call 7;refine KM.mono ?_;clear KM;rintro e W3 ⟨hb3,(⟨_,rfl⟩|⟨h0,_⟩)⟩;rotate_left;· exact absurd h0 hx)
   go_wp2_with fail
   go_ret
   exact⟨rfl,hB2.trans (hb3.mono hB2.size)⟩
end Go.Proofs.YtamhpmbjccjchaaGreatDoor
