/-
  law7's Make; TableLap beside the law's example.
-/
import Derived.Test.YtkoloennfejaaaaGreatDoorTcPP
import Derived.Test.YtkoloennfejaaaaGreatDoorTcWP
import Derived.Test.YtkoloennfejaaaaGreatDoorRefThree
import Derived.Test.YtkoloennfejaaaaGreatDoorBiD
set_option maxHeartbeats 4000000
set_option maxRecDepth 100000
namespace Go.Proofs.YtkoloennfejaaaaGreatDoor
open Go.RowKit
theorem qgY{w:World}{m:MV}{d:MachD}{L:RegL}(h:Xb w m d L):jW d where
 name:=by have:=h.nz;unfold Fit48;omega
 result:=by have:=h.rz;unfold Fit48;omega
 classes:=fun k hk=>⟨by have:=(h.fk.2 k hk).1;unfold Fit48;omega,fun s hs=>by have:=(h.fk.2 k hk).2.2 s hs;unfold Fit48;omega⟩
 ops:=fun o ho=>by
  obtain⟨h1,h2,h3,h4,h5⟩:=h.fp.2 o ho
  refine⟨by unfold Fit48;omega,⟨by unfold Fit48;omega,by unfold Fit48;omega⟩,fun u hu=>?_,fun s hs=>?_⟩
  ·have:=h4.2 u hu
   exact⟨by unfold Fit48;omega,by unfold Fit48;omega⟩
  ·have:=h5.2 s hs
   unfold Fit48;omega
 args:=fun s hs=>by have:=h.fa.2 s hs;unfold Fit48;omega
 saved:=fun s hs=>by have:=h.fs.2 s hs;unfold Fit48;omega
theorem qhx(x:Int)(w:World):Calls Tryz.prog 37 #[.int .i64 x] w fun e w'=>e = .returned (.int .i64 x)/\w=w':=by
 go_enter Tryz.func37,Tryz.ntmps37
 go_wp2
 go_ret
 exact⟨rfl,rfl⟩
theorem TabIn.mono{base base':Nat}{W:World}{C:Nat}{d:MachD}{L M:RegL}{tb:TB}{rl:List RegT}{cl:List ClsT}{ol:List OpT}(h:TabIn base W C d L M tb rl cl ol)(hb:base'<=base):TabIn base' W C d L M tb rl cl ol:=
 ⟨h.tab,h.mach,h.cap,h.like,h.regs.mono hb,h.laps,h.cls.mono hb,h.ops.mono hb,h.args,h.result,h.saved,h.surv,h.fresh.mono hb⟩
def qhQ(w:World)(m:MV)(d:MachD)(L:RegL)(e:Ending)(w':World):Prop:=
 Below w.heap.size w w' /\
  ((makeE d L≠0/\e = .returned (.tuple #[.pointer none,.pointer none,.bool true])) ∨
    (makeE d L=0/\∃ (C T:Nat) (M:RegL) (tb:TB) (rl:List RegT) (cl:List ClsT) (ol:List OpT) (nV pV cV:SlV),e = .returned (.tuple #[.pointer (some ⟨C,0,none⟩),.pointer (some ⟨T,0,none⟩),.bool true]) /\
      TabIn w.heap.size w' C d L M tb rl cl ol/\TabSt w w' T ⟨m,nV,pV,cV⟩ d (nmsL L) (plsL L)/\ListsO w w' cV (clsOf (nmsL L) d.classes)))
theorem qil{w:World}{m:MV}{d:MachD}{L:RegL}(hM:MachAt w m d L)(ht:jW d)(hI:yy w m d)(hn:m.name=d.name)(hcap:m.regs.n<=m.regs.c) :
 Calls Tryz.prog 9 #[m.val] w (qhQ w m d L):=by
 obtain⟨mn,rg,kl,op,ar,rs,sv,sl⟩:=m
 show Calls Tryz.prog 9 #[.agg #[.string mn,.slice rg.a rg.n rg.c,.slice kl.a kl.n kl.c,.slice op.a op.n op.c,.slice ar.a ar.n ar.c,.string rs,.slice sv.a sv.n sv.c,.int .i64 sl]] w _
 obtain⟨W0,hW0⟩:∃W0,W0=w.alloc (.cells #[.string mn,.slice rg.a rg.n rg.c,.slice kl.a kl.n kl.c,.slice op.a op.n op.c,.slice ar.a ar.n ar.c,.string rs,.slice sv.a sv.n sv.c,.int .i64 sl] 27):=⟨_,rfl⟩
 have hb0:Below w.heap.size w W0:=by rw[hW0];exact qe
 have hbx:Cells W0 w.heap.size 27 #[.string mn,.slice rg.a rg.n rg.c,.slice kl.a kl.n kl.c,.slice op.a op.n op.c,.slice ar.a ar.n ar.c,.string rs,.slice sv.a sv.n sv.c,.int .i64 sl]:=by rw[hW0];exact Cells.new _ _ _
 have x0:=hbx.cell (j:=0) (v:=.string mn) rfl
 have x1:=hbx.cell (j:=1) (v:=.slice rg.a rg.n rg.c) rfl
 have x2:=hbx.cell (j:=2) (v:=.slice kl.a kl.n kl.c) rfl
 have x3:=hbx.cell (j:=3) (v:=.slice op.a op.n op.c) rfl
 have x4:=hbx.cell (j:=4) (v:=.slice ar.a ar.n ar.c) rfl
 have x5:=hbx.cell (j:=5) (v:=.string rs) rfl
 have x6:=hbx.cell (j:=6) (v:=.slice sv.a sv.n sv.c) rfl
 have x7:=hbx.cell (j:=7) (v:=.int .i64 sl) rfl
 have KT:=qbb ⟨mn,rg,kl,op,ar,rs,sv,sl⟩ d L W0 (hM.below hb0) ht (fun _=>hcap)
 change Calls _ _ #[.agg #[.string mn,.slice rg.a rg.n rg.c,.slice kl.a kl.n kl.c,.slice op.a op.n op.c,.slice ar.a ar.n ar.c,.string rs,.slice sv.a sv.n sv.c,.int .i64 sl]] W0 _ at KT
 have KR:∀W1,Below W0.heap.size W0 W1->Calls Tryz.prog 34 #[.agg #[.string mn,.slice rg.a rg.n rg.c,.slice kl.a kl.n kl.c,.slice op.a op.n op.c,.slice ar.a ar.n ar.c,.string rs,.slice sv.a sv.n sv.c,.int .i64 sl]] W1 (MakeR W1 ⟨mn,rg,kl,op,ar,rs,sv,sl⟩ d L):=fun W1 h1=>by
  have hB:=hb0.trans (h1.mono hb0.size)
  exact qgu (m:=⟨mn,rg,kl,op,ar,rs,sv,sl⟩) hn (hI.below hB) ((hM.below hB).regs) hcap
 replace hI:=Lib.hid hI
 clear hM ht hn hcap
 replace hW0:=Lib.hid hW0
 replace KR:=Lib.hid KR
 go_enter Tryz.func9,Tryz.ntmps9
 go_upto_region 1 with fail
 rw[←hW0.out]
 by_cases hx:makeE d L=0
 ·have hx2:qL nameB d (regsE L) (nmsL L) (plsL L)=0:=hx
  go_upto_region 2 with(go_at_call 36;refine KT.mono ?_;clear KT;rintro e W1 ⟨hb1,(⟨hne,_⟩|⟨_,C,M,tb,rl,cl,ol,rfl,hC,hTab⟩)⟩;· exact absurd hx2 hne)
  have y0:=cell_below hb1 x0
  have y1:=cell_below hb1 x1
  have y2:=cell_below hb1 x2
  have y3:=cell_below hb1 x3
  have y4:=cell_below hb1 x4
  have y5:=cell_below hb1 x5
  have y6:=cell_below hb1 x6
  have y7:=cell_below hb1 x7
  have K1:=KR.out W1 hb1
  replace hTab:=Lib.hid hTab
  clear x0 x1 x2 x3 x4 x5 x6 x7
  go_wp2_with (first
   |(go_at_call 34;refine K1.mono ?_;clear K1;rintro e W2 ⟨hb2,h2,_⟩;obtain⟨T,nV,pV,cV,rfl,hSt,hLs⟩:=h2 hx;replace hSt:=Lib.hid hSt;replace hLs:=Lib.hid hLs)
   |(go_at_call 37;refine(qhx _ _).mono ?_;rintro e W5 ⟨rfl,rfl⟩))
  go_ret3
  have hB1:Below w.heap.size w W1:=hb0.trans (hb1.mono hb0.size)
  exact⟨hB1.trans (hb2.mono hB1.size),.inr ⟨hx,C,T,M,tb,rl,cl,ol,nV,pV,cV,rfl,(hTab.out.below hb2).mono hb0.size,hSt.out.base' hB1 hI.out,hLs.out.base' hB1.size⟩⟩
 ·have hx2:qL nameB d (regsE L) (nmsL L) (plsL L)≠0:=hx
  have hmk:makeE d L=qL nameB d (regsE L) (nmsL L) (plsL L):=rfl
  go_upto_region 2 with(go_at_call 36;refine KT.mono ?_;clear KT;rintro e W1 ⟨hb1,(⟨_,rfl⟩|⟨h0,_⟩)⟩;rotate_left;· exact absurd h0 hx2)
  have y0:=cell_below hb1 x0
  have y1:=cell_below hb1 x1
  have y2:=cell_below hb1 x2
  have y3:=cell_below hb1 x3
  have y4:=cell_below hb1 x4
  have y5:=cell_below hb1 x5
  have y6:=cell_below hb1 x6
  have y7:=cell_below hb1 x7
  have K1:=KR.out W1 hb1
  clear x0 x1 x2 x3 x4 x5 x6 x7
  rw[←hmk]
  go_wp2_with (first
   |(go_at_call 34;refine K1.mono ?_;clear K1;rintro e W2 ⟨hb2,_,h3⟩;obtain rfl:=h3 hx)
   |(go_at_call 37;refine(qhx _ _).mono ?_;rintro e W5 ⟨rfl,rfl⟩))
  go_ret3
  have hB1:Below w.heap.size w W1:=hb0.trans (hb1.mono hb0.size)
  exact⟨hB1.trans (hb2.mono hB1.size),.inl ⟨hx,rfl⟩⟩
theorem SetAt.congr{W:World}{s:SlV}{p q:Nat->Bool}(h:SetAt W s p)(hq:∀n,p n=q n):SetAt W s q:=by
 obtain⟨ws,h1,h2,h3,h4⟩:=h
 exact⟨ws,h1,h2,h3,fun n=>(h4 n).trans (hq n)⟩
theorem qbd(ps:List Plc){a:Int}(h0:0<=a)(h1:a<ps.length)(n:Nat):lapsP ps (plc ps a) n=xC ps a n:=by
 unfold lapsP xC
 rw[decide_eq_true h0,decide_eq_true h1,decide_eq_true (show(0:Int)<=(n:Int) by omega)]
 simp only[Bool.true_and]
 congr 1
 rw[decide_eq_decide]
 omega
theorem TabIn.lapSet{base:Nat}{W:World}{C:Nat}{d:MachD}{L M:RegL}{tb:TB}{rl:List RegT}{cl:List ClsT}{ol:List OpT}(h:TabIn base W C d L M tb rl cl ol)(a:Int) :
 SetAt W (regAtN rl a).laps (fun n:Nat=>xC (plsL L) a n):=by
 have hlen:rl.length=(plsL L).length:=by rw[←h.regs.places,List.length_map]
 by_cases ha:0<=a/\a<(plsL L).length
 ·obtain⟨x,hx⟩:∃x,rl[a.toNat]?=some x:=⟨rl[a.toNat]'(by omega),List.getElem?_eq_getElem _⟩
  have hg:regAtN rl a=x:=by unfold regAtN;rw[if_pos ha.1,List.getD_eq_getElem?_getD,hx];rfl
  have hp:x.plc=plc (plsL L) a:=by rw[←hg];exact yE h.regs.places ha.1
  rw[hg]
  refine(h.laps x (List.mem_of_getElem? hx)).congr fun n=>?_
  rw[hp]
  exact qbd _ ha.1 ha.2 n
 ·have hg:regAtN rl a=RegT.none:=by
   unfold regAtN
   by_cases h0:0<=a
   ·rw[if_pos h0,List.getD_eq_getElem?_getD,List.getElem?_eq_none (by omega)];rfl
   ·rw[if_neg h0]
  rw[hg]
  refine(SetAt.none W).congr fun n=>?_
  unfold xC
  by_cases h0:0<=a
  ·rw[decide_eq_false (p:=a<((plsL L).length:Int)) (by omega)];simp
  ·rw[decide_eq_false h0];simp
theorem qhy(ps:List Plc)(a b:Int):(decide (0<=b)&&xC ps a (b.toNat:Int))=xC ps a b:=by
 by_cases hb:0<=b
 ·rw[Int.toNat_of_nonneg hb,decide_eq_true hb,Bool.true_and]
 ·unfold xC
  rw[decide_eq_false hb]
  simp
theorem qhF(ps:List Plc)(a b:Int):xC ps a b=xC ps b a:=by
 have h1:lapP (plc ps a) (plc ps b)=lapP (plc ps b) (plc ps a):=by
  unfold lapP lapB
  rw[show decide ((plc ps a).1=(plc ps b).1)=decide ((plc ps b).1=(plc ps a).1) from decide_eq_decide.2 eq_comm,Bool.and_comm (decide ((plc ps a).2.1<_))]
 unfold xC
 rw[h1]
 cases decide (0<=a) <;> cases decide (0<=b) <;> cases decide (a<(ps.length:Int)) <;> cases decide (b<(ps.length:Int)) <;> rfl
end Go.Proofs.YtkoloennfejaaaaGreatDoor
