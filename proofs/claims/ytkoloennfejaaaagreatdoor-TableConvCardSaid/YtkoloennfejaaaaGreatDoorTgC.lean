/-
  What the table and the reference tell of the convention; TableConv of any machine, beside the law's own example.
-/
import Derived.Test.YtkoloennfejaaaaGreatDoorTcYP
import Derived.Test.YtkoloennfejaaaaGreatDoorTgA
import Derived.Test.YtkoloennfejaaaaGreatDoorTgB
import Derived.Test.YtkoloennfejaaaaGreatDoorTeA
import Derived.Test.YtkoloennfejaaaaGreatDoorTdCP
import Derived.Deep.RegionHeld3
set_option maxHeartbeats 16000000
set_option maxRecDepth 100000
namespace Go.Proofs.YtkoloennfejaaaaGreatDoor
open Go.RowKit
structure qfW(w:World)(C T:Nat)(d:MachD)(M:RegL)(A S:List Int)(r:Int):Prop where
 args:∀W,Below w.heap.size w W->Calls Tryz.prog 25 #[.pointer (some ⟨C,0,none⟩)] W (NewL W A)
 rargs:∀W,Below w.heap.size w W->Calls Tryz.prog 27 #[.pointer (some ⟨T,0,none⟩)] W (NewL W A)
 saved:∀W,Below w.heap.size w W->Calls Tryz.prog 26 #[.pointer (some ⟨C,0,none⟩)] W (NewL W S)
 rsaved:∀W,Below w.heap.size w W->Calls Tryz.prog 28 #[.pointer (some ⟨T,0,none⟩)] W (NewL W S)
 result:∀W,Below w.heap.size w W->Calls Tryz.prog 29 #[.pointer (some ⟨C,0,none⟩)] W fun e w'=>e = .returned (.int .i64 r)/\W=w'
 rresult:∀W,Below w.heap.size w W->Calls Tryz.prog 30 #[.pointer (some ⟨T,0,none⟩)] W fun e w'=>e = .returned (.int .i64 r)/\W=w'
 slots:∀W,Below w.heap.size w W->Calls Tryz.prog 31 #[.pointer (some ⟨C,0,none⟩)] W fun e w'=>e = .returned (.int .i64 d.slots)/\W=w'
 mach:∀W,Below w.heap.size w W->Calls Tryz.prog 33 #[.pointer (some ⟨C,0,none⟩)] W (CopyM d M W)
 A16:A.length<=16
 S64:S.length<=64
theorem qia{base:Nat}{w:World}{C T:Nat}{d:MachD}{L M:RegL}{tb:TB}{rl:List RegT}{cl:List ClsT}{ol:List OpT}{t:TV}(hT0:TabIn base w C d L M tb rl cl ol)(hO0:TabOk w T t d (nmsL L) (plsL L) (clsOf (nmsL L) d.classes))(hs:xZ d L) :
 qfW w C T d M (regsL (nmsL L) d.args) (regsL (nmsL L) d.saved) (regN (nmsL L) d.result):=by
 have hall:∀l:List ByteArray,(regsL (nmsL L) l).contains (-1)=false->∀x,x∈l->0<=regN (nmsL L) x:=fun l h1 x hx=>by
  have h2:=qA (nmsL L) x
  by_cases h0:0<=regN (nmsL L) x
  ·exact h0
  ·exfalso
   have h3:regN (nmsL L) x = -1:=by omega
   have h4:(-1:Int)∈regsL (nmsL L) l:=List.mem_map.2 ⟨x,hx,h3⟩
   rw[List.contains_eq_mem,decide_eq_true h4] at h1
   cases h1
 have hA:(regsL (nmsL L) d.args).length<=16:=by unfold regsL;rw[List.length_map];exact hs.an.1
 have hS:(regsL (nmsL L) d.saved).length<=64:=by unfold regsL;rw[List.length_map];exact hs.sn.1
 have hfit:jD d M:=hs.fit.like hT0.like (qaT hT0.like) (fun s hx=>by have:=hs.names s hx;unfold Fit48;omega)
 refine⟨fun W hb=>?_,fun W hb=>?_,fun W hb=>?_,fun W hb=>?_,fun W hb=>?_,fun W hb=>?_,fun W hb=>?_,fun W hb=>?_,hA,hS⟩
 ·have hT:=hT0.below hb
  exact qgQ C tb.args _ W (hT.tab.cell (j:=14) rfl) hT.args (by omega)
 ·have:=qcP T t d _ _ _ W (hO0.below hb)
  rw[je (hall _ hs.an.2)] at this
  exact this.mono fun e w' hp=>NewL.of hp
 ·have hT:=hT0.below hb
  exact qfU C tb.saved _ W (hT.tab.cell (j:=16) rfl) hT.saved (by omega)
 ·have:=qfR T t d _ _ _ W (hO0.below hb)
  rw[je (hall _ hs.sn.2)] at this
  exact this.mono fun e w' hp=>NewL.of hp
 ·have hT:=hT0.below hb
  have:=qeg C tb.result W (hT.tab.cell (j:=15) rfl)
  rw[hT.result] at this
  exact this
 ·exact Ye T t d _ _ _ W (hO0.below hb)
 ·have hT:=hT0.below hb
  have:=qfV C tb.m.slots W (hT.tab.cell (j:=7) rfl)
  rw[hT.mach.slots] at this
  exact this
 ·have hT:=hT0.below hb
  exact qcA C tb d M W hT.tab hT.mach hfit hT.cap
def jF(base:Nat)(W:World)(a:Option Addr)(n:Nat):Prop:=
 n=0∨∃ (g:Nat) (cs:Array Value),a=some ⟨g,0,none⟩/\base<=g/\Cells W g 3 cs/\n<=cs.size
theorem jF.of{base c n:Nat}{W:World}{a:Option Addr}{V:List Int}(h:W.ownsRow base 3 1 (.slice a n c) V.length (V.map (Value.int .i64))):jF base W a V.length:=by
 rcases h.2 with⟨_,h2⟩|⟨g,cap,cur,h1,h2,h3,h4,_,h6,h7⟩
 ·exact .inl h2
 ·injection h1 with e1 e2 e3
  exact .inr ⟨g,cur,e1,h2,h3,by omega⟩
theorem jF.set{base n:Nat}{W:World}{a:Option Addr}(h:jF base W a n)(g j:Nat)(v:Value):jF base (W.setCell ⟨g,j,none⟩ v) a n:=by
 rcases h with h|⟨b,cs,h1,h2,h3,h4⟩
 ·exact .inl h
 ·by_cases hb:b=g
  ·subst hb
   exact .inr ⟨b,_,h1,h2,h3.set v,by simpa using h4⟩
  ·exact .inr ⟨b,cs,h1,h2,h3.other hb v,h4⟩
theorem jF.below{base n:Nat}{W W':World}{a:Option Addr}(h:jF base W a n)(hb:Below W.heap.size W W'):jF base W' a n:=by
 rcases h with h|⟨b,cs,h1,h2,h3,h4⟩
 ·exact .inl h
 ·exact .inr ⟨b,cs,h1,h2,h3.below hb h3.lt,h4⟩
theorem qik{w:World}{m:MV}{d:MachD}{L:RegL}(hE:Env w)(hA:Zd w)(h:Xb w m d L)
 (hAl:∀W,Below w.heap.size w W->Calls Tryz.prog 7 #[] W fun e w'=>e = .returned (.bool true)/\Below W.heap.size W w') :
 Calls Tryz.prog 5 #[m.val] w fun e w'=>e = .returned (.bool true)/\Below w.heap.size w w':=by
 obtain⟨mn,rg,kl,op,ar,rs,sv,sl⟩:=m
 show Calls Tryz.prog 5 #[.agg #[.string mn,.slice rg.a rg.n rg.c,.slice kl.a kl.n kl.c,.slice op.a op.n op.c,.slice ar.a ar.n ar.c,.string rs,.slice sv.a sv.n sv.c,.int .i64 sl]] w _
 obtain⟨W0,hW0⟩:∃W0,W0=w.alloc (.cells #[.string mn,.slice rg.a rg.n rg.c,.slice kl.a kl.n kl.c,.slice op.a op.n op.c,.slice ar.a ar.n ar.c,.string rs,.slice sv.a sv.n sv.c,.int .i64 sl] 27):=⟨_,rfl⟩
 have hb0:Below w.heap.size w W0:=by rw[hW0];exact qe
 have hbx:Cells W0 w.heap.size 27 #[.string mn,.slice rg.a rg.n rg.c,.slice kl.a kl.n kl.c,.slice op.a op.n op.c,.slice ar.a ar.n ar.c,.string rs,.slice sv.a sv.n sv.c,.int .i64 sl]:=by rw[hW0];exact Cells.new _ _ _
 have A:=hAl W0 hb0
 have hX:∀W,Below W0.heap.size W0 W->W.cell? ⟨w.heap.size,0,none⟩=some (.string mn)/\W.cell? ⟨w.heap.size,1,none⟩=some (.slice rg.a rg.n rg.c)/\W.cell? ⟨w.heap.size,2,none⟩=some (.slice kl.a kl.n kl.c)/\W.cell? ⟨w.heap.size,3,none⟩=some (.slice op.a op.n op.c)/\W.cell? ⟨w.heap.size,4,none⟩=some (.slice ar.a ar.n ar.c)/\W.cell? ⟨w.heap.size,5,none⟩=some (.string rs)/\W.cell? ⟨w.heap.size,6,none⟩=some (.slice sv.a sv.n sv.c)/\W.cell? ⟨w.heap.size,7,none⟩=some (.int .i64 sl):=fun W hb=>
  have q:=hbx.below hb hbx.lt
  ⟨q.cell rfl,q.cell rfl,q.cell rfl,q.cell rfl,q.cell rfl,q.cell rfl,q.cell rfl,q.cell rfl⟩
 obtain⟨x0,x1,x2,x3,x4,x5,x6,x7⟩:=hX _ (Below.refl _ _)
 replace hX:=Lib.hid hX
 replace hW0:=Lib.hid hW0
 replace h:=Lib.hid h
 clear hAl
 go_enter Tryz.func5,Tryz.ntmps5
 go_upto_region 1 with fail
 rw[←hW0.out]
 go_upto_region 2 with(go_at_call 7;refine A.mono ?_;clear A;rintro e W1 ⟨rfl,hb1⟩)
 have hB1:Below w.heap.size w W1:=hb0.trans (hb1.mono hb0.size)
 obtain⟨y0,y1,y2,y3,y4,y5,y6,y7⟩:=hX.out _ hb1
 have h1:=Lib.hid (h.out.below hB1)
 have KB:=qic h1.out
 change Calls _ _ #[.agg #[.string mn,.slice rg.a rg.n rg.c,.slice kl.a kl.n kl.c,.slice op.a op.n op.c,.slice ar.a ar.n ar.c,.string rs,.slice sv.a sv.n sv.c,.int .i64 sl]] W1 _ at KB
 clear x0 x1 x2 x3 x4 x5 x6 x7 hbx
 go_upto_region 3 with(go_at_call 8;refine KB.mono ?_;clear KB;rintro e W2 ⟨g,rfl,hg,hb2⟩)
 have hB2:Below w.heap.size w W2:=hB1.trans (hb2.mono hB1.size)
 cases g with
 |true=>
  clear hg
  go_wp2_with fail
  go_ret
  exact⟨rfl,hB2⟩
 |false=>
  have hN:=hg rfl
  have hN0:=Lib.hid hN
  have KM:=qil (m:=⟨mn,rg,kl,op,ar,rs,sv,sl⟩) ((qhD (hE.below hB1) (hA.below hB1) h1.out hN).below hb2) (qgY h.out) ((qhE h1.out hN).below hb2) h.out.same h.out.regs.2.1
  change Calls _ _ #[.agg #[.string mn,.slice rg.a rg.n rg.c,.slice kl.a kl.n kl.c,.slice op.a op.n op.c,.slice ar.a ar.n ar.c,.string rs,.slice sv.a sv.n sv.c,.int .i64 sl]] W2 _ at KM
  have hX2:=hb1.trans (hb2.mono hb1.size)
  obtain⟨z0,z1,z2,z3,z4,z5,z6,z7⟩:=hX.out _ hX2
  clear y0 y1 y2 y3 y4 y5 y6 y7 hg hN h1
  by_cases hx:makeE d L=0
  ·go_upto_region 6 with(go_at_call 9;refine KM.mono ?_;clear KM;rintro e W3 ⟨hb3,(⟨hne,_⟩|⟨_,C,T,M,tb,rl,cl,ol,nV,pV,cV,rfl,hTab,hSt,hLs⟩)⟩;· exact absurd hx hne)
   have hB3:Below w.heap.size w W3:=hB2.trans (hb3.mono hB2.size)
   have hM0:=qhD (m:=⟨mn,rg,kl,op,ar,rs,sv,sl⟩) (hE.below hB1) (hA.below hB1) (h.out.below hB1) hN0.out
   have ht:=qgY h.out
   have hs:=qfG hM0 ht hx
   have hF:=Lib.hid (qia hTab (hSt.tabOk hLs.lists) hs)
   have hlk:=hTab.like
   obtain rfl:sl=d.slots:=h.out.slots
   have hcap:=h.out.regs.2.1
   have hSame:Hid (∀ (W:World) (m':MV) (M':RegL),Below W3.heap.size W3 W->MachAt W m' d M'->M.Like M'->(m'.regs.a≠none->m'.regs.n<=m'.regs.c) ->
    Calls Tryz.prog 32 #[.agg #[.string m'.name,.slice m'.regs.a m'.regs.n m'.regs.c,.slice m'.classes.a m'.classes.n m'.classes.c,.slice m'.ops.a m'.ops.n m'.ops.c,.slice m'.args.a m'.args.n m'.args.c,.string m'.result,.slice m'.saved.a m'.saved.n m'.saved.c,.int .i64 m'.slots],
     .agg #[.string mn,.slice rg.a rg.n rg.c,.slice kl.a kl.n kl.c,.slice op.a op.n op.c,.slice ar.a ar.n ar.c,.string rs,.slice sv.a sv.n sv.c,.int .i64 d.slots]] W fun e w'=>e = .returned (.bool true)/\Below W.heap.size W w'):=Lib.hid fun W m' M' hb hm' hl' hc'=>by
    have hMW:=((hM0.belowT hb2).belowT hb3).belowT hb
    have hl2:=hlk.trans hl'
    exact qhZ m' ⟨mn,rg,kl,op,ar,rs,sv,d.slots⟩ d M' L L W hm'.same hMW.same hm'.result hMW.result hm'.slots hMW.slots (hm'.regs.slice (by rw[←hl2.total];exact hs.fit.total) hc') (hMW.regs.slice hs.fit.total fun _=>hcap) hl2.symm hm'.classes hMW.classes hm'.ops hMW.ops hm'.args hMW.args hm'.saved hMW.saved hs.fit
   have hZ:=Lib.hid fun W (hb:Below W3.heap.size W3 W)=>hX.out W ((hX2.trans (hb3.mono hX2.size)).trans (hb.mono (hX2.trans (hb3.mono hX2.size)).size))
   generalize regsL (nmsL L) d.args=LA at hF
   generalize regsL (nmsL L) d.saved=LS at hF
   generalize regN (nmsL L) d.result=rr at hF
   have hA16:=hF.out.A16
   have hS64:=hF.out.S64
   clear hX hX2 hTab hSt hLs hs ht hM0 hlk hcap hx z0 z1 z2 z3 z4 z5 z6 z7 hN0
   have hb30:=Below.refl W3.heap.size W3
   generalize hQ:w.heap.size=BX at hZ ⊢
   go_upto_region 10 with(first
    |(go_at_call 26;refine(hF.out.saved _ hB4).mono ?_;rintro e W5 ⟨hb5,ba,bn,bc,rfl,hr5,hi5⟩;have hB5:=hB4.trans (hb5.mono hB4.size);replace hr5:=Lib.hid hr5;replace hi5:=Lib.hid hi5)
    |(go_at_call 25;refine(hF.out.args _ hb30).mono ?_;rintro e W4 ⟨hb4,aa,an,ac,rfl,hr4,hi4⟩;have hB4:=hb30.trans (hb4.mono hb30.size);replace hr4:=Lib.hid hr4;replace hi4:=Lib.hid hi4))
   obtain rfl:an=LA.length:=hi4.out.1
   obtain rfl:bn=LS.length:=hi5.out.1
   have sA:Hid (jF W3.heap.size W5 aa LA.length):=Lib.hid ((jF.of (qj hr4.out hb30.size)).below hb5)
   have sS:Hid (jF W3.heap.size W5 ba LS.length):=Lib.hid (jF.of (qj hr5.out hB4.size))
   replace hi4:=Lib.hid (hi4.out.below hb5)
   clear hr4 hr5 hb4 hb5 hB4 hb30
   have hD:=hB5.drew
   obtain⟨k0,k1,k2,k3,k4,k5,k6,k7⟩:=hZ.out _ hB5
   go_wp2_with fail
   go_region_held3 (fun w'=>w'.cell? ⟨BX,0,none⟩=some (.string mn)/\w'.cell? ⟨BX,1,none⟩=some (.slice rg.a rg.n rg.c)/\w'.cell? ⟨BX,2,none⟩=some (.slice kl.a kl.n kl.c)/\w'.cell? ⟨BX,3,none⟩=some (.slice op.a op.n op.c)/\w'.cell? ⟨BX,4,none⟩=some (.slice ar.a ar.n ar.c)/\w'.cell? ⟨BX,5,none⟩=some (.string rs)/\w'.cell? ⟨BX,6,none⟩=some (.slice sv.a sv.n sv.c)/\w'.cell? ⟨BX,7,none⟩=some (.int .i64 d.slots))
    (go_keep)
    ((first
      |(go_at_call 32;refine(hSame.out _ m' M' hB10 hm.out hl.out hc.out).mono ?_;rintro e W11 ⟨rfl,hb11⟩;have hB11:=hB10.trans (hb11.mono hB10.size);have hD11:=hD10.trans (hb11.mono hD10.size);obtain⟨f0,f1,f2,f3,f4,f5,f6,f7⟩:=hZ.out _ hB11)
      |(go_at_call 33;refine(hF.out.mach _ hB9).mono ?_;rintro e W10 ⟨hb10,m',M',rfl,hm,hl,hc⟩;have hB10:=hB9.trans (hb10.mono hB9.size);have hD10:=hD9.trans (hb10.mono hD9.size);replace hm:=Lib.hid hm;replace hl:=Lib.hid hl;replace hc:=Lib.hid hc;obtain⟨e0,e1,e2,e3,e4,e5,e6,e7⟩:=hZ.out _ hB10)
      |(go_at_call 31;refine(hF.out.slots _ hB9).mono ?_;rintro e W ⟨rfl,rfl⟩)
      |(go_at_call 30;refine(hF.out.rresult _ hB9).mono ?_;rintro e W ⟨rfl,rfl⟩)
      |(go_at_call 29;refine(hF.out.result _ hB9).mono ?_;rintro e W ⟨rfl,rfl⟩)
      |(go_at_call 13;refine(qbe ⟨ba,LS.length,bc⟩ ⟨ta,tn,tc⟩ LS _ ((hi5.out.below (below_drewN (Below.refl _ _) 1)).below hD8) hi8.out (by omega)).mono ?_;rintro e W9 ⟨rfl,hb9⟩;have hB9:=hB8.trans (hb9.mono hB8.size);have hD9:=hD8.trans (hb9.mono hD8.size);obtain⟨d0,d1,d2,d3,d4,d5,d6,d7⟩:=hZ.out _ hB9)
      |(go_at_call 28;refine(hF.out.rsaved _ hB7).mono ?_;rintro e W8 ⟨hb8,ta,tn,tc,rfl,_,hi8⟩;have hB8:=hB7.trans (hb8.mono hB7.size);have hD8:=hD7.trans (hb8.mono hD7.size);replace hi8:=Lib.hid hi8;obtain⟨c0,c1,c2,c3,c4,c5,c6,c7⟩:=hZ.out _ hB8)
      |(go_at_call 13;refine(qbe ⟨aa,LA.length,ac⟩ ⟨ra,rn,rc⟩ LA _ ((hi4.out.below (below_drewN (Below.refl _ _) 1)).below hb6) hi6.out (by omega)).mono ?_;rintro e W7 ⟨rfl,hb7⟩;have hB7:=hB6.trans (hb7.mono hB6.size);have hD7:=hb6.trans (hb7.mono hb6.size);obtain⟨b0,b1,b2,b3,b4,b5,b6,b7⟩:=hZ.out _ hB7)
      |(go_at_call 27;refine(hF.out.rargs _ hD).mono ?_;rintro e W6 ⟨hb6,ra,rn,rc,rfl,_,hi6⟩;have hB6:=hD.trans (hb6.mono hD.size);replace hi6:=Lib.hid hi6;obtain⟨a0,a1,a2,a3,a4,a5,a6,a7⟩:=hZ.out _ hB6)))
   have hD5:Below W5.heap.size W5 W11:=(Below.refl _ _).drew.trans hD11
   replace sA:=Lib.hid (sA.out.below hD5)
   replace sS:=Lib.hid (sS.out.below hD5)
   clear hD hb6 hD7 hD8 hD9 hD10 hD11 hD5 hB5 hB6 hB7 hB8 hB9 hB10 hb7 hb8 hb9 hb10 hb11 hm hl hc hi4 hi5 hi6 hi8 hSame hZ
   go_wp2_with fail
   go_loopw [11] (fun iv wr=>∃j:Nat,j<=LA.length/\iv = .int .i64 j/\Below W3.heap.size W3 wr/\Hid (jF W3.heap.size wr aa LA.length)/\Hid (jF W3.heap.size wr ba LS.length)) (fun iv _=>LA.length-(intOf iv).toNat)
   case atStart=>exact⟨0,Nat.zero_le _,rfl,hB11,sA,sS⟩
   case round=>
    clear sA sS hB11
    obtain⟨j,hj,rfl,hb,hsA,hsS⟩:=hrel
    have j0:(0:Int)<=j:=Int.natCast_nonneg _
    by_cases hlt:j<LA.length
    ·rcases hsA.out with h0|⟨g,cs,rfl,hg,hC,hsz⟩
     ·omega
     obtain⟨y,hy⟩:∃y,cs[j]?=some y:=⟨cs[j]'(by omega),Array.getElem?_eq_getElem _⟩
     have c1:=hC.cell hy
     have f1:=hC.frozen j
     have j1:(j:Int)<LA.length:=by omega
     have hi:IntKind.i64.wrap ((j:Int)+1)=j+1:=IntWalk.i64_in _ (by omega)
     have q1:=Lib.hid (hb.setCell (p:=⟨g,j,none⟩) hg (.int .i64 (-1)))
     have q2:=Lib.hid (hsA.out.set g j (.int .i64 (-1)))
     have q3:=Lib.hid (hsS.out.set g j (.int .i64 (-1)))
     clear hC hy hsz hsA hsS hb
     go_wp2_with fail
     exact⟨⟨j+1,by omega,by go_num,q1.out,q2,q3⟩,by simp[intOf];omega⟩
    ·obtain rfl:j=LA.length:=by omega
     have hb':=Lib.hid hb
     clear hsA hb
     go_wp2_with fail
     go_loopw [12] (fun iv wr=>∃j:Nat,j<=LS.length/\iv = .int .i64 j/\Below W3.heap.size W3 wr/\Hid (jF W3.heap.size wr ba LS.length)) (fun iv _=>LS.length-(intOf iv).toNat)
     case atStart=>exact⟨0,Nat.zero_le _,rfl,hb'.out,hsS⟩
     case round=>
      clear hsS hb'
      obtain⟨k,hk,rfl,hb,hsS⟩:=hrel
      have k0:(0:Int)<=k:=Int.natCast_nonneg _
      by_cases hlt2:k<LS.length
      ·rcases hsS.out with h0|⟨g,cs,rfl,hg,hC,hsz⟩
       ·omega
       obtain⟨y,hy⟩:∃y,cs[k]?=some y:=⟨cs[k]'(by omega),Array.getElem?_eq_getElem _⟩
       have c1:=hC.cell hy
       have f1:=hC.frozen k
       have k1:(k:Int)<LS.length:=by omega
       have hi:IntKind.i64.wrap ((k:Int)+1)=k+1:=IntWalk.i64_in _ (by omega)
       have q1:=Lib.hid (hb.setCell (p:=⟨g,k,none⟩) hg (.int .i64 (-1)))
       have q3:=Lib.hid (hsS.out.set g k (.int .i64 (-1)))
       clear hC hy hsz hsS hb
       go_wp2_with fail
       exact⟨⟨k+1,by omega,by go_num,q1.out,q3⟩,by simp[intOf];omega⟩
      ·obtain rfl:k=LS.length:=by omega
       clear hsS
       go_wp2_with (first
        |(go_at_call 13;refine(qbe ⟨a5,n5,c5⟩ ⟨a6,n6,c6⟩ LS _ (i5.out.below g6) i6.out (by omega)).mono ?_;rintro e V7 ⟨rfl,g7⟩;have G7:=G6.trans (g7.mono G6.size))
        |(go_at_call 28;refine(hF.out.rsaved _ G5).mono ?_;rintro e V6 ⟨g6,a6,n6,c6,rfl,_,i6⟩;have G6:=G5.trans (g6.mono G5.size);replace i6:=Lib.hid i6)
        |(go_at_call 26;refine(hF.out.saved _ G3).mono ?_;rintro e V5 ⟨g5,a5,n5,c5,rfl,_,i5⟩;have G5:=G3.trans (g5.mono G3.size);replace i5:=Lib.hid i5)
        |(go_at_call 13;refine(qbe ⟨a1,n1,c1⟩ ⟨a2,n2,c2⟩ LA _ (i1.out.below g2) i2.out (by omega)).mono ?_;rintro e V3 ⟨rfl,g3⟩;have G3:=G2.trans (g3.mono G2.size))
        |(go_at_call 27;refine(hF.out.rargs _ G1).mono ?_;rintro e V2 ⟨g2,a2,n2,c2,rfl,_,i2⟩;have G2:=G1.trans (g2.mono G1.size);replace i2:=Lib.hid i2)
        |(go_at_call 25;refine(hF.out.args _ hb).mono ?_;rintro e V1 ⟨g1,a1,n1,c1,rfl,_,i1⟩;have G1:=hb.trans (g1.mono hb.size);replace i1:=Lib.hid i1))
       go_ret
       exact⟨qg (by simp),hB3.trans (G7.mono hB3.size)⟩
  ·go_upto_region 6 with(go_at_call 9;refine KM.mono ?_;clear KM;rintro e W3 ⟨hb3,(⟨_,rfl⟩|⟨h0,_⟩)⟩;rotate_left;· exact absurd h0 hx)
   go_wp2_with fail
   go_ret
   exact⟨rfl,hB2.trans (hb3.mono hB2.size)⟩
end Go.Proofs.YtkoloennfejaaaaGreatDoor
