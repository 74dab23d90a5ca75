/-
  TableOps of any machine, beside the law's own example.
-/
import Derived.Test.YtkoloennfejaaaaGreatDoorThC
import Derived.Test.YtkoloennfejaaaaGreatDoorTdCP
import Derived.Deep.CutRange
set_option maxHeartbeats 16000000
set_option maxRecDepth 100000
namespace Go.Proofs.YtkoloennfejaaaaGreatDoor
open Go.RowKit
theorem qin{w:World}{m:MV}{d:MachD}{L:RegL}(hE:Env w)(hA:Zd w)(h:Xb w m d L)(name:ByteArray)(n oper reg:Int)
 (hAl:∀W,Below w.heap.size w W->Calls Tryz.prog 7 #[] W fun e w'=>e = .returned (.bool true)/\Below W.heap.size W w') :
 Calls Tryz.prog 4 #[m.val,.string name,.int .i64 n,.int .i64 oper,.int .i64 reg] w fun e w'=>e = .returned (.bool true)/\Below w.heap.size w w':=by
 obtain⟨mn,rg,kl,op,ar,rs,sv,sl⟩:=m
 show Calls Tryz.prog 4 #[.agg #[.string mn,.slice rg.a rg.n rg.c,.slice kl.a kl.n kl.c,.slice op.a op.n op.c,.slice ar.a ar.n ar.c,.string rs,.slice sv.a sv.n sv.c,.int .i64 sl],.string name,.int .i64 n,.int .i64 oper,.int .i64 reg] w _
 obtain⟨W0,hW0⟩:∃W0,W0=w.alloc (.cells #[.string mn,.slice rg.a rg.n rg.c,.slice kl.a kl.n kl.c,.slice op.a op.n op.c,.slice ar.a ar.n ar.c,.string rs,.slice sv.a sv.n sv.c,.int .i64 sl] 27):=⟨_,rfl⟩
 have hb0:Below w.heap.size w W0:=by rw[hW0];exact qe
 have hbx:Cells W0 w.heap.size 27 #[.string mn,.slice rg.a rg.n rg.c,.slice kl.a kl.n kl.c,.slice op.a op.n op.c,.slice ar.a ar.n ar.c,.string rs,.slice sv.a sv.n sv.c,.int .i64 sl]:=by rw[hW0];exact Cells.new _ _ _
 have A:=hAl W0 hb0
 have x0:=hbx.cell (j:=0) (v:=.string mn) rfl
 have x1:=hbx.cell (j:=1) (v:=.slice rg.a rg.n rg.c) rfl
 have x2:=hbx.cell (j:=2) (v:=.slice kl.a kl.n kl.c) rfl
 have x3:=hbx.cell (j:=3) (v:=.slice op.a op.n op.c) rfl
 have x4:=hbx.cell (j:=4) (v:=.slice ar.a ar.n ar.c) rfl
 have x5:=hbx.cell (j:=5) (v:=.string rs) rfl
 have x6:=hbx.cell (j:=6) (v:=.slice sv.a sv.n sv.c) rfl
 have x7:=hbx.cell (j:=7) (v:=.int .i64 sl) rfl
 replace hW0:=Lib.hid hW0
 replace h:=Lib.hid h
 clear hAl
 go_enter Tryz.func4,Tryz.ntmps4
 go_upto_region 1 with fail
 rw[←hW0.out]
 go_upto_region 2 with(go_at_call 7;refine A.mono ?_;clear A;rintro e W1 ⟨rfl,hb1⟩)
 have hB1:Below w.heap.size w W1:=hb0.trans (hb1.mono hb0.size)
 have y0:=cell_below hb1 x0
 have y1:=cell_below hb1 x1
 have y2:=cell_below hb1 x2
 have y3:=cell_below hb1 x3
 have y4:=cell_below hb1 x4
 have y5:=cell_below hb1 x5
 have y6:=cell_below hb1 x6
 have y7:=cell_below hb1 x7
 have h1:=Lib.hid (h.out.below hB1)
 have KB:=qic h1.out
 change Calls _ _ #[.agg #[.string mn,.slice rg.a rg.n rg.c,.slice kl.a kl.n kl.c,.slice op.a op.n op.c,.slice ar.a ar.n ar.c,.string rs,.slice sv.a sv.n sv.c,.int .i64 sl]] W1 _ at KB
 clear x0 x1 x2 x3 x4 x5 x6 x7 hbx
 go_upto_region 3 with(go_at_call 8;refine KB.mono ?_;clear KB;rintro e W2 ⟨g,rfl,hg,hb2⟩)
 have hB2:Below w.heap.size w W2:=hB1.trans (hb2.mono hB1.size)
 cases g with
 |true=>
  clear hg
  go_wp2_with fail
  go_ret
  exact⟨rfl,hB2⟩
 |false=>
  by_cases hlong:1000<name.size
  ·clear hg
   have hl2:(1000:Int)<name.size:=by omega
   go_wp2_with fail
   go_ret
   exact⟨rfl,hB2⟩
  have hl2:¬ (1000:Int)<name.size:=by omega
  have hN:=hg rfl
  have hN0:=Lib.hid hN
  have KM:=qil (m:=⟨mn,rg,kl,op,ar,rs,sv,sl⟩) ((qhD (hE.below hB1) (hA.below hB1) h1.out hN).below hb2) (qgY h.out) ((qhE h1.out hN).below hb2) h.out.same h.out.regs.2.1
  change Calls _ _ #[.agg #[.string mn,.slice rg.a rg.n rg.c,.slice kl.a kl.n kl.c,.slice op.a op.n op.c,.slice ar.a ar.n ar.c,.string rs,.slice sv.a sv.n sv.c,.int .i64 sl]] W2 _ at KM
  have z0:=cell_below hb2 y0
  have z1:=cell_below hb2 y1
  have z2:=cell_below hb2 y2
  have z3:=cell_below hb2 y3
  have z4:=cell_below hb2 y4
  have z5:=cell_below hb2 y5
  have z6:=cell_below hb2 y6
  have z7:=cell_below hb2 y7
  clear y0 y1 y2 y3 y4 y5 y6 y7 hg hN h1
  by_cases hx:makeE d L=0
  ·go_upto_region 6 with(go_at_call 9;refine KM.mono ?_;clear KM;rintro e W3 ⟨hb3,(⟨hne,_⟩|⟨_,C,T,M,tb,rl,cl,ol,nV,pV,cV,rfl,hTab,hSt,hLs⟩)⟩;· exact absurd hx hne)
   have hB3:Below w.heap.size w W3:=hB2.trans (hb3.mono hB2.size)
   have hM0:=qhD (m:=⟨mn,rg,kl,op,ar,rs,sv,sl⟩) (hE.below hB1) (hA.below hB1) (h.out.below hB1) hN0.out
   have ht:=qgY h.out
   have hs:=qfG hM0 ht hx
   have hOK:=hSt.tabOk hLs.lists
   have hBO:qbp _ W3 C T d L M tb rl cl ol ⟨⟨mn,rg,kl,op,ar,rs,sv,sl⟩,nV,pV,cV⟩:=⟨hTab,hOK,fun k hk=>(hs.kls k hk).2.2,fun o ho=>⟨qgs hOK.len.symm (qcU hx).2.2.2.1 (qcU hx).2.2.2.2.1 ho,(hs.opk o ho).2.1,(hs.opk o ho).2.2⟩,hs.on⟩
   have hKm:OpsAt W3 op d.ops:=(h.out.below hB3).ops
   have c1:=Cells.cell hOK.tab (j:=8) (v:=.slice nV.a nV.n nV.c) rfl
   have hon:op.n=d.ops.length:=hKm.1
   have hnn:nV.n=(plsL L).length:=by rw[←hOK.len];exact hOK.names.1
   have hn2:=hOK.few
   rw[←hnn] at hn2
   have c3:=cell_below hb3 z3
   rw[hon] at c3
   have hOne:Hid (∀k,k<d.ops.length->∃ (q:Int->Int->Bool) (V:List Int) (tie:Int),Ke W3 C T k q V tie/\∃b o,op.a=some ⟨b,o,none⟩/\W3.cell? ⟨b,o+k*6+4,none⟩=some (.int .i64 tie)):=Lib.hid fun k hk=>qiy hBO hKm hk
   obtain⟨q,K1,K2⟩:=qiw hBO name (by omega)
   obtain⟨qn,Vn,tie,hFn,hVn,hcase⟩:=qiz hBO hKm n
   (try dsimp only at hcase)
   have hlen:d.ops.length<=64:=hBO.few
   generalize d.ops.length=len at *
   generalize op.a=oa at *
   generalize op.c=oc at *
   generalize nV.a=na at *
   generalize nV.n=nn at *
   generalize nV.c=nc at *
   replace hcase:=Lib.hid hcase
   have K1':=K1 W3 (Below.refl _ _)
   have K2':=fun W hb=>K2 W hb
   replace K2':=Lib.hid K2'
   have KM1:=fun W hb=>hFn.may W oper reg hb
   have KM2:=fun W hb=>hFn.rmay W oper reg hb
   have KT:=fun W hb=>hFn.tie W hb
   have KC1:=fun W hb=>hFn.clob W hb
   have KC2:=fun W hb=>hFn.rclob W hb
   generalize qn oper reg=qv at *
   replace KM1:=Lib.hid KM1
   replace KM2:=Lib.hid KM2
   replace KT:=Lib.hid KT
   replace KC1:=Lib.hid KC1
   replace KC2:=Lib.hid KC2
   clear hTab hSt hLs hBO hKm hs ht hM0 K1 K2 hon hOK hnn hFn z0 z1 z2 z3 z4 z5 z6 z7 hx
   have hb30:=Below.refl W3.heap.size W3
   go_upto_region 10 with(first
    |(go_at_call 19;refine(K2'.out _ hb4).mono ?_;rintro e W5 ⟨rfl,rfl⟩)
    |(go_at_call 18;refine K1'.mono ?_;clear K1';rintro e W4 ⟨rfl,hb4⟩))
   go_cut [16,17,91] from 23 (fun _ _ s Wx=>s = .bool false/\Below W3.heap.size W3 Wx)
   case first=>
    clear hcase hOne hVn KT KC1 KC2
    rcases(by omega:0<=q∨q<0) with hq|hq
    ·have e1:decide ((0:Int)<=q)=true:=decide_eq_true hq
     have e2:max 0 q=q:=by omega
     go_wp2_with (first
      |(go_at_call 21;refine(KM2.out _ hb5).mono ?_;rintro e W6 ⟨rfl,hb6'⟩;have hb6:=hb5.trans (hb6'.mono hb5.size))
      |(go_at_call 20;refine(KM1.out _ hb4).mono ?_;rintro e W5 ⟨rfl,hb5'⟩;have hb5:=hb4.trans (hb5'.mono hb4.size)))
     go_meet
     exact⟨by simp,hb6⟩
    ·have hq2:¬ 0<=q:=by omega
     have e1:decide ((0:Int)<=q)=false:=decide_eq_false hq2
     have e2:max 0 q=0:=by omega
     go_wp2_with (first
      |(go_at_call 21;refine(KM2.out _ hb5).mono ?_;rintro e W6 ⟨rfl,hb6'⟩;have hb6:=hb5.trans (hb6'.mono hb5.size))
      |(go_at_call 20;refine(KM1.out _ hb4).mono ?_;rintro e W5 ⟨rfl,hb5'⟩;have hb5:=hb4.trans (hb5'.mono hb4.size)))
     go_meet
     exact⟨by simp,hb6⟩
   case rest=>
    obtain⟨rfl,hc0⟩:=hcut
    clear K2' KM1 KM2 hb30 hb4
    have c3':=cell_below hc0 c3
    refine Or.elim hcase.out ?inside ?outside
    case' inside=>
     rintro⟨h0,h1,b,o,rfl,d1⟩
     obtain⟨j,rfl⟩:∃j:Nat,n=j:=⟨n.toNat,by omega⟩
     rw[Int.toNat_natCast] at d1
     have j1:j<len:=by omega
     have e1:=cell_below hc0 d1
     clear hcase d1
     go_wp2_with (first
      |(go_at_call 13;refine(qbe ⟨va,vn,vc⟩ ⟨ua,un,uc⟩ Vn _ (hi7.out.below hb8) hi8.out (by omega)).mono ?_;rintro e W9 ⟨rfl,hb9⟩;have hB9:=hB8.trans (hb9.mono hB8.size))
      |(go_at_call 24;refine(KC2.out _ hB7).mono ?_;rintro e W8 ⟨hb8,ua,un,uc,rfl,_,hi8⟩;have hB8:=hB7.trans (hb8.mono hB7.size);replace hi8:=Lib.hid hi8)
      |(go_at_call 23;refine(KC1.out _ hB6).mono ?_;rintro e W7 ⟨hb7,va,vn,vc,rfl,_,hi7⟩;have hB7:=hB6.trans (hb7.mono hB6.size);replace hi7:=Lib.hid hi7)
      |(go_at_call 22;refine(KT.out _ hc0).mono ?_;rintro e W6 ⟨rfl,hb6⟩;have hB6:=hc0.trans (hb6.mono hc0.size)))
     clear h0 h1 e1
    case' outside=>
     rintro⟨h0,rfl⟩
     refine Or.elim (show n<0∨(0<=n/\¬ n<(len:Int)) by omega) ?low ?high
     case' low=>
      intro h1
      have h2:¬ 0<=n:=by omega
      clear hcase h0
      go_wp2_with (first
       |(go_at_call 13;refine(qbe ⟨va,vn,vc⟩ ⟨ua,un,uc⟩ Vn _ (hi7.out.below hb8) hi8.out (by omega)).mono ?_;rintro e W9 ⟨rfl,hb9⟩;have hB9:=hB8.trans (hb9.mono hB8.size))
       |(go_at_call 24;refine(KC2.out _ hB7).mono ?_;rintro e W8 ⟨hb8,ua,un,uc,rfl,_,hi8⟩;have hB8:=hB7.trans (hb8.mono hB7.size);replace hi8:=Lib.hid hi8)
       |(go_at_call 23;refine(KC1.out _ hB6).mono ?_;rintro e W7 ⟨hb7,va,vn,vc,rfl,_,hi7⟩;have hB7:=hB6.trans (hb7.mono hB6.size);replace hi7:=Lib.hid hi7)
       |(go_at_call 22;refine(KT.out _ hc0).mono ?_;rintro e W6 ⟨rfl,hb6⟩;have hB6:=hc0.trans (hb6.mono hc0.size)))
      clear h1 h2
     case' high=>
      rintro⟨h1,h2⟩
      clear hcase h0
      go_wp2_with (first
       |(go_at_call 13;refine(qbe ⟨va,vn,vc⟩ ⟨ua,un,uc⟩ Vn _ (hi7.out.below hb8) hi8.out (by omega)).mono ?_;rintro e W9 ⟨rfl,hb9⟩;have hB9:=hB8.trans (hb9.mono hB8.size))
       |(go_at_call 24;refine(KC2.out _ hB7).mono ?_;rintro e W8 ⟨hb8,ua,un,uc,rfl,_,hi8⟩;have hB8:=hB7.trans (hb8.mono hB7.size);replace hi8:=Lib.hid hi8)
       |(go_at_call 23;refine(KC1.out _ hB6).mono ?_;rintro e W7 ⟨hb7,va,vn,vc,rfl,_,hi7⟩;have hB7:=hB6.trans (hb7.mono hB6.size);replace hi7:=Lib.hid hi7)
       |(go_at_call 22;refine(KT.out _ hc0).mono ?_;rintro e W6 ⟨rfl,hb6⟩;have hB6:=hc0.trans (hb6.mono hc0.size)))
      clear h1 h2
    all_goals
     clear KT KC1 KC2 hi7 hi8 hb6 hb7 hb8 hb9 hB6 hB7 hB8 hc0 c3'
     go_loopw [20] (fun iv wr=>∃i:Nat,i<=len/\iv = .int .i64 i/\Below W3.heap.size W3 wr) (fun iv _=>len-(intOf iv).toNat)
     case atStart=>exact⟨0,Nat.zero_le _,rfl,hB9⟩
     case round=>
      clear hB9
      obtain⟨i,hi,rfl,hb⟩:=hrel
      have i0:(0:Int)<=i:=Int.natCast_nonneg _
      have x3:=cell_below hb c3
      by_cases hlt:i<len
      ·obtain⟨q1,V1,t1,hF,_⟩:=hOne.out i hlt
       have i1:(i:Int)<len:=by omega
       have hiw:IntKind.i64.wrap ((i:Int)+1)=i+1:=IntWalk.i64_in _ (by omega)
       have hM1:=Lib.hid hF.may
       have hM2:=Lib.hid hF.rmay
       clear hF hOne
       go_wp2_with fail
       go_loopw [21] (fun iv wr=>∃p:Nat,p<=4/\iv = .int .i64 p/\Below W3.heap.size W3 wr) (fun iv _=>4-(intOf iv).toNat)
       case atStart=>exact⟨0,Nat.zero_le _,rfl,hb⟩
       case round=>
        clear hb
        obtain⟨p,hp,rfl,hb⟩:=hrel
        have p0:(0:Int)<=p:=Int.natCast_nonneg _
        by_cases hlt2:p<=3
        ·have p1:(p:Int)<=3:=by omega
         have hpw:IntKind.i64.wrap ((p:Int)+1)=p+1:=IntWalk.i64_in _ (by omega)
         go_wp2_with fail
         go_loopw [22] (fun iv wr=>∃r:Nat,r<=nn/\iv = .int .i64 r/\Below W3.heap.size W3 wr) (fun iv _=>nn-(intOf iv).toNat)
         case atStart=>exact⟨0,Nat.zero_le _,rfl,hb⟩
         case round=>
          clear hb
          obtain⟨r,hr,rfl,hb⟩:=hrel
          have r0:(0:Int)<=r:=Int.natCast_nonneg _
          have x1:=cell_below hb c1
          by_cases hlt3:r<nn
          ·have r1:(r:Int)<nn:=by omega
           have hrw:IntKind.i64.wrap ((r:Int)+1)=r+1:=IntWalk.i64_in _ (by omega)
           have KA:=hM1.out wr p r hb
           have KB:=fun W hb=>hM2.out W p r hb
           generalize q1 p r=qq at KA KB
           replace KB:=Lib.hid KB
           go_wp2_with (first
            |(go_at_call 21;refine(KB.out _ hB11).mono ?_;rintro e W12 ⟨rfl,hb12⟩;have hB12:=hB11.trans (hb12.mono hB11.size))
            |(go_at_call 20;refine KA.mono ?_;clear KA;rintro e W11 ⟨rfl,hb11⟩;have hB11:=hb.trans (hb11.mono hb.size)))
           exact⟨⟨r+1,by omega,by go_num,hB12⟩,by simp[intOf];omega⟩
          ·obtain rfl:r=nn:=by omega
           go_wp2_with fail
           exact⟨⟨p+1,by omega,by go_num,hb⟩,by simp[intOf];omega⟩
        ·have p1:¬ (p:Int)<=3:=by omega
         go_wp2_with fail
         exact⟨⟨i+1,by omega,by go_num,hb⟩,by simp[intOf];omega⟩
      ·obtain rfl:i=len:=by omega
       clear hOne
       go_wp2_with fail
       go_ret
       exact⟨rfl,hB3.trans (hb.mono hB3.size)⟩
  ·go_upto_region 6 with(go_at_call 9;refine KM.mono ?_;clear KM;rintro e W3 ⟨hb3,(⟨_,rfl⟩|⟨h0,_⟩)⟩;rotate_left;· exact absurd h0 hx)
   go_wp2_with fail
   go_ret
   exact⟨rfl,hB2.trans (hb3.mono hB2.size)⟩
end Go.Proofs.YtkoloennfejaaaaGreatDoor
