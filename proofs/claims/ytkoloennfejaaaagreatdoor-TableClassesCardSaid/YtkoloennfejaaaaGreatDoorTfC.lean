/-
  TableClasses of any machine, beside the law's own example.
-/
import Derived.Test.YtkoloennfejaaaaGreatDoorTfB
import Derived.Test.YtkoloennfejaaaaGreatDoorTdCP
import Derived.Deep.CutRange
set_option maxHeartbeats 16000000
set_option maxRecDepth 100000
namespace Go.Proofs.YtkoloennfejaaaaGreatDoor
open Go.RowKit
theorem qim{w:World}{m:MV}{d:MachD}{L:RegL}(hE:Env w)(hA:Zd w)(h:Xb w m d L)(name:ByteArray)(n reg:Int)
 (hAl:∀W,Below w.heap.size w W->Calls Tryz.prog 7 #[] W fun e w'=>e = .returned (.bool true)/\Below W.heap.size W w') :
 Calls Tryz.prog 3 #[m.val,.string name,.int .i64 n,.int .i64 reg] w fun e w'=>e = .returned (.bool true)/\Below w.heap.size w w':=by
 obtain⟨mn,rg,kl,op,ar,rs,sv,sl⟩:=m
 show Calls Tryz.prog 3 #[.agg #[.string mn,.slice rg.a rg.n rg.c,.slice kl.a kl.n kl.c,.slice op.a op.n op.c,.slice ar.a ar.n ar.c,.string rs,.slice sv.a sv.n sv.c,.int .i64 sl],.string name,.int .i64 n,.int .i64 reg] w _
 obtain⟨W0,hW0⟩:∃W0,W0=w.alloc (.cells #[.string mn,.slice rg.a rg.n rg.c,.slice kl.a kl.n kl.c,.slice op.a op.n op.c,.slice ar.a ar.n ar.c,.string rs,.slice sv.a sv.n sv.c,.int .i64 sl] 27):=⟨_,rfl⟩
 have hb0:Below w.heap.size w W0:=by rw[hW0];exact qe
 have hbx:Cells W0 w.heap.size 27 #[.string mn,.slice rg.a rg.n rg.c,.slice kl.a kl.n kl.c,.slice op.a op.n op.c,.slice ar.a ar.n ar.c,.string rs,.slice sv.a sv.n sv.c,.int .i64 sl]:=by rw[hW0];exact Cells.new _ _ _
 have A:=hAl W0 hb0
 have x0:=hbx.cell (j:=0) (v:=.string mn) rfl
 have x1:=hbx.cell (j:=1) (v:=.slice rg.a rg.n rg.c) rfl
 have x2:=hbx.cell (j:=2) (v:=.slice kl.a kl.n kl.c) rfl
 have x3:=hbx.cell (j:=3) (v:=.slice op.a op.n op.c) rfl
 have x4:=hbx.cell (j:=4) (v:=.slice ar.a ar.n ar.c) rfl
 have x5:=hbx.cell (j:=5) (v:=.string rs) rfl
 have x6:=hbx.cell (j:=6) (v:=.slice sv.a sv.n sv.c) rfl
 have x7:=hbx.cell (j:=7) (v:=.int .i64 sl) rfl
 replace hW0:=Lib.hid hW0
 replace h:=Lib.hid h
 clear hAl
 go_enter Tryz.func3,Tryz.ntmps3
 go_upto_region 1 with fail
 rw[←hW0.out]
 go_upto_region 2 with(go_at_call 7;refine A.mono ?_;clear A;rintro e W1 ⟨rfl,hb1⟩)
 have hB1:Below w.heap.size w W1:=hb0.trans (hb1.mono hb0.size)
 have y0:=cell_below hb1 x0
 have y1:=cell_below hb1 x1
 have y2:=cell_below hb1 x2
 have y3:=cell_below hb1 x3
 have y4:=cell_below hb1 x4
 have y5:=cell_below hb1 x5
 have y6:=cell_below hb1 x6
 have y7:=cell_below hb1 x7
 have h1:=Lib.hid (h.out.below hB1)
 have KB:=qic h1.out
 change Calls _ _ #[.agg #[.string mn,.slice rg.a rg.n rg.c,.slice kl.a kl.n kl.c,.slice op.a op.n op.c,.slice ar.a ar.n ar.c,.string rs,.slice sv.a sv.n sv.c,.int .i64 sl]] W1 _ at KB
 clear x0 x1 x2 x3 x4 x5 x6 x7 hbx
 go_upto_region 3 with(go_at_call 8;refine KB.mono ?_;clear KB;rintro e W2 ⟨g,rfl,hg,hb2⟩)
 have hB2:Below w.heap.size w W2:=hB1.trans (hb2.mono hB1.size)
 cases g with
 |true=>
  clear hg
  go_wp2_with fail
  go_ret
  exact⟨rfl,hB2⟩
 |false=>
  by_cases hlong:1000<name.size
  ·clear hg
   have hl2:(1000:Int)<name.size:=by omega
   go_wp2_with fail
   go_ret
   exact⟨rfl,hB2⟩
  have hl2:¬ (1000:Int)<name.size:=by omega
  have hN:=hg rfl
  have hN0:=Lib.hid hN
  have KM:=qil (m:=⟨mn,rg,kl,op,ar,rs,sv,sl⟩) ((qhD (hE.below hB1) (hA.below hB1) h1.out hN).below hb2) (qgY h.out) ((qhE h1.out hN).below hb2) h.out.same h.out.regs.2.1
  change Calls _ _ #[.agg #[.string mn,.slice rg.a rg.n rg.c,.slice kl.a kl.n kl.c,.slice op.a op.n op.c,.slice ar.a ar.n ar.c,.string rs,.slice sv.a sv.n sv.c,.int .i64 sl]] W2 _ at KM
  have z0:=cell_below hb2 y0
  have z1:=cell_below hb2 y1
  have z2:=cell_below hb2 y2
  have z3:=cell_below hb2 y3
  have z4:=cell_below hb2 y4
  have z5:=cell_below hb2 y5
  have z6:=cell_below hb2 y6
  have z7:=cell_below hb2 y7
  clear y0 y1 y2 y3 y4 y5 y6 y7 hg hN h1
  by_cases hx:makeE d L=0
  ·go_upto_region 6 with(go_at_call 9;refine KM.mono ?_;clear KM;rintro e W3 ⟨hb3,(⟨hne,_⟩|⟨_,C,T,M,tb,rl,cl,ol,nV,pV,cV,rfl,hTab,hSt,hLs⟩)⟩;· exact absurd hx hne)
   have hB3:Below w.heap.size w W3:=hB2.trans (hb3.mono hB2.size)
   have hM0:=qhD (m:=⟨mn,rg,kl,op,ar,rs,sv,sl⟩) (hE.below hB1) (hA.below hB1) (h.out.below hB1) hN0.out
   have ht:=qgY h.out
   have hs:=qfG hM0 ht hx
   have hBC:Jp _ W3 C T d L M tb rl cl ol ⟨⟨mn,rg,kl,op,ar,rs,sv,sl⟩,nV,pV,cV⟩:=⟨hTab,hSt.tabOk hLs.lists,hs.kls,JN (qcU hx).2.2.2.1,hs.cn⟩
   have hKm:ClassesAt W3 kl d.classes:=(h.out.below hB3).classes
   have c10:=Cells.cell hBC.ok.tab (j:=10) (v:=.slice cV.a cV.n cV.c) rfl
   have hcn:cV.n=d.classes.length:=by have:=hBC.ok.lists.len;rw[show(clsOf (nmsL L) d.classes).length=d.classes.length by simp[clsOf]] at this;exact this
   rw[hcn] at c10
   have hkn:kl.n=d.classes.length:=hKm.1
   have c2:=cell_below hb3 z2
   rw[hkn] at c2
   have hOne:Hid (∀k,k<d.classes.length->∃ (nm:ByteArray) (V:List Int) (wd:Int),Xz W3 C T k V wd/\V.length<=64/\(∃ (b o:Nat) (v:SlV),cV.a=some ⟨b,o,none⟩/\W3.cell? ⟨b,o+k,none⟩=some (.slice v.a v.n v.c)/\IntsAt W3 v V) /\
    (∃b o,kl.a=some ⟨b,o,none⟩/\W3.cell? ⟨b,o+k*2,none⟩=some (.string nm)) /\
    ∀W,Below W3.heap.size W3 W->Calls Tryz.prog 10 #[.pointer (some ⟨C,0,none⟩),.string nm] W fun e w'=>e = .returned (.tuple #[.int .i64 k,.bool true])/\Below W.heap.size W w'):=Lib.hid fun k hk=>qhX hBC ht hKm hk
   obtain⟨q,K1,K2⟩:=qhS hBC name (by omega)
   obtain⟨Vn,wdn,hFn,hVn,hcase⟩:=qhY hBC n
   dsimp only at hcase
   have hlen:d.classes.length<=64:=hBC.few
   generalize d.classes.length=len at *
   generalize cV.a=ca at *
   generalize cV.c=cc at *
   generalize kl.a=ka at *
   generalize kl.c=kc at *
   replace hcase:=Lib.hid hcase
   replace hFn:=Lib.hid hFn
   have K1':=K1 W3 (Below.refl _ _)
   replace K2:=Lib.hid K2
   clear hTab hSt hLs hBC hKm hs ht hM0 K1 hcn hkn z0 z1 z2 z3 z4 z5 z6 z7 hx
   have hb30:=Below.refl W3.heap.size W3
   go_upto_region 10 with(first
    |(go_at_call 11;refine(K2.out _ hb4).mono ?_;rintro e W5 ⟨rfl,rfl⟩)
    |(go_at_call 10;refine K1'.mono ?_;clear K1';rintro e W4 ⟨rfl,hb4⟩))
   go_cut [14,15,78] from 23 (fun _ _ s Wx=>s = .bool false/\Wx=W4)
   case first=>
    clear hcase hFn hOne hVn
    rcases(by omega:0<=q∨q<0) with hq|hq
    ·have e1:decide ((0:Int)<=q)=true:=decide_eq_true hq
     have e2:max 0 q=q:=by omega
     go_wp2_with fail
     go_meet
     exact⟨rfl,rfl⟩
    ·have hq2:¬ 0<=q:=by omega
     have e1:decide ((0:Int)<=q)=false:=decide_eq_false hq2
     have e2:max 0 q=0:=by omega
     go_wp2_with fail
     go_meet
     exact⟨rfl,rfl⟩
   case rest=>
    obtain⟨rfl,hwc⟩:=hcut
    subst wc
    clear K2 hb30
    go_wp2_with fail
    go_loopw [17] (fun iv wr=>∃k:Nat,k<=len/\iv = .int .i64 k/\Below W3.heap.size W3 wr) (fun iv _=>len-(intOf iv).toNat)
    case atStart=>exact⟨0,Nat.zero_le _,rfl,hb4⟩
    case round=>
     obtain⟨k,hk,rfl,hb⟩:=hrel
     have k0:(0:Int)<=k:=Int.natCast_nonneg _
     have x10:=cell_below hb c10
     have x2:=cell_below hb c2
     by_cases hlt:k<len
     ·obtain⟨nm,V,wd,hF,hV,⟨b,o,v,hca,d1,hI⟩,⟨b',o',hka,d2⟩,hC⟩:=hOne.out k hlt
      rw[hca] at x10
      rw[hka] at x2
      have k1:(k:Int)<len:=by omega
      have hkw:IntKind.i64.wrap ((k:Int)+1)=k+1:=IntWalk.i64_in _ (by omega)
      have e1:=cell_below hb d1
      have e2:=cell_below hb d2
      replace hI:=Lib.hid hI
      clear hcase hFn hOne hca hka d1 d2 c10 c2
      go_wp2_with (first
       |(go_at_call 15;refine(hF.rwidth _ hB8).mono ?_;rintro e W9 ⟨rfl,hb9⟩;have hB9:=hB8.trans (hb9.mono hB8.size);have h59:=h58.trans (hb9.mono h58.size))
       |(go_at_call 14;refine(hF.width _ hB7).mono ?_;rintro e W8 ⟨rfl,hb8⟩;have hB8:=hB7.trans (hb8.mono hB7.size);have h58:=h57.trans (hb8.mono h57.size))
       |(go_at_call 13;refine(qbe ⟨va,vn,vc⟩ v V _ (hi5.out.below hb6) (hI.out.below hB6) (by omega)).mono ?_;rintro e W7 ⟨rfl,hb7⟩;have hB7:=hB6.trans (hb7.mono hB6.size);have h57:=hb6.trans (hb7.mono hb6.size))
       |(go_at_call 10;refine(hC _ hB5).mono ?_;rintro e W6 ⟨rfl,hb6⟩;have hB6:=hB5.trans (hb6.mono hB5.size);have w10:=cell_below hb6 y10;have g1:=cell_below hb6 f1)
       |(go_at_call 12;refine(hF.of _ hb).mono ?_;rintro e W5 ⟨hb5,va,vn,vc,rfl,hr5,hi5⟩;have hB5:=hb.trans (hb5.mono hb.size);have y10:=cell_below hb5 x10;have y2:=cell_below hb5 x2;have f1:=cell_below hb5 e1;have f2:=cell_below hb5 e2;replace hr5:=Lib.hid hr5;replace hi5:=Lib.hid hi5))
      have hvn:vn=V.length:=hi5.out.1
      subst hvn
      have hrow:Hid (qfS W3.heap.size W9 va V 0):=Lib.hid (qfS.of (qb (qj hr5.out hb.size) h59))
      clear hI hr5 hi5 hC x10 x2 e1 e2 y10 y2 f1 f2 w10 g1 hb5 hb6 hb7 hb8 hb9 hB5 hB6 hB7 hB8 h57 h58 h59 hb
      generalize W9=w9 at *
      go_loopw [21] (fun iv wr=>∃j:Nat,j<=V.length/\iv = .int .i64 j/\Below W3.heap.size W3 wr/\Hid (qfS W3.heap.size wr va V j)) (fun iv _=>V.length-(intOf iv).toNat)
      case atStart=>exact⟨0,Nat.zero_le _,rfl,hB9,hrow⟩
      case round=>
       clear hrow hB9
       obtain⟨j,hj,rfl,hB,hrow⟩:=hrel
       by_cases hlt2:j<V.length
       ·obtain⟨y,hy⟩:∃y,V[j]?=some y:=⟨V[j],List.getElem?_eq_getElem hlt2⟩
        have j0:(0:Int)<=j:=Int.natCast_nonneg _
        have j1:(j:Int)<V.length:=by omega
        have hjw:IntKind.i64.wrap ((j:Int)+1)=j+1:=IntWalk.i64_in _ (by omega)
        rcases hrow.out with h0|⟨g,cs,rfl,hg,hCs,hsz,hval⟩
        ·rw[h0] at hlt2;simp at hlt2
        have hcy:=hval j y (Nat.le_refl _) hy
        have c1:=hCs.cell hcy
        have KI:=hF.inn wr y hB
        have hcon:V.contains y=true:=by rw[List.contains_eq_mem];exact decide_eq_true (List.mem_of_getElem? hy)
        rw[hcon] at KI
        have hst:Hid (∀W,Below wr.heap.size wr W->W.cell? ⟨g,j,none⟩=some (.int .i64 y)/\W.frozen? ⟨g,j,none⟩=false/\Below W3.heap.size W3 (W.setCell ⟨g,j,none⟩ (.int .i64 (-1)))/\qfS W3.heap.size (W.setCell ⟨g,j,none⟩ (.int .i64 (-1))) (some ⟨g,0,none⟩) V (j+1)):=Lib.hid fun W hb=>by
         have hCW:=hCs.below hb hCs.lt
         refine⟨hCW.cell hcy,hCW.frozen j,(hB.trans (hb.mono hB.size)).setCell (p:=⟨g,j,none⟩) hg _,.inr ⟨g,_,rfl,hg,hCW.set (j:=j) (.int .i64 (-1)),by simpa using hsz,fun q x hq hx=>?_⟩⟩
         rw[Array.getElem?_setIfInBounds_ne (by omega)]
         exact hval q x (by omega) hx
        clear hcy hval hCs hrow hy hcon
        go_wp2_with (go_at_call 16;refine KI.mono ?_;clear KI;rintro e W6 ⟨rfl,hb6⟩;obtain⟨s0,s1,s2,s3⟩:=hst.out W6 hb6;replace s2:=Lib.hid s2;replace s3:=Lib.hid s3;clear hst)
        exact⟨⟨j+1,by omega,by go_num,s2.out,s3⟩,by simp[intOf];omega⟩
       ·clear hrow
        obtain rfl:j=V.length:=by omega
        go_wp2_with fail
        exact⟨⟨k+1,by omega,by go_num,hB⟩,by simp[intOf];omega⟩
     ·obtain rfl:k=len:=by omega
      clear hOne
      have hF:=hFn.out
      rcases hcase.out with⟨h0,h1,b,o,v,hca,d1,hI⟩|⟨h0,rfl⟩
      ·obtain⟨j,rfl⟩:∃j:Nat,n=j:=⟨n.toNat,by omega⟩
       rw[Int.toNat_natCast] at d1
       have j1:j<k:=by omega
       rw[hca] at x10
       have e1:=cell_below hb d1
       replace hI:=Lib.hid hI
       clear hcase hFn hca d1 c10 c2
       go_wp2_with (first
        |(go_at_call 13;refine(qbe ⟨va,vn,vc⟩ v Vn _ hi9.out (hI.out.below hB9) (by omega)).mono ?_;rintro e W10 ⟨rfl,hb10⟩;have hB10:=hB9.trans (hb10.mono hB9.size))
        |(go_at_call 12;refine(hF.of _ hB8).mono ?_;rintro e W9 ⟨hb9,va,vn,vc,rfl,_,hi9⟩;have hB9:=hB8.trans (hb9.mono hB8.size);replace hi9:=Lib.hid hi9)
        |(go_at_call 15;refine(hF.rwidth _ hB7).mono ?_;rintro e W8 ⟨rfl,hb8⟩;have hB8:=hB7.trans (hb8.mono hB7.size))
        |(go_at_call 14;refine(hF.width _ hB6).mono ?_;rintro e W7 ⟨rfl,hb7⟩;have hB7:=hB6.trans (hb7.mono hB6.size))
        |(go_at_call 17;refine(hF.rin _ reg hB5).mono ?_;rintro e W6 ⟨rfl,hb6⟩;have hB6:=hB5.trans (hb6.mono hB5.size))
        |(go_at_call 16;refine(hF.inn _ reg hb).mono ?_;rintro e W5 ⟨rfl,hb5⟩;have hB5:=hb.trans (hb5.mono hb.size)))
       go_ret
       exact⟨qg (by simp),hB3.trans (hB10.mono hB3.size)⟩
      ·have hI:Hid (∀W,IntsAt W ⟨none,0,0⟩ []):=Lib.hid fun W=>⟨rfl,Nat.le_refl _,fun j x hj=>by simp at hj⟩
       by_cases h1:n<0
       ·have h2:¬ 0<=n:=by omega
        clear hcase hFn c10 c2 h0
        go_wp2_with (first
         |(go_at_call 13;refine(qbe ⟨va,vn,vc⟩ ⟨none,0,0⟩ [] _ hi9.out (hI.out _) (by simp)).mono ?_;rintro e W10 ⟨rfl,hb10⟩;have hB10:=hB9.trans (hb10.mono hB9.size))
         |(go_at_call 12;refine(hF.of _ hB8).mono ?_;rintro e W9 ⟨hb9,va,vn,vc,rfl,_,hi9⟩;have hB9:=hB8.trans (hb9.mono hB8.size);replace hi9:=Lib.hid hi9)
         |(go_at_call 15;refine(hF.rwidth _ hB7).mono ?_;rintro e W8 ⟨rfl,hb8⟩;have hB8:=hB7.trans (hb8.mono hB7.size))
         |(go_at_call 14;refine(hF.width _ hB6).mono ?_;rintro e W7 ⟨rfl,hb7⟩;have hB7:=hB6.trans (hb7.mono hB6.size))
         |(go_at_call 17;refine(hF.rin _ reg hB5).mono ?_;rintro e W6 ⟨rfl,hb6⟩;have hB6:=hB5.trans (hb6.mono hB5.size))
         |(go_at_call 16;refine(hF.inn _ reg hb).mono ?_;rintro e W5 ⟨rfl,hb5⟩;have hB5:=hb.trans (hb5.mono hb.size)))
        go_ret
        exact⟨qg (by simp),hB3.trans (hB10.mono hB3.size)⟩
       ·have h2:0<=n:=by omega
        have h3:¬ n<(k:Int):=by omega
        clear hcase hFn c10 c2 h0
        go_wp2_with (first
         |(go_at_call 13;refine(qbe ⟨va,vn,vc⟩ ⟨none,0,0⟩ [] _ hi9.out (hI.out _) (by simp)).mono ?_;rintro e W10 ⟨rfl,hb10⟩;have hB10:=hB9.trans (hb10.mono hB9.size))
         |(go_at_call 12;refine(hF.of _ hB8).mono ?_;rintro e W9 ⟨hb9,va,vn,vc,rfl,_,hi9⟩;have hB9:=hB8.trans (hb9.mono hB8.size);replace hi9:=Lib.hid hi9)
         |(go_at_call 15;refine(hF.rwidth _ hB7).mono ?_;rintro e W8 ⟨rfl,hb8⟩;have hB8:=hB7.trans (hb8.mono hB7.size))
         |(go_at_call 14;refine(hF.width _ hB6).mono ?_;rintro e W7 ⟨rfl,hb7⟩;have hB7:=hB6.trans (hb7.mono hB6.size))
         |(go_at_call 17;refine(hF.rin _ reg hB5).mono ?_;rintro e W6 ⟨rfl,hb6⟩;have hB6:=hB5.trans (hb6.mono hB5.size))
         |(go_at_call 16;refine(hF.inn _ reg hb).mono ?_;rintro e W5 ⟨rfl,hb5⟩;have hB5:=hb.trans (hb5.mono hb.size)))
        go_ret
        exact⟨qg (by simp),hB3.trans (hB10.mono hB3.size)⟩
  ·go_upto_region 6 with(go_at_call 9;refine KM.mono ?_;clear KM;rintro e W3 ⟨hb3,(⟨_,rfl⟩|⟨h0,_⟩)⟩;rotate_left;· exact absurd h0 hx)
   go_wp2_with fail
   go_ret
   exact⟨rfl,hB2.trans (hb3.mono hB2.size)⟩
end Go.Proofs.YtkoloennfejaaaaGreatDoor
