/-
  law7's regs: its walk.
-/
import Derived.Test.YtamhpmbjccjchaaGreatDoorTeB
set_option maxHeartbeats 16000000
set_option maxRecDepth 100000
namespace Go.Proofs.YtamhpmbjccjchaaGreatDoor
open Go.RowKit
theorem qba{base:Nat}{w:World}{C T:Nat}{d:MachD}{L M:RegL}{tb:TB}{rl:List RegT}{cl:List ClsT}{ol:List OpT}{t:TV}(h:qfM base w C T d L M tb rl cl ol t) :
 Calls Tryz.prog 8 #[.pointer (some ⟨C,0,none⟩),.pointer (some ⟨T,0,none⟩)] w fun e w'=>e = .returned (.bool true)/\Below w.heap.size w w':=by
 have hrl:rl.length=(nmsL L).length:=by rw[←h.tab.regs.names,List.length_map]
 have e1:tb.rS.n=(nmsL L).length:=by rw[(Qb h.tab.regs.row).1,hrl]
 have hps:(plsL L).length=(nmsL L).length:=h.ok.len.symm
 have hfew:(nmsL L).length<=200:=by have:=h.ok.few;omega
 have KG:=qaU C tb.rS w (h.tab.tab.cell (j:=8) rfl)
 rw[e1] at KG
 have KR:=qfD C tb.m.regs w (h.tab.tab.cell (j:=1) rfl)
 rw[h.roots] at KR
 have KQ:=qfL T t w h.ok.tab
 have c8:=Cells.cell h.ok.tab (j:=8) (v:=.slice t.names.a t.names.n t.names.c) rfl
 have c9:=Cells.cell h.ok.tab (j:=9) (v:=.slice t.places.a t.places.n t.places.c) rfl
 have n8:t.names.n=(nmsL L).length:=h.ok.names.1
 have n9:t.places.n=(nmsL L).length:=by have:=h.ok.places.len;rw[←hps];exact this
 rw[n8] at c8
 rw[n9] at c9
 have hIn:Hid (∀j:Nat,j<(nmsL L).length->∃nm p0 p1 p2 sv,nm≠⟨#[]⟩/\RegFact w C T j nm p0 p1 p2 j true sv/\(∃b o,t.names.a=some ⟨b,o,none⟩/\w.cell? ⟨b,o+j,none⟩=some (.string nm)) /\
  ∃b o,t.places.a=some ⟨b,o,none⟩/\w.cell? ⟨b,o+j*3,none⟩=some (.int .i64 p0)/\w.cell? ⟨b,o+j*3+1,none⟩=some (.int .i64 p1)/\w.cell? ⟨b,o+j*3+2,none⟩=some (.int .i64 p2)):=Lib.hid fun j hj=>by
  obtain⟨nm,p0,p1,p2,sv,h1,h2,h3⟩:=qgH h hj
  exact⟨nm,p0,p1,p2,sv,h.full _ (List.mem_of_getElem? h1),h3,h.ok.names.2.2 j nm h1,h.ok.places.at_ j _ h2⟩
 have hOut:Hid (∀i:Int,(i<0∨((nmsL L).length:Int)<=i)->∃sv,RegFact w C T i ⟨#[]⟩ 0 0 0 0 false sv):=Lib.hid fun i hi=>qfN h hi
 have hLap:Hid (∀ (W:World) (i:Int) (j:Nat),Below w.heap.size w W->Calls Tryz.prog 10 #[.pointer (some ⟨T,0,none⟩),.int .i64 i,.int .i64 j] W fun e w'=>e = .returned (.bool (lapA (plsL L) i j))/\Below W.heap.size W w'):=
  Lib.hid fun W i j hb=>QO T t (plsL L) i j W (h.ok.below hb).tab (h.ok.below hb).places
 have hLaps:Hid (∀ (W:World) (i:Int),Below w.heap.size w W->Calls Tryz.prog 17 #[.pointer (some ⟨C,0,none⟩),.int .i64 i] W fun e w'=>Below W.heap.size W w'/\∃ (a:Option Addr) (m c:Nat),e = .returned (.slice a m c)/\w'.ownsRow W.heap.size 3 1 (.slice a m c) (lapF (plsL L) i (nmsL L).length).length ((lapF (plsL L) i (nmsL L).length).map (Value.int .i64))/\IntsAt w' ⟨a,m,c⟩ (lapF (plsL L) i (nmsL L).length)):=Lib.hid fun W i hb=>by
  have hT:=h.tab.below hb
  have:=qcI C tb.rS (.map tb.rM) rl _ i W (hT.tab.cell (j:=8) rfl) (hT.tab.cell (j:=9) rfl) (qU.of_row hT.regs.row) (hT.lapSet i) (fun j hj=>cell_below hb (h.bits j hj))
  rw[qfP (by omega),hps] at this
  exact this.mono fun e w' ⟨h1,⟨a,m,c⟩,h2,h3,h4⟩=>⟨h1,a,m,c,h2,h3,h4⟩
 generalize plsL L=ps at *
 generalize(nmsL L).length=n at *
 generalize t.names.a=na at *
 generalize t.names.c=nc at *
 generalize t.places.a=pa at *
 generalize t.places.c=pc at *
 generalize t.m.regs.n=rn at *
 clear h hrl e1 n8 n9 hps
 go_enter Tryz.func8,Tryz.ntmps8
 go_wp2_with (first
  |(go_at_call 15;refine KG.mono ?_;clear KG;rintro e W1 ⟨rfl,rfl⟩)
  |(go_at_call 21;refine KR.mono ?_;clear KR;rintro e W1 ⟨rfl,rfl⟩)
  |(go_at_call 22;refine KQ.mono ?_;clear KQ;rintro e W1 ⟨rfl,rfl⟩))
 go_loopw [6] (fun iv wr=>∃k:Nat,k<=n+2/\iv = .int .i64 ((k:Int)-1)/\Below w.heap.size w wr) (fun iv _=>n+2-(intOf iv+1).toNat)
 case atStart=>exact⟨0,by omega,by simp,Below.refl _ _⟩
 case round=>
  obtain⟨k,hk,rfl,hb⟩:=hrel
  by_cases hlt:k<n+2
  ·obtain⟨i,hi⟩:∃i:Int,i=(k:Int)-1:=⟨_,rfl⟩
   rw[←hi]
   have hle:i<=(n:Int):=by omega
   have hiw:IntKind.i64.wrap (i+1)=(k:Int):=by rw[IntWalk.i64_in _ (by omega)];omega
   have hfact:∃nm p0 p1 p2 kk ok sv,RegFact w C T i nm p0 p1 p2 kk ok sv/\((ok=true/\0<=i/\i<n/\kk=i/\nm≠⟨#[]⟩/\(∃b o,na=some ⟨b,o,none⟩/\w.cell? ⟨b,o+i.toNat,none⟩=some (.string nm)) /\
    ∃b o,pa=some ⟨b,o,none⟩/\w.cell? ⟨b,o+i.toNat*3,none⟩=some (.int .i64 p0)/\w.cell? ⟨b,o+i.toNat*3+1,none⟩=some (.int .i64 p1)/\w.cell? ⟨b,o+i.toNat*3+2,none⟩=some (.int .i64 p2)) ∨
    (ok=false/\(i<0∨(n:Int)<=i)/\kk=0/\nm=⟨#[]⟩/\p0=0/\p1=0/\p2=0)):=by
    by_cases hin:0<=i/\i<n
    ·obtain⟨j,rfl⟩:∃j:Nat,i=j:=⟨i.toNat,by omega⟩
     obtain⟨nm,p0,p1,p2,sv,h1,h2,h3,h4⟩:=hIn.out j (by omega)
     exact⟨nm,p0,p1,p2,j,true,sv,h2,.inl ⟨rfl,hin.1,hin.2,rfl,h1,h3,h4⟩⟩
    ·obtain⟨sv,h1⟩:=hOut.out i (by omega)
     exact⟨_,0,0,0,0,false,sv,h1,.inr ⟨rfl,by omega,rfl,rfl,rfl,rfl,rfl⟩⟩
   obtain⟨nm,p0,p1,p2,kk,ok,sv,hF,hcase⟩:=hfact
   replace hcase:=Lib.hid hcase
   replace hF:=Lib.hid hF
   replace hi:=Lib.hid hi
   obtain⟨W0,hW0⟩:∃W0,W0=wr.alloc (.cells #[.int .i64 0,.int .i64 0,.int .i64 0] 63):=⟨_,rfl⟩
   obtain⟨B,hB⟩:∃B,B=wr.heap.size:=⟨_,rfl⟩
   have hbW0:Below w.heap.size w W0:=by rw[hW0];exact hb.alloc hb.size _
   have hbox0:Cells W0 B 63 #[.int .i64 0,.int .i64 0,.int .i64 0]:=by rw[hW0,hB];exact Cells.new _ _ _
   have hBw:w.heap.size<=B:=by rw[hB];exact hb.size
   replace hW0:=Lib.hid hW0
   replace hB:=Lib.hid hB
   clear hIn hOut hlt
   go_upto_region 9 with fail
   rw[←hW0.out,←hB.out]
   go_cut [43] from 32 to 136 (fun s Wx=>s = .bool ok/\Wx=W0)
   case first=>
    rcases hcase.out with⟨rfl,h0,h1,_⟩|⟨rfl,h0,_⟩
    ·go_wp2_with fail
     go_meet
     exact⟨rfl,rfl⟩
    ·by_cases h1:i<0
     ·have h2:¬ 0<=i:=by omega
      go_wp2_with fail
      go_meet
      exact⟨rfl,rfl⟩
     ·have h2:0<=i:=by omega
      have h3:¬ i<(n:Int):=by omega
      go_wp2_with fail
      go_meet
      exact⟨rfl,rfl⟩
   case rest=>
    obtain⟨rfl,hwc⟩:=hcut
    subst wc
    go_upto_if 43 with fail
    go_cut [7] from 32 to 136 (fun s Wx=>s = .string nm/\Cells Wx B 63 #[.int .i64 p0,.int .i64 p1,.int .i64 p2]/\Below w.heap.size w Wx)
    case first=>
     rcases hcase.out with⟨rfl,h0,h1,_,_,⟨b,o,rfl,q0⟩,⟨b2,o2,rfl,r0,r1,r2⟩⟩|⟨rfl,_,_,rfl,rfl,rfl,rfl⟩
     ·obtain⟨j,rfl⟩:∃j:Nat,i=j:=⟨i.toNat,by omega⟩
      rw[Int.toNat_natCast] at q0 r0 r1 r2
      have j1:j<n:=by omega
      have d8:=cell_below hbW0 c8
      have d9:=cell_below hbW0 c9
      have s0:=cell_below hbW0 q0
      have t0:=cell_below hbW0 r0
      have t1:=cell_below hbW0 r1
      have t2:=cell_below hbW0 r2
      have x0:=hbox0.cell (j:=0) (v:=.int .i64 0) rfl
      have x1:=hbox0.cell (j:=1) (v:=.int .i64 0) rfl
      have x2:=hbox0.cell (j:=2) (v:=.int .i64 0) rfl
      have f0:=hbox0.frozen 0
      have f1:=hbox0.frozen 1
      have f2:=hbox0.frozen 2
      have hfin:Hid (Cells (((W0.setCell ⟨B,0,none⟩ (.int .i64 p0)).setCell ⟨B,1,none⟩ (.int .i64 p1)).setCell ⟨B,2,none⟩ (.int .i64 p2)) B 63 #[.int .i64 p0,.int .i64 p1,.int .i64 p2]/\Below w.heap.size w (((W0.setCell ⟨B,0,none⟩ (.int .i64 p0)).setCell ⟨B,1,none⟩ (.int .i64 p1)).setCell ⟨B,2,none⟩ (.int .i64 p2))):=
       Lib.hid ⟨((hbox0.set (j:=0) (.int .i64 p0)).set (j:=1) (.int .i64 p1)).set (j:=2) (.int .i64 p2),((hbW0.setCell (p:=⟨B,0,none⟩) hBw _).setCell (p:=⟨B,1,none⟩) hBw _).setCell (p:=⟨B,2,none⟩) hBw _⟩
      clear hbox0 q0 r0 r1 r2 c8 c9
      go_wp2_with fail
      go_meet
      exact⟨rfl,hfin.out⟩
     ·go_wp2_with fail
      go_meet
      exact⟨rfl,hbox0,hbW0⟩
    case rest=>
     obtain⟨rfl,hbx,hbc⟩:=hcut
     clear hbox0 hbW0 hW0 hB
     have hbx':=Lib.hid hbx
     clear hbx
     go_upto_region 13 with(go_at_call 23;refine(hF.out.reg _ hbc).mono ?_;rintro e V0 ⟨rfl,hv0⟩)
     have hbV:Below w.heap.size w V0:=hbc.trans (hv0.mono hbc.size)
     have hbx:=hbx'.out.below hv0 hbx'.out.lt
     clear hbx' hbc hv0
     go_cut [106] from 32 to 136 (fun s Wx=>s = .bool false/\Below w.heap.size w Wx)
     case first=>
      have hbd:Below w.heap.size w V0.drew:=hbV.drew
      have z0:=hbx.cell (j:=0) (v:=.int .i64 p0) rfl
      have z1:=hbx.cell (j:=1) (v:=.int .i64 p1) rfl
      have z2:=hbx.cell (j:=2) (v:=.int .i64 p2) rfl
      rcases hcase.out with⟨rfl,h0,h1,hkk,hne,_⟩|⟨rfl,_,rfl,rfl,rfl,rfl,rfl⟩
      ·have hkk2:(kk != i)=false:=by simp[hkk]
       have hkk3:(kk==i)=true:=by simp[hkk]
       clear hkk
       have hne4:=qhI hne
       clear hne
       have hF:=hF.out
       clear hbx hcase
       refine wp_region_held_drew (S:=fun w'=>w'.cell? ⟨B,0,none⟩=some (.int .i64 p0)/\w'.cell? ⟨B,1,none⟩=some (.int .i64 p1)/\w'.cell? ⟨B,2,none⟩=some (.int .i64 p2)) (by kernel_rfl) ⟨z0,z1,z2⟩ (fun hH=>?_)
       refine tk 0 (some 64) (.pointer (some ⟨C,0,none⟩)) rfl hH ?_
       try simp only[Act.put,List.setIfInBounds_toArray,List.set_cons_zero,List.set_cons_succ]
       refine tk 1 (some 65) (.int .i64 i) rfl hH ?_
       try simp only[Act.put,List.setIfInBounds_toArray,List.set_cons_zero,List.set_cons_succ]
       refine tk 3 (some 67) (.string nm) rfl hH ?_
       try simp only[Act.put,List.setIfInBounds_toArray,List.set_cons_zero,List.set_cons_succ]
       refine wpAnyH_ready (rs:=[2]) (by kernel_rfl) (by simp) (AllReadyH.cons rfl (fun K hK=>?_) AllReadyH.nil)
       go_simp
       go_at_call 24
       refine(hF.name _ hbd).mono ?_
       rintro e V1 ⟨rfl,hv1⟩
       have hA1:=hbd.trans (hv1.mono hbd.size)
       have hH1:V1.cell? ⟨B,0,none⟩=some (.int .i64 p0)/\V1.cell? ⟨B,1,none⟩=some (.int .i64 p1)/\V1.cell? ⟨B,2,none⟩=some (.int .i64 p2):=⟨cell_below hv1 hH.1,cell_below hv1 hH.2.1,cell_below hv1 hH.2.2⟩
       try go_simp
       refine hK.out _ _ hH1 (fun _=>?_)
       clear hK K
       try simp only[Act.put,List.setIfInBounds_toArray,List.set_cons_zero,List.set_cons_succ]
       refine tk 4 (some 68) (.bool false) rfl hH1 ?_
       try simp only[Act.put,List.setIfInBounds_toArray,List.set_cons_zero,List.set_cons_succ]
       refine tk 5 (some 69) (.bool false) rfl hH1 ?_
       try simp only[Act.put,List.setIfInBounds_toArray,List.set_cons_zero,List.set_cons_succ]
       refine tk 6 (some 70) (.pointer (some ⟨C,0,none⟩)) rfl hH1 ?_
       try simp only[Act.put,List.setIfInBounds_toArray,List.set_cons_zero,List.set_cons_succ]
       refine tk 7 (some 71) (.int .i64 i) rfl hH1 ?_
       try simp only[Act.put,List.setIfInBounds_toArray,List.set_cons_zero,List.set_cons_succ]
       refine tk 9 (some 73) (.agg #[.int .i64 p0,.int .i64 p1,.int .i64 p2]) rfl hH1 ?_ (fun W hS=>by(obtain⟨s0,s1,s2⟩:=hS;go_simp))
       try simp only[Act.put,List.setIfInBounds_toArray,List.set_cons_zero,List.set_cons_succ]
       refine wpAnyH_ready (rs:=[8]) (by kernel_rfl) (by simp) (AllReadyH.cons rfl (fun K hK=>?_) AllReadyH.nil)
       go_simp
       go_at_call 25
       refine(hF.place _ hA1).mono ?_
       rintro e V2 ⟨rfl,hv2⟩
       have hA2:=hA1.trans (hv2.mono hA1.size)
       have hH2:V2.cell? ⟨B,0,none⟩=some (.int .i64 p0)/\V2.cell? ⟨B,1,none⟩=some (.int .i64 p1)/\V2.cell? ⟨B,2,none⟩=some (.int .i64 p2):=⟨cell_below hv2 hH1.1,cell_below hv2 hH1.2.1,cell_below hv2 hH1.2.2⟩
       try go_simp
       refine hK.out _ _ hH2 (fun _=>?_)
       clear hK K
       try simp only[Act.put,List.setIfInBounds_toArray,List.set_cons_zero,List.set_cons_succ]
       refine tk 10 (some 74) (.bool false) rfl hH2 ?_
       try simp only[Act.put,List.setIfInBounds_toArray,List.set_cons_zero,List.set_cons_succ]
       refine tk 11 (some 75) (.bool false) rfl hH2 ?_
       try simp only[Act.put,List.setIfInBounds_toArray,List.set_cons_zero,List.set_cons_succ]
       refine tk 12 (some 76) (.bool false) rfl hH2 ?_
       try simp only[Act.put,List.setIfInBounds_toArray,List.set_cons_zero,List.set_cons_succ]
       refine tk 13 (some 77) (.bool true) rfl hH2 ?_
       try simp only[Act.put,List.setIfInBounds_toArray,List.set_cons_zero,List.set_cons_succ]
       refine tk 14 (some 78) (.string nm) rfl hH2 ?_
       try simp only[Act.put,List.setIfInBounds_toArray,List.set_cons_zero,List.set_cons_succ]
       refine tk 15 (some 79) (.bool true) rfl hH2 ?_
       try simp only[Act.put,List.setIfInBounds_toArray,List.set_cons_zero,List.set_cons_succ]
       refine tk 16 (some 80) (.bool false) rfl hH2 ?_
       try simp only[Act.put,List.setIfInBounds_toArray,List.set_cons_zero,List.set_cons_succ]
       refine tk 17 (some 81) (.bool false) rfl hH2 ?_
       try simp only[Act.put,List.setIfInBounds_toArray,List.set_cons_zero,List.set_cons_succ]
       refine tk 18 (some 82) (.bool false) rfl hH2 ?_
       try simp only[Act.put,List.setIfInBounds_toArray,List.set_cons_zero,List.set_cons_succ]
       refine tk 19 (some 83) (.bool true) rfl hH2 ?_
       try simp only[Act.put,List.setIfInBounds_toArray,List.set_cons_zero,List.set_cons_succ]
       refine tk 20 (some 84) (.bool true) rfl hH2 ?_
       try simp only[Act.put,List.setIfInBounds_toArray,List.set_cons_zero,List.set_cons_succ]
       refine tk 21 (some 85) (.int .i64 kk) rfl hH2 ?_
       try simp only[Act.put,List.setIfInBounds_toArray,List.set_cons_zero,List.set_cons_succ]
       refine tk 22 (some 86) (.int .i64 i) rfl hH2 ?_
       try simp only[Act.put,List.setIfInBounds_toArray,List.set_cons_zero,List.set_cons_succ]
       refine tk 23 (some 87) (.bool false) rfl hH2 ?_
       try simp only[Act.put,List.setIfInBounds_toArray,List.set_cons_zero,List.set_cons_succ]
       refine tk 24 (some 88) (.bool false) rfl hH2 ?_
       try simp only[Act.put,List.setIfInBounds_toArray,List.set_cons_zero,List.set_cons_succ]
       refine tk 25 (some 89) (.bool false) rfl hH2 ?_
       try simp only[Act.put,List.setIfInBounds_toArray,List.set_cons_zero,List.set_cons_succ]
       refine tk 26 (some 90) (.bool false) rfl hH2 ?_
       try simp only[Act.put,List.setIfInBounds_toArray,List.set_cons_zero,List.set_cons_succ]
       refine tk 27 (some 91) (.bool true) rfl hH2 ?_
       try simp only[Act.put,List.setIfInBounds_toArray,List.set_cons_zero,List.set_cons_succ]
       refine tk 28 (some 92) (.bool false) rfl hH2 ?_
       try simp only[Act.put,List.setIfInBounds_toArray,List.set_cons_zero,List.set_cons_succ]
       refine tk 29 (some 93) (.bool false) rfl hH2 ?_
       try simp only[Act.put,List.setIfInBounds_toArray,List.set_cons_zero,List.set_cons_succ]
       refine zB 11 (by kernel_rfl) (fun d _ _ _ h=>by cases d <;> exact h) hH2 [(30,some 94),(31,some 95)] (by kernel_rfl) ?_
       try simp only[yO,Act.put,List.setIfInBounds_toArray,List.set_cons_succ,List.set_cons_zero]
       refine tk 32 (some 96) (.bool false) rfl hH2 ?_
       try simp only[Act.put,List.setIfInBounds_toArray,List.set_cons_zero,List.set_cons_succ]
       refine tk 33 (some 97) (.bool false) rfl hH2 ?_
       try simp only[Act.put,List.setIfInBounds_toArray,List.set_cons_zero,List.set_cons_succ]
       refine tk 34 (some 98) (.bool false) rfl hH2 ?_
       try simp only[Act.put,List.setIfInBounds_toArray,List.set_cons_zero,List.set_cons_succ]
       refine tk 35 (some 99) (.pointer (some ⟨C,0,none⟩)) rfl hH2 ?_
       try simp only[Act.put,List.setIfInBounds_toArray,List.set_cons_zero,List.set_cons_succ]
       refine tk 36 (some 100) (.int .i64 i) rfl hH2 ?_
       try simp only[Act.put,List.setIfInBounds_toArray,List.set_cons_zero,List.set_cons_succ]
       refine tk 38 (some 102) (.pointer (some ⟨T,0,none⟩)) rfl hH2 ?_
       try simp only[Act.put,List.setIfInBounds_toArray,List.set_cons_zero,List.set_cons_succ]
       refine tk 39 (some 103) (.int .i64 i) rfl hH2 ?_
       try simp only[Act.put,List.setIfInBounds_toArray,List.set_cons_zero,List.set_cons_succ]
       refine wpAnyH_ready (rs:=[37]) (by kernel_rfl) (by simp) (AllReadyH.cons rfl (fun K hK=>?_) AllReadyH.nil)
       go_simp
       go_at_call 26
       refine(hF.surv _ hA2).mono ?_
       rintro e V3 ⟨rfl,hv3⟩
       have hA3:=hA2.trans (hv3.mono hA2.size)
       have hH3:V3.cell? ⟨B,0,none⟩=some (.int .i64 p0)/\V3.cell? ⟨B,1,none⟩=some (.int .i64 p1)/\V3.cell? ⟨B,2,none⟩=some (.int .i64 p2):=⟨cell_below hv3 hH2.1,cell_below hv3 hH2.2.1,cell_below hv3 hH2.2.2⟩
       try go_simp
       refine hK.out _ _ hH3 (fun _=>?_)
       clear hK K
       try simp only[Act.put,List.setIfInBounds_toArray,List.set_cons_zero,List.set_cons_succ]
       refine wpAnyH_ready (rs:=[40]) (by kernel_rfl) (by simp) (AllReadyH.cons rfl (fun K hK=>?_) AllReadyH.nil)
       go_simp
       go_at_call 27
       refine(hF.rsurv _ hA3).mono ?_
       rintro e V4 ⟨rfl,hv4⟩
       have hA4:=hA3.trans (hv4.mono hA3.size)
       have hH4:V4.cell? ⟨B,0,none⟩=some (.int .i64 p0)/\V4.cell? ⟨B,1,none⟩=some (.int .i64 p1)/\V4.cell? ⟨B,2,none⟩=some (.int .i64 p2):=⟨cell_below hv4 hH3.1,cell_below hv4 hH3.2.1,cell_below hv4 hH3.2.2⟩
       try go_simp
       refine hK.out _ _ hH4 (fun _=>?_)
       clear hK K
       try simp only[Act.put,List.setIfInBounds_toArray,List.set_cons_zero,List.set_cons_succ]
       refine tk 41 (some 105) (.bool false) rfl hH4 ?_
       try simp only[Act.put,List.setIfInBounds_toArray,List.set_cons_zero,List.set_cons_succ]
       refine tk 42 (some 106) (.bool false) rfl hH4 ?_
       try simp only[Act.put,List.setIfInBounds_toArray,List.set_cons_zero,List.set_cons_succ]
       refine wpAnyH_done (by kernel_rfl) ?_ _
       try simp only[Act.put,List.setIfInBounds_toArray,List.set_cons_zero,List.set_cons_succ]
       go_wp2_with fail
       go_meet
       exact⟨rfl,hA4⟩
      ·have hF:=hF.out
       clear hbx hcase
       refine wp_region_held_drew (S:=fun w'=>w'.cell? ⟨B,0,none⟩=some (.int .i64 0)/\w'.cell? ⟨B,1,none⟩=some (.int .i64 0)/\w'.cell? ⟨B,2,none⟩=some (.int .i64 0)) (by kernel_rfl) ⟨z0,z1,z2⟩ (fun hH=>?_)
       refine tk 0 (some 64) (.pointer (some ⟨C,0,none⟩)) rfl hH ?_
       try simp only[Act.put,List.setIfInBounds_toArray,List.set_cons_zero,List.set_cons_succ]
       refine tk 1 (some 65) (.int .i64 i) rfl hH ?_
       try simp only[Act.put,List.setIfInBounds_toArray,List.set_cons_zero,List.set_cons_succ]
       refine tk 3 (some 67) (.string ⟨#[]⟩) rfl hH ?_
       try simp only[Act.put,List.setIfInBounds_toArray,List.set_cons_zero,List.set_cons_succ]
       refine wpAnyH_ready (rs:=[2]) (by kernel_rfl) (by simp) (AllReadyH.cons rfl (fun K hK=>?_) AllReadyH.nil)
       go_simp
       go_at_call 24
       refine(hF.name _ hbd).mono ?_
       rintro e V1 ⟨rfl,hv1⟩
       have hA1:=hbd.trans (hv1.mono hbd.size)
       have hH1:V1.cell? ⟨B,0,none⟩=some (.int .i64 0)/\V1.cell? ⟨B,1,none⟩=some (.int .i64 0)/\V1.cell? ⟨B,2,none⟩=some (.int .i64 0):=⟨cell_below hv1 hH.1,cell_below hv1 hH.2.1,cell_below hv1 hH.2.2⟩
       try go_simp
       refine hK.out _ _ hH1 (fun _=>?_)
       clear hK K
       try simp only[Act.put,List.setIfInBounds_toArray,List.set_cons_zero,List.set_cons_succ]
       refine tk 4 (some 68) (.bool false) rfl hH1 ?_
       try simp only[Act.put,List.setIfInBounds_toArray,List.set_cons_zero,List.set_cons_succ]
       refine tk 5 (some 69) (.bool false) rfl hH1 ?_
       try simp only[Act.put,List.setIfInBounds_toArray,List.set_cons_zero,List.set_cons_succ]
       refine tk 6 (some 70) (.pointer (some ⟨C,0,none⟩)) rfl hH1 ?_
       try simp only[Act.put,List.setIfInBounds_toArray,List.set_cons_zero,List.set_cons_succ]
       refine tk 7 (some 71) (.int .i64 i) rfl hH1 ?_
       try simp only[Act.put,List.setIfInBounds_toArray,List.set_cons_zero,List.set_cons_succ]
       refine tk 9 (some 73) (.agg #[.int .i64 0,.int .i64 0,.int .i64 0]) rfl hH1 ?_ (fun W hS=>by(obtain⟨s0,s1,s2⟩:=hS;go_simp))
       try simp only[Act.put,List.setIfInBounds_toArray,List.set_cons_zero,List.set_cons_succ]
       refine wpAnyH_ready (rs:=[8]) (by kernel_rfl) (by simp) (AllReadyH.cons rfl (fun K hK=>?_) AllReadyH.nil)
       go_simp
       go_at_call 25
       refine(hF.place _ hA1).mono ?_
       rintro e V2 ⟨rfl,hv2⟩
       have hA2:=hA1.trans (hv2.mono hA1.size)
       have hH2:V2.cell? ⟨B,0,none⟩=some (.int .i64 0)/\V2.cell? ⟨B,1,none⟩=some (.int .i64 0)/\V2.cell? ⟨B,2,none⟩=some (.int .i64 0):=⟨cell_below hv2 hH1.1,cell_below hv2 hH1.2.1,cell_below hv2 hH1.2.2⟩
       try go_simp
       refine hK.out _ _ hH2 (fun _=>?_)
       clear hK K
       try simp only[Act.put,List.setIfInBounds_toArray,List.set_cons_zero,List.set_cons_succ]
       refine tk 10 (some 74) (.bool false) rfl hH2 ?_
       try simp only[Act.put,List.setIfInBounds_toArray,List.set_cons_zero,List.set_cons_succ]
       refine tk 11 (some 75) (.bool false) rfl hH2 ?_
       try simp only[Act.put,List.setIfInBounds_toArray,List.set_cons_zero,List.set_cons_succ]
       refine tk 12 (some 76) (.bool false) rfl hH2 ?_
       try simp only[Act.put,List.setIfInBounds_toArray,List.set_cons_zero,List.set_cons_succ]
       refine tk 13 (some 77) (.bool false) rfl hH2 ?_
       try simp only[Act.put,List.setIfInBounds_toArray,List.set_cons_zero,List.set_cons_succ]
       refine tk 14 (some 78) (.string ⟨#[]⟩) rfl hH2 ?_
       try simp only[Act.put,List.setIfInBounds_toArray,List.set_cons_zero,List.set_cons_succ]
       refine tk 15 (some 79) (.bool false) rfl hH2 ?_
       try simp only[Act.put,List.setIfInBounds_toArray,List.set_cons_zero,List.set_cons_succ]
       refine tk 16 (some 80) (.bool false) rfl hH2 ?_
       try simp only[Act.put,List.setIfInBounds_toArray,List.set_cons_zero,List.set_cons_succ]
       refine tk 17 (some 81) (.bool false) rfl hH2 ?_
       try simp only[Act.put,List.setIfInBounds_toArray,List.set_cons_zero,List.set_cons_succ]
       refine tk 18 (some 82) (.bool false) rfl hH2 ?_
       try simp only[Act.put,List.setIfInBounds_toArray,List.set_cons_zero,List.set_cons_succ]
       refine tk 19 (some 83) (.bool false) rfl hH2 ?_
       try simp only[Act.put,List.setIfInBounds_toArray,List.set_cons_zero,List.set_cons_succ]
       refine tk 20 (some 84) (.bool false) rfl hH2 ?_
       try simp only[Act.put,List.setIfInBounds_toArray,List.set_cons_zero,List.set_cons_succ]
       refine zB 19 (by kernel_rfl) (fun d _ _ _ h=>by cases d <;> exact h) hH2 [(21,some 85),(22,some 86),(23,some 87)] (by kernel_rfl) ?_
       try simp only[yO,Act.put,List.setIfInBounds_toArray,List.set_cons_succ,List.set_cons_zero]
       refine tk 24 (some 88) (.bool false) rfl hH2 ?_
       try simp only[Act.put,List.setIfInBounds_toArray,List.set_cons_zero,List.set_cons_succ]
       refine tk 25 (some 89) (.bool false) rfl hH2 ?_
       try simp only[Act.put,List.setIfInBounds_toArray,List.set_cons_zero,List.set_cons_succ]
       refine tk 26 (some 90) (.bool false) rfl hH2 ?_
       try simp only[Act.put,List.setIfInBounds_toArray,List.set_cons_zero,List.set_cons_succ]
       refine tk 27 (some 91) (.bool false) rfl hH2 ?_
       try simp only[Act.put,List.setIfInBounds_toArray,List.set_cons_zero,List.set_cons_succ]
       refine tk 28 (some 92) (.bool true) rfl hH2 ?_
       try simp only[Act.put,List.setIfInBounds_toArray,List.set_cons_zero,List.set_cons_succ]
       refine tk 29 (some 93) (.bool true) rfl hH2 ?_
       try simp only[Act.put,List.setIfInBounds_toArray,List.set_cons_zero,List.set_cons_succ]
       refine tk 30 (some 94) (.int .i64 0) rfl hH2 ?_
       try simp only[Act.put,List.setIfInBounds_toArray,List.set_cons_zero,List.set_cons_succ]
       refine tk 31 (some 95) (.bool false) rfl hH2 ?_
       try simp only[Act.put,List.setIfInBounds_toArray,List.set_cons_zero,List.set_cons_succ]
       refine tk 32 (some 96) (.bool false) rfl hH2 ?_
       try simp only[Act.put,List.setIfInBounds_toArray,List.set_cons_zero,List.set_cons_succ]
       refine tk 33 (some 97) (.bool false) rfl hH2 ?_
       try simp only[Act.put,List.setIfInBounds_toArray,List.set_cons_zero,List.set_cons_succ]
       refine tk 34 (some 98) (.bool false) rfl hH2 ?_
       try simp only[Act.put,List.setIfInBounds_toArray,List.set_cons_zero,List.set_cons_succ]
       refine tk 35 (some 99) (.pointer (some ⟨C,0,none⟩)) rfl hH2 ?_
       try simp only[Act.put,List.setIfInBounds_toArray,List.set_cons_zero,List.set_cons_succ]
       refine tk 36 (some 100) (.int .i64 i) rfl hH2 ?_
       try simp only[Act.put,List.setIfInBounds_toArray,List.set_cons_zero,List.set_cons_succ]
       refine tk 38 (some 102) (.pointer (some ⟨T,0,none⟩)) rfl hH2 ?_
       try simp only[Act.put,List.setIfInBounds_toArray,List.set_cons_zero,List.set_cons_succ]
       refine tk 39 (some 103) (.int .i64 i) rfl hH2 ?_
       try simp only[Act.put,List.setIfInBounds_toArray,List.set_cons_zero,List.set_cons_succ]
       refine wpAnyH_ready (rs:=[37]) (by kernel_rfl) (by simp) (AllReadyH.cons rfl (fun K hK=>?_) AllReadyH.nil)
       go_simp
       go_at_call 26
       refine(hF.surv _ hA2).mono ?_
       rintro e V3 ⟨rfl,hv3⟩
       have hA3:=hA2.trans (hv3.mono hA2.size)
       have hH3:V3.cell? ⟨B,0,none⟩=some (.int .i64 0)/\V3.cell? ⟨B,1,none⟩=some (.int .i64 0)/\V3.cell? ⟨B,2,none⟩=some (.int .i64 0):=⟨cell_below hv3 hH2.1,cell_below hv3 hH2.2.1,cell_below hv3 hH2.2.2⟩
       try go_simp
       refine hK.out _ _ hH3 (fun _=>?_)
       clear hK K
       try simp only[Act.put,List.setIfInBounds_toArray,List.set_cons_zero,List.set_cons_succ]
       refine wpAnyH_ready (rs:=[40]) (by kernel_rfl) (by simp) (AllReadyH.cons rfl (fun K hK=>?_) AllReadyH.nil)
       go_simp
       go_at_call 27
       refine(hF.rsurv _ hA3).mono ?_
       rintro e V4 ⟨rfl,hv4⟩
       have hA4:=hA3.trans (hv4.mono hA3.size)
       have hH4:V4.cell? ⟨B,0,none⟩=some (.int .i64 0)/\V4.cell? ⟨B,1,none⟩=some (.int .i64 0)/\V4.cell? ⟨B,2,none⟩=some (.int .i64 0):=⟨cell_below hv4 hH3.1,cell_below hv4 hH3.2.1,cell_below hv4 hH3.2.2⟩
       try go_simp
       refine hK.out _ _ hH4 (fun _=>?_)
       clear hK K
       try simp only[Act.put,List.setIfInBounds_toArray,List.set_cons_zero,List.set_cons_succ]
       refine tk 41 (some 105) (.bool false) rfl hH4 ?_
       try simp only[Act.put,List.setIfInBounds_toArray,List.set_cons_zero,List.set_cons_succ]
       refine tk 42 (some 106) (.bool false) rfl hH4 ?_
       try simp only[Act.put,List.setIfInBounds_toArray,List.set_cons_zero,List.set_cons_succ]
       refine wpAnyH_done (by kernel_rfl) ?_ _
       try simp only[Act.put,List.setIfInBounds_toArray,List.set_cons_zero,List.set_cons_succ]
       go_wp2_with fail
       go_meet
       exact⟨rfl,hA4⟩
     case rest=>
      obtain⟨rfl,hbc⟩:=hcut
      clear hbx hbV hF hcase hb
      generalize wc=w1 at *
      go_wp2_with fail
      go_loopw [11,12,13] (fun v jv _ wr=>∃ (j:Nat) (s:SlV),j<=n/\jv = .int .i64 j/\v = .slice s.a s.n s.c/\Hid (wr.ownsRow w.heap.size 3 1 s.v (lapF ps i j).length ((lapF ps i j).map (Value.int .i64)))/\Below w.heap.size w wr) (fun _ jv _ _=>n-(intOf jv).toNat)
      case atStart=>exact⟨0,⟨none,0,0⟩,Nat.zero_le _,rfl,rfl,Lib.hid (World.ownsRow_nil _ _ _ _),hbc⟩
      case round=>
       obtain⟨j,⟨va,vn,vc⟩,hj,rfl,rfl,hrow,hB⟩:=hrel
       dsimp only at hrow ⊢
       have k0:(0:Int)<=j:=Int.natCast_nonneg _
       have hBs:=hB.size
       have hlen:=qgJ ps i j
       by_cases hlt:j<n
       ·have K:=hLap.out wr i j hB
        have hjw:IntKind.i64.wrap ((j:Int)+1)=j+1:=IntWalk.i64_in _ (by omega)
        obtain⟨i0,hi0,hz0,hz1,hz2⟩:=info_parts Tryz.infoInt
        cases hz:lapA ps i j with
        |true=>
         have hs2:=Lib.hid (qfO hz)
         rw[hz] at K
         clear hz
         generalize lapF ps i j=L at hrow hs2 hlen
         go_wp2_with (first
          |(go_at_call 10;refine K.mono ?_;clear K;rintro e W1 ⟨rfl,hb1⟩;have hrow1:=qb hrow.out hb1;have hBW:=hB.trans (hb1.mono hB.size);have hBs1:=hBW.size)
          |(at_builtin;refine wpList_append_own_at _ rfl _ _ 45 rfl w.heap.size 3 i0 _ 1 8 Tryz.underlying45 hi0 hz0 hz1 hz2 rfl (by decide) _ L.length (L.map (Value.int .i64)) rfl (hrow1.alloc _) ⟨W1.heap.size,0,none⟩ 1 1 [.int .i64 j] rfl rfl (qz _ _ _ _ rfl) (by simp[Value.oneCell']) (by unfold maxLen;omega) (by omega) (by simp;omega) ?_;intro v' W7 hown7 hgrow _ hblk;obtain⟨g',cap',rfl⟩:=ownsRow_succ hown7))
         have hB7:Below w.heap.size w W7:=(hBW.alloc hBs1 _).grown hgrow (by simp;omega) (fun g hg=>(qd hrow1 hg).1)
         replace hown7:Hid (W7.ownsRow w.heap.size 3 1 (SlV.v ⟨some ⟨g',0,none⟩,L.length+1,cap'⟩) (lapF ps i (j+1)).length ((lapF ps i (j+1)).map (Value.int .i64))):=Lib.hid (by
          rw[hs2.out,List.length_append,List.map_append];exact hown7)
         exact⟨⟨j+1,⟨some ⟨g',0,none⟩,L.length+1,cap'⟩,by omega,by go_num,rfl,hown7,hB7⟩,by simp[intOf];omega⟩
        |false=>
         have hs2:=Lib.hid (qgI hz)
         rw[hz] at K
         clear hz
         generalize lapF ps i j=L at hrow hs2 hlen
         go_wp2_with (go_at_call 10;refine K.mono ?_;clear K;rintro e W1 ⟨rfl,hb1⟩;have hrow1:=qb hrow.out hb1;have hBW:=hB.trans (hb1.mono hB.size))
         exact⟨⟨j+1,⟨va,vn,vc⟩,by omega,by go_num,rfl,Lib.hid (by rw[hs2.out];exact hrow1),hBW⟩,by simp[intOf];omega⟩
       ·obtain rfl:j=n:=by omega
        have K:=hLaps.out wr i hB
        have hin:IntsAt wr ⟨va,vn,vc⟩ (lapF ps i j):=IntsAt.of_row hrow.out rfl
        generalize lapF ps i j=L at *
        replace hin:=Lib.hid hin
        clear hrow
        go_wp2_with (first
         |(go_at_call 17;refine K.mono ?_;clear K;rintro e W4 ⟨hb4,la,ln,lc,rfl,hr4,hi4⟩;have hB4:=hB.trans (hb4.mono hB.size);replace hr4:=Lib.hid hr4;replace hi4:=Lib.hid hi4)
         |(go_at_call 16;refine(Jh ⟨la,ln,lc⟩ ⟨va,vn,vc⟩ L W4 hi4.out (hin.out.below hb4) (by omega)).mono ?_;rintro e W5 ⟨rfl,hb5⟩;have hB5:=hB4.trans (hb5.mono hB4.size)))
        have hln:ln=L.length:=hi4.out.1
        subst hln
        have hr5:=qb (qj hr4.out hB.size) hb5
        have hmw:Hid (jP w.heap.size W5 la L.length):=Lib.hid (jP.of (l:=L.map (Value.int .i64)) (by rw[List.length_map];exact hr5))
        clear hin hr4 hi4 hb4 hb5 hB4 hr5 hB
        generalize W5=w5 at *
        go_loopw [15] (fun q wr=>∃m:Nat,m<=L.length/\q = .int .i64 m/\Below w.heap.size w wr/\Hid (jP w.heap.size wr la L.length)) (fun q _=>L.length-(intOf q).toNat)
        case atStart=>exact⟨0,Nat.zero_le _,rfl,hB5,hmw⟩
        case round=>
         clear hmw hB5
         obtain⟨m,hm,rfl,hB,hmw⟩:=hrel
         by_cases hlt:m<L.length
         ·have hmi:IntKind.i64.wrap ((m:Int)+1)=m+1:=IntWalk.i64_in _ (by omega)
          have m0:(0:Int)<=m:=Int.natCast_nonneg _
          have m1:(m:Int)<L.length:=by omega
          rcases hmw.out with h0|⟨g,cs,rfl,hg,hC,hsz⟩
          ·omega
          have hcm:cs[m]?=some cs[m]:=Array.getElem?_eq_getElem (by omega)
          have c1:=hC.cell hcm
          have f1:=hC.frozen m
          have hfin:Hid (Below w.heap.size w (wr.setCell ⟨g,m,none⟩ (.int .i64 (-1)))/\jP w.heap.size (wr.setCell ⟨g,m,none⟩ (.int .i64 (-1))) (some ⟨g,0,none⟩) L.length):=
           Lib.hid ⟨hB.setCell (p:=⟨g,m,none⟩) hg _,.inr ⟨g,_,rfl,hg,hC.set (j:=m) (.int .i64 (-1)),by simpa using hsz⟩⟩
          generalize cs[m]=cv at c1 hcm
          clear hcm hmw hC
          go_wp2_with fail
          exact⟨⟨m+1,by omega,by go_num,hfin.out.1,Lib.hid hfin.out.2⟩,by simp[intOf];omega⟩
         ·clear hmw
          obtain rfl:m=L.length:=by omega
          go_wp2_with fail
          have hi2:=hi.out
          exact⟨⟨k+1,by omega,by simp,hB⟩,by simp[intOf];omega⟩
  ·obtain rfl:k=n+2:=by omega
   have hgt:¬ (((n+2:Nat):Int)-1<=(n:Int)):=by omega
   clear hIn hOut hLap hLaps
   go_wp2_with fail
   go_ret
   exact⟨rfl,hb⟩
end Go.Proofs.YtamhpmbjccjchaaGreatDoor
