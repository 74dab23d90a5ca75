
import Derived.Test.YtomlgdnafeeeiaaGreatDoorTcYP
import Derived.Test.YtomlgdnafeeeiaaGreatDoorGeoH
import Derived.Deep.RegionWith
import Derived.Deep.Cut
set_option maxRecDepth 100000
/-
 law7's example as a machine.
-/
namespace Go.Proofs.YtomlgdnafeeeiaaGreatDoor
open Go.RowKit
def L8(X:Nat):qg:=.cons (Xe 0) 8 0 (.slice none 0 0) .nil (.cons (Xe 1) 8 0 (.slice none 0 0) .nil (.cons (Xe 2) 8 0 (.slice none 0 0) .nil (qlW X)))
theorem qlV(X:Nat):yu (smD 3 0) (L8 X)=0:=by kernel_rfl
theorem qlX(X:Nat):Xh (fun n:Nat=>QJ (qQ (L8 X)) 5 n) = [3,4,5,6,7]:=by
 have:qQ (L8 X)=qQ (L8 0):=by kernel_rfl
 rw[this]
 decide +kernel
theorem qlY(X:Nat):Xh (fun n:Nat=>QJ (qQ (L8 X)) 6 n) = [3,4,5,6]:=by
 have:qQ (L8 X)=qQ (L8 0):=by kernel_rfl
 rw[this]
 decide +kernel
theorem qlZ(X:Nat):(qQ (L8 X)).length=8:=by kernel_rfl
def mv8(N g cap:Nat):MV:=⟨⟨#[109]⟩,⟨some ⟨g,0,none⟩,4,cap⟩,⟨some ⟨N,0,none⟩,1,1⟩,⟨some ⟨N+1+1+1+1+1,0,none⟩,3,3⟩,⟨some ⟨N+1+1+1+1+1+1,0,none⟩,1,1⟩,⟨#[114,48,48]⟩,⟨none,0,0⟩,100⟩
theorem qlC{W:World}{base g cap X:Nat}(hr:W.ownsRow base 40 4 (.slice (some ⟨g,0,none⟩) 4 cap) 4 (yJ 3++[.string ⟨#[114,97,120]⟩,.int .i64 64,.int .i64 0,.slice (some ⟨X+1+1,0,none⟩) 1 1]))(hX:Yf X W) :
 qB W.heap.size W g 0 (L8 X):=by
 have hg:g<W.heap.size:=by
  obtain⟨_,cur,hc⟩:=qf hr rfl
  exact hc.lt
 exact⟨hg,⟨qu hr rfl,qu hr rfl,qu hr rfl,qu hr rfl⟩,
  ⟨hg,⟨qu hr rfl,qu hr rfl,qu hr rfl,qu hr rfl⟩,
   ⟨hg,⟨qu hr rfl,qu hr rfl,qu hr rfl,qu hr rfl⟩,
    ⟨hg,⟨qu hr rfl,qu hr rfl,qu hr rfl,qu hr rfl⟩,trivial,hX.subs⟩,
    .inl ⟨⟨none,rfl⟩,rfl⟩⟩,
   .inl ⟨⟨none,rfl⟩,rfl⟩⟩,
  .inl ⟨⟨none,rfl⟩,rfl⟩⟩
theorem qkP{w W1 W:World}{N g cap X:Nat}{v u:SlV}(hS:JQ w 3 N v u W1)(hs:qt [40,27] W1 W)(hE:Env W)(hA:Zi W)(hR:qB W.heap.size W g 0 (L8 X)) :
 zP W (mv8 N g cap) (smD 3 0) (L8 X):=by
 have hk:=hs.block _ _ _ (by decide) hS.c
 have h0:=hs.block _ _ _ (by decide) hS.u0
 have h1:=hs.block _ _ _ (by decide) hS.u1
 have h2:=hs.block _ _ _ (by decide) hS.u2
 have ho:=hs.block _ _ _ (by decide) hS.o
 have ha:=hs.block _ _ _ (by decide) hS.a
 have hn:qG W u (jB 3):=by
  have h2:W.ownsRow w.heap.size 9 1 u.v 3 ((jB 3).map Value.string):=hs.row hS.names (by decide)
  exact qG.of_row h2 (by rw[qbx])
 exact {
  env:=hE
  envA:=hA
  same:=rfl
  result:=rfl
  slots:=rfl
  regs:=.inr ⟨g,0,cap,rfl,hR,by show(4:Nat)<=_;omega⟩
  classes:=⟨rfl,vL _,fun j x hj=>⟨N,0,rfl,u,by
   match j,hj with
   | 0,hj=>cases hj;exact⟨hk.cell (j:=0) rfl,hk.cell (j:=1) rfl,hn⟩
   | j+1,hj=>simp[smD] at hj⟩⟩
  ops:=⟨rfl,vL _,fun j x hj=>⟨N+1+1+1+1+1,0,rfl,by
   match j,hj with
   | 0,hj=>cases hj;exact⟨⟨some ⟨N+1+1,0,none⟩,2,2⟩,⟨none,0,0⟩,ho.cell (j:=0) rfl,ho.cell (j:=1) rfl,ho.cell (j:=2) rfl,ho.cell (j:=3) rfl,ho.cell (j:=4) rfl,ho.cell (j:=5) rfl,qdV h0,qae W⟩
   | 1,hj=>cases hj;exact⟨⟨some ⟨N+1+1+1,0,none⟩,1,1⟩,⟨none,0,0⟩,ho.cell (j:=6) rfl,ho.cell (j:=7) rfl,ho.cell (j:=8) rfl,ho.cell (j:=9) rfl,ho.cell (j:=10) rfl,ho.cell (j:=11) rfl,qiU h1,qae W⟩
   | 2,hj=>cases hj;exact⟨⟨some ⟨N+1+1+1+1,0,none⟩,2,2⟩,⟨none,0,0⟩,ho.cell (j:=12) rfl,ho.cell (j:=13) rfl,ho.cell (j:=14) rfl,ho.cell (j:=15) rfl,ho.cell (j:=16) rfl,ho.cell (j:=17) rfl,qdV h2,qae W⟩
   | j+3,hj=>simp[smD] at hj⟩⟩
  oub:=fun o ho=>by
   have:o=qiS 0∨o=qiT∨o=qkb:=by simpa[smD] using ho
   rcases this with rfl|rfl|rfl
   ·show 2<=100000;omega
   ·show 1<=100000;omega
   ·show 2<=100000;omega
  args:=⟨rfl,vL _,fun j x hj=>⟨N+1+1+1+1+1+1,0,rfl,by
   match j,hj with
   | 0,hj=>cases hj;exact ha.cell (j:=0) rfl
   | j+1,hj=>simp[smD] at hj⟩⟩
  saved:=qae W }
theorem qlR:XC (smD 3 0) where
 name:=by show(1:Nat)<=_;decide
 result:=by unfold zy;show nmR.size<=_;decide +kernel
 classes:=fun k hk=>by
  obtain rfl:k=clG 3:=by simpa[smD] using hk
  refine⟨by unfold zy;show nmG.size<=_;decide +kernel,fun s hs=>?_⟩
  have:∀s,s∈jB 3->s.size<=281474976710656:=by decide +kernel
  exact this s hs
 ops:=fun o ho=>by
  have:o=qiS 0∨o=qiT∨o=qkb:=by simpa[smD] using ho
  have hf:Qq opG:=⟨by unfold zy;decide +kernel,by unfold zy;decide +kernel⟩
  have h1:∀u,u ∈ [opG,opG]->Qq u:=fun u hu=>by
   have:u=opG:=by simpa using hu
   rw[this];exact hf
  have h2:∀u,u ∈ [opG]->Qq u:=fun u hu=>by
   have:u=opG:=by simpa using hu
   rw[this];exact hf
  have h3:∀s:ByteArray,s∈([]:List ByteArray)->zy s:=fun s hs=>by cases hs
  rcases this with rfl|rfl|rfl
  ·exact⟨by unfold zy;decide +kernel,hf,h1,h3⟩
  ·exact⟨by unfold zy;decide +kernel,hf,h2,h3⟩
  ·exact⟨by unfold zy;decide +kernel,hf,h1,h3⟩
 args:=fun s hs=>by
  obtain rfl:s=nmR:=by simpa[smD] using hs
  unfold zy;decide +kernel
 saved:=fun s hs=>by simp[smD] at hs
end Go.Proofs.YtomlgdnafeeeiaaGreatDoor
set_option maxHeartbeats 6400000
set_option maxRecDepth 100000
namespace Go.Proofs.YtomlgdnafeeeiaaGreatDoor
open Proofs.Tryz
open Go.RowKit
theorem qbe(s t:SlV)(l:List Int)(w:World)(hs:qJ w s l)(ht:qJ w t l)(hl:l.length<=100000) :
 Calls prog 16 #[.slice s.a s.n s.c,.slice t.a t.n t.c] w fun e w'=>e = .returned (.bool true)/\BX w w':=by
 obtain⟨sa,sn,sc⟩:=s
 obtain⟨ta,tn,tc⟩:=t
 have e1:=hs.1
 have e2:=ht.1
 dsimp only at e1 e2
 subst e1
 subst e2
 replace hs:=vH hs
 replace ht:=vH ht
 go_enter func16,ntmps16
 go_wp2_with fail
 go_loopw [5] (fun i wr=>∃k:Nat,k<=l.length/\i = .int .i64 k/\BX w wr) (fun i _=>l.length-(intOf i).toNat)
 case atStart=>exact⟨0,vO _,rfl,kB _ _⟩
 case round=>
  obtain⟨k,hk,rfl,hb⟩:=hrel
  by_cases hlt:k<l.length
  ·obtain⟨x,hxk⟩:∃x,l[k]?=some x:=⟨l[k],vE hlt⟩
   obtain⟨b1,o1,h1,c1⟩:=(hs.out.below hb).2.2 k x hxk
   obtain⟨b2,o2,h2,c2⟩:=(ht.out.below hb).2.2 k x hxk
   dsimp only at h1 h2
   subst h1
   subst h2
   have k1:(k:Int)<l.length:=by omega
   have hi:IntKind.i64.wrap ((k:Int)+1)=k+1:=vI _ (by omega)
   clear hxk
   go_wp2_with fail
   go_region
   all_goals go_wp2_with fail
   all_goals exact⟨⟨k+1,by omega,by go_num,hb.drew⟩,by simp[intOf];omega⟩
  ·obtain rfl:k=l.length:=by omega
   go_wp2_with fail
   go_ret
   exact⟨rfl,hb⟩
section
attribute [-go_sem] Builtin.append_
theorem qgH(W:World)(l:List Int):qJ (W.alloc (.cells (l.map (Value.int .i64)).toArray 3)) ⟨some ⟨W.heap.size,0,none⟩,l.length,l.length⟩ l:=
 ⟨rfl,vL _,fun j x hj=>⟨W.heap.size,0,rfl,by
  rw[Nat.zero_add]
  exact zr W _ _ (by simp[hj])⟩⟩
def qlf(w:World)(B N:Nat)(W:World):Prop:=∃g cap X:Nat,4<=cap/\BX w W/\qd W B 27 #[.string ⟨#[109]⟩,.slice (some ⟨g,0,none⟩) 4 cap,.slice (some ⟨N,0,none⟩) 1 1,.slice (some ⟨N+1+1+1+1+1,0,none⟩) 3 3,.slice (some ⟨N+1+1+1+1+1+1,0,none⟩) 1 1,.string ⟨#[114,48,48]⟩,.slice none 0 0,.int .i64 100] /\
 zP W (mv8 N g cap) (smD 3 0) (L8 X)
theorem Yf.kept{W3 W6:World}{X B g:Nat}{va:Option Addr}{vn vc n:Nat}(hX:Yf X W3)(hgrow:W3.grownBy W6 (Value.slice va vn vc).ownBlock)(hlt:∀b,(Value.slice va vn vc).ownBlock=some b->b<X)(hB:B<X)(x:Value)(_:g=n):Yf X (W6.setCell ⟨B,1,none⟩ x):=
 have h:∀k,X<=k->some k≠(Value.slice va vn vc).ownBlock:=fun k hk e=>by have:=hlt k e.symm;omega
 ⟨(hX.c0.kept hgrow (h _ (by omega))).other (by omega) _,(hX.c1.kept hgrow (h _ (by omega))).other (by omega) _,(hX.c2.kept hgrow (h _ (by omega))).other (by omega) _,(hX.c3.kept hgrow (h _ (by omega))).other (by omega) _⟩
theorem qjM{w W1 WB W3 W6:World}{B N g cap X:Nat}{va:Option Addr}{vn vc:Nat}{u:SlV}(hE:Env w)(hA:Zi w)(hS:JQ w 3 N ⟨va,vn,vc⟩ u W1)(hstB:qt [40,27] W1 WB)(hbB:BX w WB)(hwB:w.heap.size<=B)(hBlt:B<WB.heap.size)
 (hrB:WB.ownsRow w.heap.size 40 4 (.slice va vn vc) 3 (yJ 3)) (hb3:BX WB W3) (hX0:WB.heap.size<=X) (hX:Yf X W3)
 (hown6:W6.ownsRow w.heap.size 40 4 (.slice (some ⟨g,0,none⟩) 4 cap) 4 (yJ 3++[.string ⟨#[114,97,120]⟩,.int .i64 64,.int .i64 0,.slice (some ⟨X+1+1,0,none⟩) 1 1])) (hgrow6:W3.grownBy W6 (Value.slice va vn vc).ownBlock)
 (hT6:qd W6 B 27 #[.string ⟨#[109]⟩,.slice va vn vc,.slice (some ⟨N,0,none⟩) 1 1,.slice (some ⟨N+1+1+1+1+1,0,none⟩) 3 3,.slice (some ⟨N+1+1+1+1+1+1,0,none⟩) 1 1,.string ⟨#[114,48,48]⟩,.slice none 0 0,.int .i64 100]) :
 qlf w B N (W6.setCell ⟨B,1,none⟩ (.slice (some ⟨g,0,none⟩) 4 cap)):=by
 have hr3:=qe hrB hb3
 have hB7:BX w (W6.setCell ⟨B,1,none⟩ (.slice (some ⟨g,0,none⟩) 4 cap)):=((hbB.trans (hb3.mono hbB.size)).grown hgrow6 (hbB.trans (hb3.mono hbB.size)).size (fun i e=>(qf hr3 e).1)).setCell (p:=⟨B,1,none⟩) hwB _
 have hs6:qt [27] W6 (W6.setCell ⟨B,1,none⟩ (.slice (some ⟨g,0,none⟩) 4 cap)):=qt.of_set hT6 (by simp) 1 _
 have hs7:qt [40,27] W1 (W6.setCell ⟨B,1,none⟩ (.slice (some ⟨g,0,none⟩) 4 cap)):=((hstB.trans (qt.of_below hb3)).trans (qt.of_grown hr3 (by simp) hgrow6)).trans (hs6.mono (by simp))
 have hX7:=hX.kept (g:=0) (n:=0) (B:=B) hgrow6 (fun b e=>by
  obtain⟨_,cur,hc⟩:=qf hrB e
  have:=hc.lt
  omega) (by omega) (.slice (some ⟨g,0,none⟩) 4 cap) rfl
 refine⟨g,cap,X,(jk (s:=⟨some ⟨g,0,none⟩,4,cap⟩) hown6).2,hB7,hT6.set (.slice (some ⟨g,0,none⟩) 4 cap) (j:=1),?_⟩
 exact qkP hS hs7 (hE.below hB7) (hA.below hB7) (qlC (hs6.row hown6 (by decide)) hX7)
theorem qlD(w:World)(hE:Env w)(hA:Zi w)(hT:Go.Proofs.TabAt 0 Lib.deBruijn64tab w) :
 Calls prog 4 #[] w fun e w'=>e = .returned (.bool true)/\BX w w':=by
 have K1:Calls prog 13 #[.int .i64 3] w fun e W=>∃ (N:Nat) (v u:SlV),e = .returned (.agg #[.string ⟨#[109]⟩,.slice v.a v.n v.c,.slice (some ⟨N,0,none⟩) 1 1,.slice (some ⟨N+1+1+1+1+1,0,none⟩) 3 3,.slice (some ⟨N+1+1+1+1+1+1,0,none⟩) 1 1,.string ⟨#[114,48,48]⟩,.slice none 0 0,.int .i64 100])/\JQ w 3 N v u W:=qhr 3 w (by omega)
 obtain⟨i0,hi0,hz0,hz1,hz2⟩:=info_parts qdR
 go_enter func4,ntmps4
 go_upto_region 2 with(go_at_call 13;refine K1.mono ?_;clear K1;rintro e W1 ⟨N,v,u,rfl,hS⟩)
 obtain⟨va,vn,vc⟩:=v
 dsimp only
 generalize hWB:W1.alloc (.cells #[.string ⟨#[109]⟩,.slice va vn vc,.slice (some ⟨N,0,none⟩) 1 1,.slice (some ⟨N+1+1+1+1+1,0,none⟩) 3 3,.slice (some ⟨N+1+1+1+1+1+1,0,none⟩) 1 1,.string ⟨#[114,48,48]⟩,.slice none 0 0,.int .i64 100] 27)=WB
 have hbx:qd WB W1.heap.size 27 #[.string ⟨#[109]⟩,.slice va vn vc,.slice (some ⟨N,0,none⟩) 1 1,.slice (some ⟨N+1+1+1+1+1,0,none⟩) 3 3,.slice (some ⟨N+1+1+1+1+1+1,0,none⟩) 1 1,.string ⟨#[114,48,48]⟩,.slice none 0 0,.int .i64 100]:=by rw[←hWB];exact qd.new _ _ _
 have hw1:=hS.below.size
 have hbB:BX w WB:=by rw[←hWB];exact hS.below.alloc hw1 _
 have hstB:qt [40,27] W1 WB:=by rw[←hWB];exact qt.alloc _ _ _
 have hrB:WB.ownsRow w.heap.size 40 4 (.slice va vn vc) 3 (yJ 3):=by rw[←hWB];exact hS.regs.alloc _
 generalize hBB:W1.heap.size=B at *
 go_cut [] from 4 (fun Wx=>qlf w B N Wx)
 case first=>
  have hwB:=hbB.size
  have hbd:=qd.drewT hbx
  have hrd:=hrB.drew
  have KR:Calls prog 14 #[] WB.drew fun e w'=>∃X:Nat,WB.heap.size<=X/\e = .returned (.slice (some ⟨X+3,0,none⟩) 1 1)/\BX WB w'/\Yf X w':=(qhZ WB.drew).mono fun e w' ⟨h1,h2,h3⟩=>⟨WB.heap.size,vL _,h1,⟨h2.os,h2.tape,h2.output,h2.size,h2.block⟩,h3⟩
  have c1:=hbd.cell (j:=1) (v:=.slice va vn vc) rfl
  have hBlt:=hbx.lt
  go_wp2_with fail
  go_region_with (go_at_call 14
                  refine KR.mono ?_
                  rintro e W3 ⟨X,hX0,rfl,hb3,hX⟩
                  have hb33:=hbx.below hb3 hbx.lt
                  have d1:=hb33.cell (j:=1) (v:=.slice va vn vc) rfl
                  have hr3:=qe hrB hb3
                  obtain⟨g,cap,W6,hrun,hown6,hgrow6,hat6,hlt6⟩:=run_append_lies (P:=prog) _ 22 22 w.heap.size 40 i0 _ 4 56 underlying22 hi0 hz0 hz1 hz2 rfl (by omega) _ _ _ hr3 ⟨X+3,0,none⟩ 1 1 [.string ⟨#[114,97,120]⟩,.int .i64 64,.int .i64 0,.slice (some ⟨X+1+1,0,none⟩) 1 1] rfl (World.news_of_block (cs:=#[.string ⟨#[114,97,120]⟩,.int .i64 64,.int .i64 0,.slice (some ⟨X+1+1,0,none⟩) 1 1]) (t:=40) (fr:=(0,0)) hX.c3) (by simp[Value.oneCell']) (by omega) (by unfold maxLen;omega) (by omega) (by have:=hb3.size;omega) W3.heap.size rfl
                  have hT6:=hb33.kept hgrow6 (hb33.not_row (by decide) hr3)
                  have f6:=hT6.frozen 1
                  have c6:=hT6.cell (j:=1) (v:=.slice va vn vc) rfl)
  all_goals
   go_wp2_with fail
   go_meet
   exact qjM hE hA hS hstB hbB hw1 hBlt hrB hb3 hX0 hX hown6 hgrow6 hT6
 case rest=>
  obtain⟨g,cap,X,hcap,hbw,hbx8,hM⟩:=hcut
  clear hbx hrB hS hWB hbB hstB
  have x0:=hbx8.cell (j:=0) (v:=.string ⟨#[109]⟩) rfl
  have x1:=hbx8.cell (j:=1) (v:=.slice (some ⟨g,0,none⟩) 4 cap) rfl
  have x2:=hbx8.cell (j:=2) (v:=.slice (some ⟨N,0,none⟩) 1 1) rfl
  have x3:=hbx8.cell (j:=3) (v:=.slice (some ⟨N+1+1+1+1+1,0,none⟩) 3 3) rfl
  have x4:=hbx8.cell (j:=4) (v:=.slice (some ⟨N+1+1+1+1+1+1,0,none⟩) 1 1) rfl
  have x5:=hbx8.cell (j:=5) (v:=.string ⟨#[114,48,48]⟩) rfl
  have x6:=hbx8.cell (j:=6) (v:=.slice none 0 0) rfl
  have x7:=hbx8.cell (j:=7) (v:=.int .i64 100) rfl
  have KT:=qeD (mv8 N g cap) (smD 3 0) (L8 X) wc hM qlR (fun _=>hcap)
  change Calls _ _ #[.agg #[.string ⟨#[109]⟩,.slice (some ⟨g,0,none⟩) 4 cap,.slice (some ⟨N,0,none⟩) 1 1,.slice (some ⟨N+1+1+1+1+1,0,none⟩) 3 3,.slice (some ⟨N+1+1+1+1+1+1,0,none⟩) 1 1,.string ⟨#[114,48,48]⟩,.slice none 0 0,.int .i64 100]] wc _ at KT
  go_upto_region 4 with(go_at_call 8;refine KT.mono ?_;clear KT;rintro e W4 ⟨hb4,(⟨hne,_⟩|⟨_,C,M,tb,rl,cl,ol,rfl,hC,hTab⟩)⟩;· exact absurd (qlV X) hne)
  have hB4:BX w W4:=hbw.trans (hb4.mono hbw.size)
  have hreg:=xH.of_row hTab.regs.row
  have hn8:tb.rS.n=8:=by rw[hreg.1,←qlZ X,←hTab.regs.places,vP]
  have h8:=hTab.tab.cell (j:=8) (v:=.slice tb.rS.a tb.rS.n tb.rS.c) rfl
  have KG:=qeG C tb.rS W4 h8
  rw[hn8] at KG
  have KL:∀ (a:Int) (l:List Int) (W:World),BX W4 W->Xh (fun n:Nat=>QJ (qQ (L8 X)) a n)=l->Calls prog 17 #[.pointer (some ⟨C,0,none⟩),.int .i64 a] W (qgF W l):=fun a l W hb hl=>by
   have hTb:=hTab.below hb
   have:=qgG C tb.rS (.map tb.rM) rl _ a W (hTb.tab.cell (j:=8) rfl) (hTb.tab.cell (j:=9) rfl) (xH.of_row hTb.regs.row) (hTb.lapSet a) (fun j hj=>qb (hB4.trans (hb.mono hB4.size)) (hT j hj))
   rw[hl] at this
   exact this
  have KL5:=KL 5 [3,4,5,6,7] W4 (kB _ _) (qlX X)
  have KL6:=vH fun W hb=>KL 6 [3,4,5,6] W hb (qlY X)
  clear hTab hreg hn8 h8 KL hM hbx8 x0 x1 x2 x3 x4 x5 x6 x7 hT
  go_wp2_with (first
   |(go_at_call 9;refine(qlQ _ _).mono ?_;rintro e W5 ⟨rfl,rfl⟩)
   |(go_at_call 15;refine KG.mono ?_;clear KG;rintro e W5 ⟨rfl,rfl⟩)
   |(go_at_call 17;refine(KL6.out _ hb7).mono ?_;rintro e W8 ⟨hb8,⟨va6,vn6,vc6⟩,rfl,_,hi6⟩;replace hi6:=vH hi6)
   |(go_at_call 17;refine KL5.mono ?_;clear KL5;rintro e W6 ⟨hb6,⟨va5,vn5,vc5⟩,rfl,_,hi5⟩;replace hi5:=vH hi5)
   |(go_at_call 16;refine(qbe ⟨va6,vn6,vc6⟩ ⟨some ⟨W8.heap.size,0,none⟩,4,4⟩ [3,4,5,6] _ (hi6.out.below (qi)) (qgH W8 [3,4,5,6]) (by decide)).mono ?_;rintro e W9 ⟨rfl,hb9'⟩;have hb9:=(hb7.trans (hb8.mono hb7.size)).trans ((qi.trans (hb9'.mono (by simp))).mono (hb7.trans (hb8.mono hb7.size)).size);clear hb9')
   |(go_at_call 16;refine(qbe ⟨va5,vn5,vc5⟩ ⟨some ⟨W6.heap.size,0,none⟩,5,5⟩ [3,4,5,6,7] _ (hi5.out.below (qi)) (qgH W6 [3,4,5,6,7]) (by decide)).mono ?_;rintro e W7 ⟨rfl,hb7'⟩;have hb7:=hb6.trans ((qi.trans (hb7'.mono (by simp))).mono hb6.size);clear hb7'))
  go_ret
  exact⟨qq (by simp),hB4.trans (hb9.mono hB4.size)⟩
end
end Go.Proofs.YtomlgdnafeeeiaaGreatDoor
