/-
  SameInts; law7's example, alive.
-/
import Derived.Test.YtkoloennfejaaaaGreatDoorTcWP
import Derived.Test.YtkoloennfejaaaaGreatDoorTdAP
import Derived.Deep.AppendLies
import Derived.Deep.RegionWith
import Derived.Deep.Cut
set_option maxHeartbeats 6400000
set_option maxRecDepth 100000
namespace Go.Proofs.YtkoloennfejaaaaGreatDoor
open Go.RowKit
theorem qbe(s t:SlV)(l:List Int)(w:World)(hs:IntsAt w s l)(ht:IntsAt w t l)(hl:l.length<=100000) :
 Calls Tryz.prog 13 #[.slice s.a s.n s.c,.slice t.a t.n t.c] w fun e w'=>e = .returned (.bool true)/\Below w.heap.size w w':=by
 obtain⟨sa,sn,sc⟩:=s
 obtain⟨ta,tn,tc⟩:=t
 have e1:=hs.1
 have e2:=ht.1
 dsimp only at e1 e2
 subst e1
 subst e2
 replace hs:=Lib.hid hs
 replace ht:=Lib.hid ht
 go_enter Tryz.func13,Tryz.ntmps13
 go_wp2_with fail
 go_loopw [5] (fun i wr=>∃k:Nat,k<=l.length/\i = .int .i64 k/\Below w.heap.size w wr) (fun i _=>l.length-(intOf i).toNat)
 case atStart=>exact⟨0,Nat.zero_le _,rfl,Below.refl _ _⟩
 case round=>
  obtain⟨k,hk,rfl,hb⟩:=hrel
  by_cases hlt:k<l.length
  ·obtain⟨x,hxk⟩:∃x,l[k]?=some x:=⟨l[k],List.getElem?_eq_getElem hlt⟩
   obtain⟨b1,o1,h1,c1⟩:=(hs.out.below hb).2.2 k x hxk
   obtain⟨b2,o2,h2,c2⟩:=(ht.out.below hb).2.2 k x hxk
   dsimp only at h1 h2
   subst h1
   subst h2
   have k1:(k:Int)<l.length:=by omega
   have hi:IntKind.i64.wrap ((k:Int)+1)=k+1:=IntWalk.i64_in _ (by omega)
   clear hxk
   go_wp2_with fail
   go_region
   all_goals go_wp2_with fail
   all_goals exact⟨⟨k+1,by omega,by go_num,hb.drew⟩,by simp[intOf];omega⟩
  ·obtain rfl:k=l.length:=by omega
   go_wp2_with fail
   go_ret
   exact⟨rfl,hb⟩
attribute [-go_sem] Builtin.append_
theorem qcZ(W:World)(l:List Int):IntsAt (W.alloc (.cells (l.map (Value.int .i64)).toArray 3)) ⟨some ⟨W.heap.size,0,none⟩,l.length,l.length⟩ l:=
 ⟨rfl,Nat.le_refl _,fun j x hj=>⟨W.heap.size,0,rfl,by
  rw[Nat.zero_add]
  exact qC W _ _ (by simp[hj])⟩⟩
def qgZ(w:World)(B N:Nat)(W:World):Prop:=∃g cap X:Nat,4<=cap/\Below w.heap.size w W/\Cells W B 27 #[.string ⟨#[109]⟩,.slice (some ⟨g,0,none⟩) 4 cap,.slice (some ⟨N,0,none⟩) 1 1,.slice (some ⟨N+1+1+1+1+1,0,none⟩) 3 3,.slice (some ⟨N+1+1+1+1+1+1,0,none⟩) 1 1,.string ⟨#[114,48,48]⟩,.slice none 0 0,.int .i64 100] /\
 MachAt W (mv8 N g cap) (smD 3 0) (L8 X)
theorem Zw.kept{W3 W6:World}{X B g:Nat}{va:Option Addr}{vn vc n:Nat}(hX:Zw X W3)(hgrow:W3.grownBy W6 (Value.slice va vn vc).ownBlock)(hlt:∀b,(Value.slice va vn vc).ownBlock=some b->b<X)(hB:B<X)(x:Value)(_:g=n):Zw X (W6.setCell ⟨B,1,none⟩ x):=
 have h:∀k,X<=k->some k≠(Value.slice va vn vc).ownBlock:=fun k hk e=>by have:=hlt k e.symm;omega
 ⟨(hX.c0.kept hgrow (h _ (by omega))).other (by omega) _,(hX.c1.kept hgrow (h _ (by omega))).other (by omega) _,(hX.c2.kept hgrow (h _ (by omega))).other (by omega) _,(hX.c3.kept hgrow (h _ (by omega))).other (by omega) _⟩
theorem qfN{w W1 WB W3 W6:World}{B N g cap X:Nat}{va:Option Addr}{vn vc:Nat}{u:SlV}(hE:Env w)(hA:Zd w)(hS:Zi w 3 N ⟨va,vn,vc⟩ u W1)(hstB:Stays [68,27] W1 WB)(hbB:Below w.heap.size w WB)(hwB:w.heap.size<=B)(hBlt:B<WB.heap.size)
 (hrB:WB.ownsRow w.heap.size 68 4 (.slice va vn vc) 3 (xx 3)) (hb3:Below WB.heap.size WB W3) (hX0:WB.heap.size<=X) (hX:Zw X W3)
 (hown6:W6.ownsRow w.heap.size 68 4 (.slice (some ⟨g,0,none⟩) 4 cap) 4 (xx 3++[.string ⟨#[114,97,120]⟩,.int .i64 64,.int .i64 0,.slice (some ⟨X+1+1,0,none⟩) 1 1])) (hgrow6:W3.grownBy W6 (Value.slice va vn vc).ownBlock)
 (hT6:Cells W6 B 27 #[.string ⟨#[109]⟩,.slice va vn vc,.slice (some ⟨N,0,none⟩) 1 1,.slice (some ⟨N+1+1+1+1+1,0,none⟩) 3 3,.slice (some ⟨N+1+1+1+1+1+1,0,none⟩) 1 1,.string ⟨#[114,48,48]⟩,.slice none 0 0,.int .i64 100]) :
 qgZ w B N (W6.setCell ⟨B,1,none⟩ (.slice (some ⟨g,0,none⟩) 4 cap)):=by
 have hr3:=qb hrB hb3
 have hB7:Below w.heap.size w (W6.setCell ⟨B,1,none⟩ (.slice (some ⟨g,0,none⟩) 4 cap)):=((hbB.trans (hb3.mono hbB.size)).grown hgrow6 (hbB.trans (hb3.mono hbB.size)).size (fun i e=>(qd hr3 e).1)).setCell (p:=⟨B,1,none⟩) hwB _
 have hs6:Stays [27] W6 (W6.setCell ⟨B,1,none⟩ (.slice (some ⟨g,0,none⟩) 4 cap)):=Stays.of_set hT6 (by simp) 1 _
 have hs7:Stays [68,27] W1 (W6.setCell ⟨B,1,none⟩ (.slice (some ⟨g,0,none⟩) 4 cap)):=((hstB.trans (Stays.of_below hb3)).trans (Stays.of_grown hr3 (by simp) hgrow6)).trans (hs6.mono (by simp))
 have hX7:=hX.kept (g:=0) (n:=0) (B:=B) hgrow6 (fun b e=>by
  obtain⟨_,cur,hc⟩:=qd hrB e
  have:=hc.lt
  omega) (by omega) (.slice (some ⟨g,0,none⟩) 4 cap) rfl
 refine⟨g,cap,X,(yM (s:=⟨some ⟨g,0,none⟩,4,cap⟩) hown6).2,hB7,hT6.set (.slice (some ⟨g,0,none⟩) 4 cap) (j:=1),?_⟩
 exact qgM hS hs7 (hE.below hB7) (hA.below hB7) (qhz (hs6.row hown6 (by decide)) hX7)
theorem qih(w:World)(hE:Env w)(hA:Zd w)(hT:Go.Proofs.TabAt 0 Lib.deBruijn64tab w) :
 Calls Tryz.prog 7 #[] w fun e w'=>e = .returned (.bool true)/\Below w.heap.size w w':=by
 have K1:Calls Tryz.prog 39 #[.int .i64 3] w fun e W=>∃ (N:Nat) (v u:SlV),e = .returned (.agg #[.string ⟨#[109]⟩,.slice v.a v.n v.c,.slice (some ⟨N,0,none⟩) 1 1,.slice (some ⟨N+1+1+1+1+1,0,none⟩) 3 3,.slice (some ⟨N+1+1+1+1+1+1,0,none⟩) 1 1,.string ⟨#[114,48,48]⟩,.slice none 0 0,.int .i64 100])/\Zi w 3 N v u W:=qdE 3 w (by omega)
 obtain⟨i0,hi0,hz0,hz1,hz2⟩:=info_parts Tryz.infoRegS
 go_enter Tryz.func7,Tryz.ntmps7
 go_upto_region 2 with(go_at_call 39;refine K1.mono ?_;clear K1;rintro e W1 ⟨N,v,u,rfl,hS⟩)
 obtain⟨va,vn,vc⟩:=v
 dsimp only
 generalize hWB:W1.alloc (.cells #[.string ⟨#[109]⟩,.slice va vn vc,.slice (some ⟨N,0,none⟩) 1 1,.slice (some ⟨N+1+1+1+1+1,0,none⟩) 3 3,.slice (some ⟨N+1+1+1+1+1+1,0,none⟩) 1 1,.string ⟨#[114,48,48]⟩,.slice none 0 0,.int .i64 100] 27)=WB
 have hbx:Cells WB W1.heap.size 27 #[.string ⟨#[109]⟩,.slice va vn vc,.slice (some ⟨N,0,none⟩) 1 1,.slice (some ⟨N+1+1+1+1+1,0,none⟩) 3 3,.slice (some ⟨N+1+1+1+1+1+1,0,none⟩) 1 1,.string ⟨#[114,48,48]⟩,.slice none 0 0,.int .i64 100]:=by rw[←hWB];exact Cells.new _ _ _
 have hw1:=hS.below.size
 have hbB:Below w.heap.size w WB:=by rw[←hWB];exact hS.below.alloc hw1 _
 have hstB:Stays [68,27] W1 WB:=by rw[←hWB];exact Stays.alloc _ _ _
 have hrB:WB.ownsRow w.heap.size 68 4 (.slice va vn vc) 3 (xx 3):=by rw[←hWB];exact hS.regs.alloc _
 generalize hBB:W1.heap.size=B at *
 go_cut [] from 4 (fun Wx=>qgZ w B N Wx)
 case first=>
  have hwB:=hbB.size
  have hbd:=Cells.drewT hbx
  have hrd:=hrB.drew
  have KR:Calls Tryz.prog 40 #[] WB.drew fun e w'=>∃X:Nat,WB.heap.size<=X/\e = .returned (.slice (some ⟨X+3,0,none⟩) 1 1)/\Below WB.heap.size WB w'/\Zw X w':=(qef WB.drew).mono fun e w' ⟨h1,h2,h3⟩=>⟨WB.heap.size,Nat.le_refl _,h1,⟨h2.os,h2.tape,h2.output,h2.size,h2.block⟩,h3⟩
  have c1:=hbd.cell (j:=1) (v:=.slice va vn vc) rfl
  have hBlt:=hbx.lt
  go_wp2_with fail
  go_region_with (go_at_call 40
                  refine KR.mono ?_
                  rintro e W3 ⟨X,hX0,rfl,hb3,hX⟩
                  have hb33:=hbx.below hb3 hbx.lt
                  have d1:=hb33.cell (j:=1) (v:=.slice va vn vc) rfl
                  have hr3:=qb hrB hb3
                  obtain⟨g,cap,W6,hrun,hown6,hgrow6,hat6,hlt6⟩:=run_append_lies (P:=Tryz.prog) _ 22 22 w.heap.size 68 i0 _ 4 56 Tryz.underlying22 hi0 hz0 hz1 hz2 rfl (by omega) _ _ _ hr3 ⟨X+3,0,none⟩ 1 1 [.string ⟨#[114,97,120]⟩,.int .i64 64,.int .i64 0,.slice (some ⟨X+1+1,0,none⟩) 1 1] rfl (World.news_of_block (cs:=#[.string ⟨#[114,97,120]⟩,.int .i64 64,.int .i64 0,.slice (some ⟨X+1+1,0,none⟩) 1 1]) (t:=68) (fr:=(0,0)) hX.c3) (by simp[Value.oneCell']) (by omega) (by unfold maxLen;omega) (by omega) (by have:=hb3.size;omega) W3.heap.size rfl
                  have hT6:=hb33.kept hgrow6 (hb33.not_row (by decide) hr3)
                  have f6:=hT6.frozen 1
                  have c6:=hT6.cell (j:=1) (v:=.slice va vn vc) rfl)
  all_goals
   go_wp2_with fail
   go_meet
   exact qfN hE hA hS hstB hbB hw1 hBlt hrB hb3 hX0 hX hown6 hgrow6 hT6
 case rest=>
  obtain⟨g,cap,X,hcap,hbw,hbx8,hM⟩:=hcut
  clear hbx hrB hS hWB hbB hstB
  have x0:=hbx8.cell (j:=0) (v:=.string ⟨#[109]⟩) rfl
  have x1:=hbx8.cell (j:=1) (v:=.slice (some ⟨g,0,none⟩) 4 cap) rfl
  have x2:=hbx8.cell (j:=2) (v:=.slice (some ⟨N,0,none⟩) 1 1) rfl
  have x3:=hbx8.cell (j:=3) (v:=.slice (some ⟨N+1+1+1+1+1,0,none⟩) 3 3) rfl
  have x4:=hbx8.cell (j:=4) (v:=.slice (some ⟨N+1+1+1+1+1+1,0,none⟩) 1 1) rfl
  have x5:=hbx8.cell (j:=5) (v:=.string ⟨#[114,48,48]⟩) rfl
  have x6:=hbx8.cell (j:=6) (v:=.slice none 0 0) rfl
  have x7:=hbx8.cell (j:=7) (v:=.int .i64 100) rfl
  have KT:=qbb (mv8 N g cap) (smD 3 0) (L8 X) wc hM qhR (fun _=>hcap)
  change Calls _ _ #[.agg #[.string ⟨#[109]⟩,.slice (some ⟨g,0,none⟩) 4 cap,.slice (some ⟨N,0,none⟩) 1 1,.slice (some ⟨N+1+1+1+1+1,0,none⟩) 3 3,.slice (some ⟨N+1+1+1+1+1+1,0,none⟩) 1 1,.string ⟨#[114,48,48]⟩,.slice none 0 0,.int .i64 100]] wc _ at KT
  go_upto_region 4 with(go_at_call 36;refine KT.mono ?_;clear KT;rintro e W4 ⟨hb4,(⟨hne,_⟩|⟨_,C,M,tb,rl,cl,ol,rfl,hC,hTab⟩)⟩;· exact absurd (make8 X) hne)
  have hB4:Below w.heap.size w W4:=hbw.trans (hb4.mono hbw.size)
  have hreg:=zr.of_row hTab.regs.row
  have hn8:tb.rS.n=8:=by rw[hreg.1,←qig X,←hTab.regs.places,List.length_map]
  have h8:=hTab.tab.cell (j:=8) (v:=.slice tb.rS.a tb.rS.n tb.rS.c) rfl
  have KG:=qfM C tb.rS W4 h8
  rw[hn8] at KG
  have KL:∀ (a:Int) (l:List Int) (W:World),Below W4.heap.size W4 W->QH (fun n:Nat=>xC (plsL (L8 X)) a n)=l->Calls Tryz.prog 42 #[.pointer (some ⟨C,0,none⟩),.int .i64 a] W (qcY W l):=fun a l W hb hl=>by
   have hTb:=hTab.below hb
   have:=qgL C tb.rS (.map tb.rM) rl _ a W (hTb.tab.cell (j:=8) rfl) (hTb.tab.cell (j:=9) rfl) (zr.of_row hTb.regs.row) (hTb.lapSet a) (fun j hj=>cell_below (hB4.trans (hb.mono hB4.size)) (hT j hj))
   rw[hl] at this
   exact this
  have KL5:=KL 5 [3,4,5,6,7] W4 (Below.refl _ _) (qie X)
  have KL6:=Lib.hid fun W hb=>KL 6 [3,4,5,6] W hb (qif X)
  clear hTab hreg hn8 h8 KL hM hbx8 x0 x1 x2 x3 x4 x5 x6 x7 hT
  go_wp2_with (first
   |(go_at_call 37;refine(qhx _ _).mono ?_;rintro e W5 ⟨rfl,rfl⟩)
   |(go_at_call 41;refine KG.mono ?_;clear KG;rintro e W5 ⟨rfl,rfl⟩)
   |(go_at_call 42;refine(KL6.out _ hb7).mono ?_;rintro e W8 ⟨hb8,⟨va6,vn6,vc6⟩,rfl,_,hi6⟩;replace hi6:=Lib.hid hi6)
   |(go_at_call 42;refine KL5.mono ?_;clear KL5;rintro e W6 ⟨hb6,⟨va5,vn5,vc5⟩,rfl,_,hi5⟩;replace hi5:=Lib.hid hi5)
   |(go_at_call 13;refine(qbe ⟨va6,vn6,vc6⟩ ⟨some ⟨W8.heap.size,0,none⟩,4,4⟩ [3,4,5,6] _ (hi6.out.below (qe)) (qcZ W8 [3,4,5,6]) (by decide)).mono ?_;rintro e W9 ⟨rfl,hb9'⟩;have hb9:=(hb7.trans (hb8.mono hb7.size)).trans ((qe.trans (hb9'.mono (by simp))).mono (hb7.trans (hb8.mono hb7.size)).size);clear hb9')
   |(go_at_call 13;refine(qbe ⟨va5,vn5,vc5⟩ ⟨some ⟨W6.heap.size,0,none⟩,5,5⟩ [3,4,5,6,7] _ (hi5.out.below (qe)) (qcZ W6 [3,4,5,6,7]) (by decide)).mono ?_;rintro e W7 ⟨rfl,hb7'⟩;have hb7:=hb6.trans ((qe.trans (hb7'.mono (by simp))).mono hb6.size);clear hb7'))
  go_ret
  exact⟨qg (by simp),hB4.trans (hb9.mono hB4.size)⟩
end Go.Proofs.YtkoloennfejaaaaGreatDoor
