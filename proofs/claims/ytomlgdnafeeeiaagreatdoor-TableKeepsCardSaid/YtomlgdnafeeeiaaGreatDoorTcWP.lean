
import Derived.Test.YtomlgdnafeeeiaaGreatDoorTcSP
import Derived.Test.YtomlgdnafeeeiaaGreatDoorTcDP
import Derived.RangeFuncBox
import Derived.Test.YtomlgdnafeeeiaaGreatDoorTbP
set_option maxHeartbeats 4000000
set_option maxRecDepth 100000
/-
 bitset's List;table's Laps,Survives,Regs,Roots.
-/
namespace Go.Proofs.YtomlgdnafeeeiaaGreatDoor
open Proofs.Tryz
open Go.RowKit
section
def yC(x:Nat×Nat):List Nat:=(XE x.2).map (x.1+·)
theorem qhX(x:Nat):(XE x).length<=64:=by
 unfold XE
 exact vR (List.length_filter_le _ _) (by simp)
theorem qeE:∀ (l:List (Nat×Nat)),(l.flatMap yC).length<=64*l.length
 | []=>by simp
 |x::l=>by
  have h1:=qeE l
  have h2:=qhX x.2
  rw[List.flatMap_cons,kA]
  unfold yC at h1 ⊢
  rw[vP,List.length_cons]
  omega
def qgB(ws:List Nat):List Nat:=(xW ws ws.length).flatMap yC
theorem qhY(ws:List Nat)(k:Nat):yC (k*64,ws.getD k 0)=((List.range 64).map (k*64+·)).filter (jx ws):=by
 unfold yC XE
 rw[List.filter_map]
 congr 1
 apply List.filter_congr
 intro i hi
 have hi2:=List.mem_range.1 hi
 simp only[Function.comp,jx]
 have e1:(k*64+i)/64=k:=by omega
 have e2:(k*64+i)%64=i:=by omega
 rw[e1,e2]
theorem qbd(ws:List Nat):∀k,(xW ws k).flatMap yC=(List.range (64*k)).filter (jx ws)
 | 0=>by simp[xW]
 |k+1=>by
  have ih:=qbd ws k
  have er:List.range (64*(k+1))=List.range (64*k)++(List.range 64).map (k*64+·):=by
   rw[show 64*(k+1)=64*k+64 by omega,List.range_add,Nat.mul_comm 64 k]
  rw[er,List.filter_append,←qhY ws k,←ih]
  by_cases h0:ws.getD k 0=0
  ·rw[YF ws k h0,h0]
   simp[yC,qbc]
  ·rw[JA ws k h0,List.flatMap_append]
   simp
def qgC(p:Nat->Bool):List Nat:=(List.range 65536).filter p
theorem qjJ{ws:List Nat}(hl:ws.length<=1024){p:Nat->Bool}(hp:∀n,jx ws n=p n):qgB ws=qgC p:=by
 unfold qgB qgC
 rw[qbd]
 obtain⟨d,hd⟩:∃d,65536=64*ws.length+d:=⟨65536-64*ws.length,by omega⟩
 rw[hd,List.range_add,List.filter_append]
 have h2:((List.range d).map (64*ws.length+·)).filter p = []:=by
  rw[List.filter_eq_nil_iff]
  intro n hn
  obtain⟨i,_,rfl⟩:=List.mem_map.1 hn
  rw[←hp,qer (by omega)]
  simp
 rw[h2,List.append_nil]
 exact List.filter_congr fun n _=>hp n
attribute [local go_sem] Oper.semAt_some
attribute [-go_sem] Builtin.append_
def qgD(s:SlV)(B1 B2 T k:Nat)(gv:Value)(x:Nat×Nat):Act:=
 { tmps:=#[.agg #[.slice s.a s.n s.c],.pointer (some ⟨B1,0,none⟩),.slice none 0 0,.pointer (some ⟨T,0,none⟩),.int .i64 x.1,.int .u64 x.2,undef,.agg #[.slice s.a s.n s.c],.int .i64 k,gv,.agg #[.slice s.a s.n s.c],.func (.func 141) #[] #[.pointer (some ⟨B2,0,none⟩)],.int .i64 x.1,.int .u64 x.2,undef,undef,undef,undef,undef,undef,undef,undef,undef,undef,undef,undef,undef,undef,undef],defers:=[] }
def qgE(w0:World)(base T:Nat)(L:List Nat)(W:World):Prop:=
 Below base w0 W/\∃v:SlV,W.ownsRow base 3 1 v.v L.length (L.map fun n:Nat=>Value.int .i64 (n:Int))/\qd W T 55 #[v.v]
theorem qkO(s:SlV)(ws:List Nat)(w:World)(h:zE w s ws)(hl:ws.length<=1024)(hT:TabAt 0 Lib.deBruijn64tab w)(hty1:137∉[3])(hty2:137∉[3,55]) :
 Calls prog 46 #[.agg #[.slice s.a s.n s.c]] w fun e w'=>(∃v:SlV,e = .returned v.v/\w'.ownsRow w.heap.size 3 1 v.v (qgB ws).length ((qgB ws).map fun n:Nat=>Value.int .i64 (n:Int)))/\BX w w':=by
 have hB1:BX w (w.alloc (.cells #[.slice s.a s.n s.c] 83)):=qi
 have hbox:=qd.new w 83 #[.slice s.a s.n s.c]
 obtain⟨i0,hi0,hz0,hz1,hz2⟩:=info_parts ji
 refine(callsIn_wide (n:=4)).1 ?_
 refine callsIn_of_wp_marks func46 rfl trivial ?_ rfl
 simp only[ntmps46,List.size_toArray,List.length_cons,List.length_nil,Nat.reduceAdd,Nat.reduceSub,Array.replicate_succ,Array.replicate_zero,List.push_toArray,List.append_toArray,List.nil_append,List.cons_append]
 gi_wp2_with (first
  |(gi_at_make
    refine wpListIn_make_own _ rfl (.const (.int .i64 0)) (.tmp 8) 55 rfl w.heap.size 3 i0 (.int .i64 0) 1 underlying55 hi0 hz0 hz1 .i64 .i64 _ _ rfl rfl rfl (by rw[hz2];omega) (by unfold maxLen;omega) (Nat.le_of_lt (hbox.below hb1 hbox.lt).lt) ?_
    intro W2 hown2 hgrow2
    have hbox2:=(hbox.below hb1 hbox.lt).kept hgrow2 (by simp)
    have c2:=fun o=>(hbox2.alloc o).cell (j:=0) (v:=.slice s.a s.n s.c) rfl
    have hb2:BX w W2:=(hB1.trans (hb1.mono hB1.size)).grown hgrow2 (hB1.trans (hb1.mono hB1.size)).size (by simp))
  |(refine⟨trivial,?_⟩
    gi_at_call 93
    refine(callsIn_wide.2 (qlP s ws _ (h.below hB1) hl hty1)).mono ?_
    rintro e W1 ⟨⟨k,rfl,hk⟩,hb1⟩)
  |(refine⟨trivial,?_⟩
    gi_at_call 94
    refine(callsIn_wide.2 (qjH s _)).mono ?_
    rintro e w' ⟨rfl,rfl⟩))
 generalize hW:(W2.alloc (.cells #[.slice (some ⟨W1.heap.size,0,none⟩) 0 k] 55)).alloc (.cells #[.slice s.a s.n s.c] 83)=W0
 have hw2:w.heap.size<=W2.heap.size:=hb2.size
 have hz3:W0.heap.size=W2.heap.size+2:=by rw[←hW];simp
 have hB0:BX w W0:=by rw[←hW];exact(hb2.alloc hw2 _).alloc (by simp;omega) _
 have hres:qd W0 W2.heap.size 55 #[.slice (some ⟨W1.heap.size,0,none⟩) 0 k]:=by
  rw[←hW];exact(qd.new W2 55 #[.slice (some ⟨W1.heap.size,0,none⟩) 0 k]).alloc _
 have hrow0:W0.ownsRow w.heap.size 3 1 (.slice (some ⟨W1.heap.size,0,none⟩) 0 k) 0 []:=by rw[←hW];exact(hown2.alloc _).alloc _
 have hsl:W0.cell? ⟨W2.heap.size+1,0,none⟩=some (.slice s.a s.n s.c):=by
  rw[←hW]
  have:=zr (W2.alloc (.cells #[.slice (some ⟨W1.heap.size,0,none⟩) 0 k] 55)) #[.slice s.a s.n s.c] 83 (j:=0) rfl
  rw[vZ] at this;exact this
 have hall:=qbb [3,55] 3 (W2.heap.size+1) s ws W0 hsl (h.below hB0) hl hty2
 have hu:=fun i=>jT h i
 generalize W1.heap.size=G1 at *
 generalize hT0:W2.heap.size=T at *
 clear hW hsl hown2 hgrow2 hbox2 c2 hb2 hbox hB1 hb1
 refine YX (n:=4) (ps:=#[12,13]) (w:=W0) (gf:=141) (lb:=#[.pointer (some ⟨T+1,0,none⟩)]) (encs:=XQ) (E:=xW ws ws.length) (by omega) rfl (enters_of func141 (by kernel_rfl) rfl) hall (fun _=>rfl)
  (fun pre W=>qgE w w.heap.size T (pre.flatMap yC) W) ?put ?below
  (fun x a'=>a'=qgD s w.heap.size (T+1) T k (.slice (some ⟨G1,0,none⟩) 0 k) x) ?assign ?body ?done
 case put=>
  rintro pre A l o o' hl2 h1 h2 ⟨hb,v,hr,hc⟩
  refine⟨Qr _ hb (by omega),v,?_,(kP (by omega)).trans hc⟩
  exact ownsRow_putObj hr o' h1 h2
 case below=>
  intro A hA
  exact⟨hB0.trans (hA.mono (by omega)),⟨some ⟨G1,0,none⟩,0,k⟩,qe hrow0 hA,hres.below hA (by omega)⟩
 case assign=>
  intro l pre x W K _ hK
  unfold XQ
  gi_wp2
  rfl
 case body=>
  rintro l pre ⟨f,u⟩ a' W hI hpre rfl
  obtain⟨i1,hi1,he1,hn1⟩:=qgd (hpre.subset (show(f,u)∈pre++[(f,u)] by simp))
  have hu2:u<18446744073709551616:=by have:=hu i1;injection he1 with e1 e2;omega
  have hf2:f<=65472:=by injection he1 with e1 e2;omega
  have hpl:((pre++[(f,u)]).flatMap yC).length<=65536:=by
   have h1:=hpre.length_le
   have h2:=JB ws ws.length
   have h3:=qeE (pre++[(f,u)])
   omega
  have e1:(pre++[(f,u)]).flatMap yC=pre.flatMap yC++(XE u).map (f+·):=by simp[yC]
  unfold qgD
  dsimp only
  generalize hL1:(pre++[(f,u)]).flatMap yC=L1 at *
  replace hL1:=vH hL1
  replace e1:=vH e1.symm
  replace hpl:=vH hpl
  replace hI:=vH hI
  clear hn1 he1 hi1 hpre hu hall
  gi_wp2_with fail
  gi_loopw [6] (fun r wr=>∃ (rest:Nat) (L':List Nat),r = .int .u64 rest/\rest<18446744073709551616/\Hid (L'++(XE rest).map (f+·)=L1)/\KeepsOthers W wr/\qt [3,55] W wr/\Hid (qgE w w.heap.size T L' wr)) (fun r _=>(intOf r).toNat)
  case atStart=>exact⟨u,_,rfl,hu2,e1,KeepsOthers.refl W,qt.refl _ _,hI⟩
  case round=>
   obtain⟨rest,L',rfl,hr64,hL,hko,hst,hJ⟩:=hrel
   by_cases h0:rest=0
   ·subst h0
    have hL2:=hL.out
    rw[qbc,List.map_nil,List.append_nil] at hL2
    subst hL2
    clear hL
    gi_wp2_with fail
    refine⟨hko,hst,?_⟩
    show qgE w w.heap.size T ((pre++[(f,u)]).flatMap yC) wr
    rw[hL1.out]
    exact hJ.out
   ·have hx1:((rest:Int) != 0)=true:=by simpa using h0
    obtain⟨hst1,hst2,hst3⟩:=qgc h0 hr64
    obtain⟨hbJ,⟨va,vn,vc⟩,hrJ,hcJ⟩:=hJ.out
    have hn:=jk hrJ
    dsimp only at hn
    obtain⟨rfl,hnc⟩:=hn
    replace hrJ:wr.ownsRow w.heap.size 3 1 (.slice va L'.length vc) L'.length (L'.map fun n:Nat=>Value.int .i64 (n:Int)):=hrJ
    replace hcJ:qd wr T 55 #[.slice va L'.length vc]:=hcJ
    have hlL:L'.length+1<=65536:=by
     have h1:=hL.out
     rw[hst1] at h1
     have h2:=congrArg List.length h1
     have h3:=hpl.out
     simp at h2
     omega
    have K:=qlO rest h0 hr64 wr.drew (fun j hj=>(qb hbJ.drew (hT j hj)))
    have cJ:=hcJ.cell (j:=0) (v:=.slice va L'.length vc) rfl
    have fJ:=hcJ.frozen 0
    generalize Lib.ctz 64 rest=z at *
    have hcA:=qd.drewT (hcJ.alloc (.cells #[.int .i64 ((f:Int)+z)] 3))
    have hrA:=(hrJ.alloc (.cells #[.int .i64 ((f:Int)+z)] 3)).drew
    have hnr:=hcA.not_row (by decide) hrA
    have hTlt:T<wr.heap.size:=hcJ.lt
    have hws:w.heap.size<=wr.heap.size:=hbJ.size
    obtain⟨g,cap,W6,hrun,hown6,hgrow6,hat6,hlt6⟩:=run_append_lies (P:=prog) _ 55 55 w.heap.size 3 i0 (.int .i64 0) 1 8 underlying55 hi0 hz0 hz1 hz2 rfl (by omega) _ _ _ hrA
     ⟨wr.heap.size,0,none⟩ 1 1 [.int .i64 ((f:Int)+z)] rfl (World.news_of_block (cs:=#[.int .i64 ((f:Int)+z)]) (t:=3) (fr:=(0,0)) (heap_alloc_new wr _)) (by simp[Value.oneCell']) (by omega) (by unfold maxLen;omega) (by omega) (by simp;omega) (wr.heap.size+1) (by simp)
    have hT6:=hcA.kept hgrow6 hnr
    have c6:=hT6.cell (j:=0) (v:=.slice va L'.length vc) rfl
    have f6:=hT6.frozen 0
    have hko6:KeepsOthers wr W6:=((KeepsOthers.alloc wr _).trans (KeepsOthers.drew _)).trans (KeepsOthers.of_grownBy hgrow6 fun j o ej hj=>by
     obtain⟨_,cur,hc⟩:=qf hrA ej
     have:=(show _=_ from hc).symm.trans hj
     cases this;rfl)
    have hst6:qt [3,55] wr W6:=(qt.drewT (qt.alloc _ wr _)).trans (qt.of_grown hrA (by simp) hgrow6)
    have hbl6:BX w W6:=((hbJ.alloc hws _).drew).grown hgrow6 (by simp;omega) (fun i e=>(qf hrA e).1)
    have hcell6:∀u:Value,qt [55] W6 (W6.setCell ⟨T,0,none⟩ u):=fun u=>qt.of_set hT6 (by simp) 0 u
    have hfin:Hid (qgE w w.heap.size T (L'++[f+z]) (W6.setCell ⟨T,0,none⟩ (.slice (some ⟨g,0,none⟩) (L'.length+1) cap))):=vH ⟨hbl6.setCell (p:=⟨T,0,none⟩) hw2 _,⟨some ⟨g,0,none⟩,L'.length+1,cap⟩,by
     have h1:=(hcell6 (.slice (some ⟨g,0,none⟩) (L'.length+1) cap)).row hown6 (by decide)
     rw[kA,kM]
     exact h1,hT6.set (.slice (some ⟨g,0,none⟩) (L'.length+1) cap) (j:=0)⟩
    have hkoF:KeepsOthers W (W6.setCell ⟨T,0,none⟩ (.slice (some ⟨g,0,none⟩) (L'.length+1) cap)):=(hko.trans hko6).trans (KeepsOthers.setCell _ _ _)
    have hstF:qt [3,55] W (W6.setCell ⟨T,0,none⟩ (.slice (some ⟨g,0,none⟩) (L'.length+1) cap)):=(hst.trans hst6).trans ((hcell6 _).mono (by simp))
    have hLF:Hid ((L'++[f+z])++(XE (rest&&&(rest-1))).map (f+·)=L1):=vH (by rw[←hL.out,hst1];simp)
    have hb7:bits .and .u64 (rest:Int) ((rest-1:Nat):Int)=((rest&&&(rest-1):Nat):Int):=bits_and_u64_nat rest (rest-1) hr64 (by omega)
    have hw7:IntKind.u64.wrap ((rest:Int)-1)=((rest-1:Nat):Int):=by rw[IntKind.wrap_u64];omega
    clear hko6 hst6 hbl6 hown6 hgrow6 hat6 hcell6 hko hst hL hnr hrA hcA hst1 hJ hbJ hrJ hcJ hT6
    have hwr:IntKind.i64.wrap ((f:Int)+z)=(f:Int)+z:=vI _ (by omega)
    gi_wp2_with fail
    gi_region_with (first
     |(refine⟨trivial,?_⟩
       gi_at_call 95
       refine(CallsIn.inRound l (callsIn_wide.2 K)).mono ?_
       rintro e W1 ⟨rfl,rfl⟩)
     | fail)
    all_goals gi_wp2_with fail
    all_goals exact⟨⟨rest&&&(rest-1),L'++[f+z],rfl,by omega,hLF,hkoF,hstF,hfin⟩,by simp[intOf];omega⟩
 case done=>
  rintro D W hD ⟨hb,⟨va,vn,vc⟩,hr,hc⟩ hK
  replace hc:qd W T 55 #[.slice va vn vc]:=hc
  have c0:=hc.cell (j:=0) (v:=.slice va vn vc) rfl
  have f0:=hc.frozen 0
  gi_wp2
  refine⟨by simp,.inl ⟨_,_,rfl,run_takeDeferred hK,?_⟩⟩
  refine⟨.slice va vn vc,?_,⟨⟨va,vn,vc⟩,rfl,ownsRow_putObj hr (.deferred none) hK rfl⟩,hb.trans (belowK_b (w:=w) (vL _) _ D _ _ (by omega) hK rfl rfl)⟩
  simp[results,f46,go_sem]
def Xh(p:Nat->Bool):List Int:=(qgC p).map fun n:Nat=>(n:Int)
theorem qlB(s:SlV)(p:Nat->Bool)(w:World)(h:zh w s p)(hT:TabAt 0 Lib.deBruijn64tab w) :
 Calls prog 46 #[.agg #[.slice s.a s.n s.c]] w fun e w'=>(∃v:SlV,e = .returned v.v/\w'.ownsRow w.heap.size 3 1 v.v (Xh p).length ((Xh p).map (Value.int .i64))/\qJ w' v (Xh p))/\BX w w':=by
 obtain⟨ws,h1,h2,h3,h4⟩:=h
 refine(qkO s ws w h1 h2 hT (by decide) (by decide)).mono ?_
 rintro e w' ⟨⟨v,rfl,hr⟩,hb⟩
 rw[qjJ h2 h4] at hr
 have hr2:w'.ownsRow w.heap.size 3 1 v.v (Xh p).length ((Xh p).map (Value.int .i64)):=by
  unfold Xh
  rw[vP,List.map_map]
  exact hr
 refine⟨⟨v,rfl,hr2,?_⟩,hb⟩
 have hn:=jk hr2
 refine⟨hn.1,by omega,fun j x hj=>?_⟩
 obtain⟨b,e1,e2⟩:=zj hr2 (j:=j) (v:=.int .i64 x) (by rw[vY,hj];rfl)
 exact⟨b,0,e1,by rw[Nat.zero_add];exact e2⟩
end
def qgF(w:World)(l:List Int)(e:Ending)(w':World):Prop:=
 BX w w'/\∃v:SlV,e = .returned v.v/\w'.ownsRow w.heap.size 3 1 v.v l.length (l.map (Value.int .i64))/\qJ w' v l
theorem qgG(C:Nat)(s:SlV)(m:Value)(l:List qY)(p:Nat->Bool)(a:Int)(w:World)
 (h8:w.cell? ⟨C,8,none⟩=some (.slice s.a s.n s.c)) (h9:w.cell? ⟨C,9,none⟩=some m) (hl:xH w s l) (hp:zh w (zJ l a).laps p) (hT:Go.Proofs.TabAt 0 Lib.deBruijn64tab w) :
 Calls prog 17 #[.pointer (some ⟨C,0,none⟩),.int .i64 a] w (qgF w (Xh p)):=by
 have K:=JZ s m l a w hl
 rw[←zJ] at K
 generalize zJ l a=x at *
 obtain⟨xn,xr,xa,xw,⟨la,ln,lc⟩⟩:=x
 simp only[qY.v] at K
 have KH:=fun W (hb:BX w W)=>qlB ⟨la,ln,lc⟩ p W (hp.below hb) (fun j hj=>qb hb (hT j hj))
 dsimp only at KH
 clear hl hp hT
 have hfd:=qcc xn xr xa xw la ln lc
 go_enter func17,ntmps17
 go_wp2_with (first
  |(go_at_call 45;refine K.mono ?_;clear K;rintro e W1 ⟨rfl,hb⟩)
  |(go_at_call 46;refine(KH _ hb).mono ?_;clear KH;rintro e W2 ⟨⟨⟨va,vn,vc⟩,rfl,hr,hi⟩,hb2⟩;replace hr:=vH hr;replace hi:=vH hi))
 go_ret
 exact⟨hb.trans (hb2.mono hb.size),⟨va,vn,vc⟩,rfl,qm hr.out hb.size,hi.out⟩
theorem qeF(C:Nat)(s:SlV)(p:Nat->Bool)(a:Int)(w:World)(h17:w.cell? ⟨C,17,none⟩=some (.slice s.a s.n s.c))(hp:zh w s p) :
 Calls prog 41 #[.pointer (some ⟨C,0,none⟩),.int .i64 a] w fun e w'=>e = .returned (.bool (decide (0<=a)&&p a.toNat))/\BX w w':=by
 have KH:=qlJ s p a w hp
 clear hp
 go_enter func41,ntmps41
 go_wp2_with (go_at_call 90;refine KH.mono ?_;clear KH;rintro e W2 ⟨rfl,hb2⟩)
 go_ret
 exact⟨rfl,hb2⟩
theorem qeG(C:Nat)(s:SlV)(w:World)(h8:w.cell? ⟨C,8,none⟩=some (.slice s.a s.n s.c)) :
 Calls prog 15 #[.pointer (some ⟨C,0,none⟩)] w fun e w'=>e = .returned (.int .i64 s.n)/\w=w':=by
 go_enter func15,ntmps15
 go_wp2
 go_ret
 exact⟨rfl,rfl⟩
theorem qjK(C:Nat)(s:SlV)(w:World)(h1:w.cell? ⟨C,1,none⟩=some (.slice s.a s.n s.c)) :
 Calls prog 36 #[.pointer (some ⟨C,0,none⟩)] w fun e w'=>e = .returned (.int .i64 s.n)/\w=w':=by
 go_enter func36,ntmps36
 go_wp2
 go_ret
 exact⟨rfl,rfl⟩
end Go.Proofs.YtomlgdnafeeeiaaGreatDoor
