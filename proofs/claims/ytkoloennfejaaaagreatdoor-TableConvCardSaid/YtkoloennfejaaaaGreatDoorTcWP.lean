/-
  bitset's List; table's Laps, Survives, Regs, Roots.
-/
import Derived.Test.YtkoloennfejaaaaGreatDoorTcSP
import Derived.Test.YtkoloennfejaaaaGreatDoorTcDP
import Derived.OwnWalkIn
import Derived.Deep.AppendLies
import Derived.RangeFuncBox
import Derived.Test.YtkoloennfejaaaaGreatDoorTbP
set_option maxHeartbeats 4000000
set_option maxRecDepth 100000
namespace Go.Proofs.YtkoloennfejaaaaGreatDoor
open Go.RowKit
def numsOf(x:Nat×Nat):List Nat:=(Qh x.2).map (x.1+·)
theorem qed(x:Nat):(Qh x).length<=64:=by
 unfold Qh
 exact Nat.le_trans (List.length_filter_le _ _) (by simp)
theorem qbc:∀ (l:List (Nat×Nat)),(l.flatMap numsOf).length<=64*l.length
 | []=>by simp
 |x::l=>by
  have h1:=qbc l
  have h2:=qed x.2
  rw[List.flatMap_cons,List.length_append]
  unfold numsOf at h1 ⊢
  rw[List.length_map,List.length_cons]
  omega
def qcV(ws:List Nat):List Nat:=(wordsE ws ws.length).flatMap numsOf
theorem qee(ws:List Nat)(k:Nat):numsOf (k*64,ws.getD k 0)=((List.range 64).map (k*64+·)).filter (hasW ws):=by
 unfold numsOf Qh
 rw[List.filter_map]
 congr 1
 apply List.filter_congr
 intro i hi
 have hi2:=List.mem_range.1 hi
 simp only[Function.comp,hasW]
 have e1:(k*64+i)/64=k:=by omega
 have e2:(k*64+i)%64=i:=by omega
 rw[e1,e2]
theorem Jn(ws:List Nat):∀k,(wordsE ws k).flatMap numsOf=(List.range (64*k)).filter (hasW ws)
 | 0=>by simp[wordsE]
 |k+1=>by
  have ih:=Jn ws k
  have er:List.range (64*(k+1))=List.range (64*k)++(List.range 64).map (k*64+·):=by
   rw[show 64*(k+1)=64*k+64 by omega,List.range_add,Nat.mul_comm 64 k]
  rw[er,List.filter_append,←qee ws k,←ih]
  by_cases h0:ws.getD k 0=0
  ·rw[ZO ws k h0,h0]
   simp[numsOf,Jm]
  ·rw[QT ws k h0,List.flatMap_append]
   simp
def qfK(p:Nat->Bool):List Nat:=(List.range 65536).filter p
theorem qfL{ws:List Nat}(hl:ws.length<=1024){p:Nat->Bool}(hp:∀n,hasW ws n=p n):qcV ws=qfK p:=by
 unfold qcV qfK
 rw[Jn]
 obtain⟨d,hd⟩:∃d,65536=64*ws.length+d:=⟨65536-64*ws.length,by omega⟩
 rw[hd,List.range_add,List.filter_append]
 have h2:((List.range d).map (64*ws.length+·)).filter p = []:=by
  rw[List.filter_eq_nil_iff]
  intro n hn
  obtain⟨i,_,rfl⟩:=List.mem_map.1 hn
  rw[←hp,qaQ (by omega)]
  simp
 rw[h2,List.append_nil]
 exact List.filter_congr fun n _=>hp n
attribute [local go_sem] Oper.semAt_some
attribute [-go_sem] Builtin.append_
def qcW(s:SlV)(B1 B2 T k:Nat)(gv:Value)(x:Nat×Nat):Act:=
 { tmps:=#[.agg #[.slice s.a s.n s.c],.pointer (some ⟨B1,0,none⟩),.slice none 0 0,.pointer (some ⟨T,0,none⟩),.int .i64 x.1,.int .u64 x.2,undef,.agg #[.slice s.a s.n s.c],.int .i64 k,gv,.agg #[.slice s.a s.n s.c],.func (.func 160) #[] #[.pointer (some ⟨B2,0,none⟩)],.int .i64 x.1,.int .u64 x.2,undef,undef,undef,undef,undef,undef,undef,undef,undef,undef,undef,undef,undef,undef,undef],defers:=[] }
def qcX(w0:World)(base T:Nat)(L:List Nat)(W:World):Prop:=
 Below base w0 W/\∃v:SlV,W.ownsRow base 3 1 v.v L.length (L.map fun n:Nat=>Value.int .i64 (n:Int))/\Cells W T 41 #[v.v]
theorem qgK(s:SlV)(ws:List Nat)(w:World)(h:WordsAt w s ws)(hl:ws.length<=1024)(hT:TabAt 0 Lib.deBruijn64tab w)(hty1:114∉[3])(hty2:114∉[3,41]) :
 Calls Tryz.prog 78 #[.agg #[.slice s.a s.n s.c]] w fun e w'=>(∃v:SlV,e = .returned v.v/\w'.ownsRow w.heap.size 3 1 v.v (qcV ws).length ((qcV ws).map fun n:Nat=>Value.int .i64 (n:Int)))/\Below w.heap.size w w':=by
 have hB1:Below w.heap.size w (w.alloc (.cells #[.slice s.a s.n s.c] 86)):=qe
 have hbox:=Cells.new w 86 #[.slice s.a s.n s.c]
 obtain⟨i0,hi0,hz0,hz1,hz2⟩:=info_parts Tryz.infoInt
 refine(callsIn_wide (n:=4)).1 ?_
 refine callsIn_of_wp_marks Tryz.func78 rfl trivial ?_ rfl
 simp only[Tryz.ntmps78,List.size_toArray,List.length_cons,List.length_nil,Nat.reduceAdd,Nat.reduceSub,Array.replicate_succ,Array.replicate_zero,List.push_toArray,List.append_toArray,List.nil_append,List.cons_append]
 gi_wp2_with (first
  |(gi_at_make
    refine wpListIn_make_own _ rfl (.const (.int .i64 0)) (.tmp 8) 41 rfl w.heap.size 3 i0 (.int .i64 0) 1 Tryz.underlying41 hi0 hz0 hz1 .i64 .i64 _ _ rfl rfl rfl (by rw[hz2];omega) (by unfold maxLen;omega) (Nat.le_of_lt (hbox.below hb1 hbox.lt).lt) ?_
    intro W2 hown2 hgrow2
    have hbox2:=(hbox.below hb1 hbox.lt).kept hgrow2 (by simp)
    have c2:=fun o=>(hbox2.alloc o).cell (j:=0) (v:=.slice s.a s.n s.c) rfl
    have hb2:Below w.heap.size w W2:=(hB1.trans (hb1.mono hB1.size)).grown hgrow2 (hB1.trans (hb1.mono hB1.size)).size (by simp))
  |(refine⟨trivial,?_⟩
    gi_at_call 121
    refine(callsIn_wide.2 (qhP s ws _ (h.below hB1) hl hty1)).mono ?_
    rintro e W1 ⟨⟨k,rfl,hk⟩,hb1⟩)
  |(refine⟨trivial,?_⟩
    gi_at_call 122
    refine(callsIn_wide.2 (qfI s _)).mono ?_
    rintro e w' ⟨rfl,rfl⟩))
 generalize hW:(W2.alloc (.cells #[.slice (some ⟨W1.heap.size,0,none⟩) 0 k] 41)).alloc (.cells #[.slice s.a s.n s.c] 86)=W0
 have hw2:w.heap.size<=W2.heap.size:=hb2.size
 have hz3:W0.heap.size=W2.heap.size+2:=by rw[←hW];simp
 have hB0:Below w.heap.size w W0:=by rw[←hW];exact(hb2.alloc hw2 _).alloc (by simp;omega) _
 have hres:Cells W0 W2.heap.size 41 #[.slice (some ⟨W1.heap.size,0,none⟩) 0 k]:=by
  rw[←hW];exact(Cells.new W2 41 #[.slice (some ⟨W1.heap.size,0,none⟩) 0 k]).alloc _
 have hrow0:W0.ownsRow w.heap.size 3 1 (.slice (some ⟨W1.heap.size,0,none⟩) 0 k) 0 []:=by rw[←hW];exact(hown2.alloc _).alloc _
 have hsl:W0.cell? ⟨W2.heap.size+1,0,none⟩=some (.slice s.a s.n s.c):=by
  rw[←hW]
  have:=qC (W2.alloc (.cells #[.slice (some ⟨W1.heap.size,0,none⟩) 0 k] 41)) #[.slice s.a s.n s.c] 86 (j:=0) rfl
  rw[World.size_alloc] at this;exact this
 have hall:=Jl [3,41] 3 (W2.heap.size+1) s ws W0 hsl (h.below hB0) hl hty2
 have hu:=fun i=>zM h i
 generalize W1.heap.size=G1 at *
 generalize hT0:W2.heap.size=T at *
 clear hW hsl hown2 hgrow2 hbox2 c2 hb2 hbox hB1 hb1
 refine Xe (n:=4) (ps:=#[12,13]) (w:=W0) (gf:=160) (lb:=#[.pointer (some ⟨T+1,0,none⟩)]) (encs:=Qp) (E:=wordsE ws ws.length) (by omega) rfl (enters_of Tryz.func160 (by kernel_rfl) rfl) hall (fun _=>rfl)
  (fun pre W=>qcX w w.heap.size T (pre.flatMap numsOf) W) ?put ?below
  (fun x a'=>a'=qcW s w.heap.size (T+1) T k (.slice (some ⟨G1,0,none⟩) 0 k) x) ?assign ?body ?done
 case put=>
  rintro pre A l o o' hl2 h1 h2 ⟨hb,v,hr,hc⟩
  refine⟨ja _ hb (by omega),v,?_,(World.putObj_heap_other (by omega)).trans hc⟩
  exact ownsRow_putObj hr o' h1 h2
 case below=>
  intro A hA
  exact⟨hB0.trans (hA.mono (by omega)),⟨some ⟨G1,0,none⟩,0,k⟩,qb hrow0 hA,hres.below hA (by omega)⟩
 case assign=>
  intro l pre x W K _ hK
  unfold Qp
  gi_wp2
  rfl
 case body=>
  rintro l pre ⟨f,u⟩ a' W hI hpre rfl
  obtain⟨i1,hi1,he1,hn1⟩:=qcy (hpre.subset (show(f,u)∈pre++[(f,u)] by simp))
  have hu2:u<18446744073709551616:=by have:=hu i1;injection he1 with e1 e2;omega
  have hf2:f<=65472:=by injection he1 with e1 e2;omega
  have hpl:((pre++[(f,u)]).flatMap numsOf).length<=65536:=by
   have h1:=hpre.length_le
   have h2:=QU ws ws.length
   have h3:=qbc (pre++[(f,u)])
   omega
  have e1:(pre++[(f,u)]).flatMap numsOf=pre.flatMap numsOf++(Qh u).map (f+·):=by simp[numsOf]
  unfold qcW
  dsimp only
  generalize hL1:(pre++[(f,u)]).flatMap numsOf=L1 at *
  replace hL1:=Lib.hid hL1
  replace e1:=Lib.hid e1.symm
  replace hpl:=Lib.hid hpl
  replace hI:=Lib.hid hI
  clear hn1 he1 hi1 hpre hu hall
  gi_wp2_with fail
  gi_loopw [6] (fun r wr=>∃ (rest:Nat) (L':List Nat),r = .int .u64 rest/\rest<18446744073709551616/\Hid (L'++(Qh rest).map (f+·)=L1)/\KeepsOthers W wr/\Stays [3,41] W wr/\Hid (qcX w w.heap.size T L' wr)) (fun r _=>(intOf r).toNat)
  case atStart=>exact⟨u,_,rfl,hu2,e1,KeepsOthers.refl W,Stays.refl _ _,hI⟩
  case round=>
   obtain⟨rest,L',rfl,hr64,hL,hko,hst,hJ⟩:=hrel
   by_cases h0:rest=0
   ·subst h0
    have hL2:=hL.out
    rw[Jm,List.map_nil,List.append_nil] at hL2
    subst hL2
    clear hL
    gi_wp2_with fail
    refine⟨hko,hst,?_⟩
    show qcX w w.heap.size T ((pre++[(f,u)]).flatMap numsOf) wr
    rw[hL1.out]
    exact hJ.out
   ·have hx1:((rest:Int) != 0)=true:=by simpa using h0
    obtain⟨hst1,hst2,hst3⟩:=qcx h0 hr64
    obtain⟨hbJ,⟨va,vn,vc⟩,hrJ,hcJ⟩:=hJ.out
    have hn:=yM hrJ
    dsimp only at hn
    obtain⟨rfl,hnc⟩:=hn
    replace hrJ:wr.ownsRow w.heap.size 3 1 (.slice va L'.length vc) L'.length (L'.map fun n:Nat=>Value.int .i64 (n:Int)):=hrJ
    replace hcJ:Cells wr T 41 #[.slice va L'.length vc]:=hcJ
    have hlL:L'.length+1<=65536:=by
     have h1:=hL.out
     rw[hst1] at h1
     have h2:=congrArg List.length h1
     have h3:=hpl.out
     simp at h2
     omega
    have K:=qhO rest h0 hr64 wr.drew (fun j hj=>(cell_below hbJ.drew (hT j hj)))
    have cJ:=hcJ.cell (j:=0) (v:=.slice va L'.length vc) rfl
    have fJ:=hcJ.frozen 0
    generalize Lib.ctz 64 rest=z at *
    have hcA:=Cells.drewT (hcJ.alloc (.cells #[.int .i64 ((f:Int)+z)] 3))
    have hrA:=(hrJ.alloc (.cells #[.int .i64 ((f:Int)+z)] 3)).drew
    have hnr:=hcA.not_row (by decide) hrA
    have hTlt:T<wr.heap.size:=hcJ.lt
    have hws:w.heap.size<=wr.heap.size:=hbJ.size
    obtain⟨g,cap,W6,hrun,hown6,hgrow6,hat6,hlt6⟩:=run_append_lies (P:=Tryz.prog) _ 41 41 w.heap.size 3 i0 (.int .i64 0) 1 8 Tryz.underlying41 hi0 hz0 hz1 hz2 rfl (by omega) _ _ _ hrA
     ⟨wr.heap.size,0,none⟩ 1 1 [.int .i64 ((f:Int)+z)] rfl (World.news_of_block (cs:=#[.int .i64 ((f:Int)+z)]) (t:=3) (fr:=(0,0)) (heap_alloc_new wr _)) (by simp[Value.oneCell']) (by omega) (by unfold maxLen;omega) (by omega) (by simp;omega) (wr.heap.size+1) (by simp)
    have hT6:=hcA.kept hgrow6 hnr
    have c6:=hT6.cell (j:=0) (v:=.slice va L'.length vc) rfl
    have f6:=hT6.frozen 0
    have hko6:KeepsOthers wr W6:=((KeepsOthers.alloc wr _).trans (KeepsOthers.drew _)).trans (KeepsOthers.of_grownBy hgrow6 fun j o ej hj=>by
     obtain⟨_,cur,hc⟩:=qd hrA ej
     have:=(show _=_ from hc).symm.trans hj
     cases this;rfl)
    have hst6:Stays [3,41] wr W6:=(Stays.drewT (Stays.alloc _ wr _)).trans (Stays.of_grown hrA (by simp) hgrow6)
    have hbl6:Below w.heap.size w W6:=((hbJ.alloc hws _).drew).grown hgrow6 (by simp;omega) (fun i e=>(qd hrA e).1)
    have hcell6:∀u:Value,Stays [41] W6 (W6.setCell ⟨T,0,none⟩ u):=fun u=>Stays.of_set hT6 (by simp) 0 u
    have hfin:Hid (qcX w w.heap.size T (L'++[f+z]) (W6.setCell ⟨T,0,none⟩ (.slice (some ⟨g,0,none⟩) (L'.length+1) cap))):=Lib.hid ⟨hbl6.setCell (p:=⟨T,0,none⟩) hw2 _,⟨some ⟨g,0,none⟩,L'.length+1,cap⟩,by
     have h1:=(hcell6 (.slice (some ⟨g,0,none⟩) (L'.length+1) cap)).row hown6 (by decide)
     rw[List.length_append,List.map_append]
     exact h1,hT6.set (.slice (some ⟨g,0,none⟩) (L'.length+1) cap) (j:=0)⟩
    have hkoF:KeepsOthers W (W6.setCell ⟨T,0,none⟩ (.slice (some ⟨g,0,none⟩) (L'.length+1) cap)):=(hko.trans hko6).trans (KeepsOthers.setCell _ _ _)
    have hstF:Stays [3,41] W (W6.setCell ⟨T,0,none⟩ (.slice (some ⟨g,0,none⟩) (L'.length+1) cap)):=(hst.trans hst6).trans ((hcell6 _).mono (by simp))
    have hLF:Hid ((L'++[f+z])++(Qh (rest&&&(rest-1))).map (f+·)=L1):=Lib.hid (by rw[←hL.out,hst1];simp)
    have hb7:bits .and .u64 (rest:Int) ((rest-1:Nat):Int)=((rest&&&(rest-1):Nat):Int):=bits_and_u64_nat rest (rest-1) hr64 (by omega)
    have hw7:IntKind.u64.wrap ((rest:Int)-1)=((rest-1:Nat):Int):=by rw[IntKind.wrap_u64];omega
    clear hko6 hst6 hbl6 hown6 hgrow6 hat6 hcell6 hko hst hL hnr hrA hcA hst1 hJ hbJ hrJ hcJ hT6
    have hwr:IntKind.i64.wrap ((f:Int)+z)=(f:Int)+z:=IntWalk.i64_in _ (by omega)
    gi_wp2_with fail
    gi_region_with (first
     |(refine⟨trivial,?_⟩
       gi_at_call 123
       refine(CallsIn.inRound l (callsIn_wide.2 K)).mono ?_
       rintro e W1 ⟨rfl,rfl⟩)
     | fail)
    all_goals gi_wp2_with fail
    all_goals exact⟨⟨rest&&&(rest-1),L'++[f+z],rfl,by omega,hLF,hkoF,hstF,hfin⟩,by simp[intOf];omega⟩
 case done=>
  rintro D W hD ⟨hb,⟨va,vn,vc⟩,hr,hc⟩ hK
  replace hc:Cells W T 41 #[.slice va vn vc]:=hc
  have c0:=hc.cell (j:=0) (v:=.slice va vn vc) rfl
  have f0:=hc.frozen 0
  gi_wp2
  refine⟨by simp,.inl ⟨_,_,rfl,run_takeDeferred hK,?_⟩⟩
  refine⟨.slice va vn vc,?_,⟨⟨va,vn,vc⟩,rfl,ownsRow_putObj hr (.deferred none) hK rfl⟩,hb.trans (belowK_b (w:=w) (Nat.le_refl _) _ D _ _ (by omega) hK rfl rfl)⟩
  simp[results,Tryz.f78,go_sem]
def QH(p:Nat->Bool):List Int:=(qfK p).map fun n:Nat=>(n:Int)
theorem qhw(s:SlV)(p:Nat->Bool)(w:World)(h:SetAt w s p)(hT:TabAt 0 Lib.deBruijn64tab w) :
 Calls Tryz.prog 78 #[.agg #[.slice s.a s.n s.c]] w fun e w'=>(∃v:SlV,e = .returned v.v/\w'.ownsRow w.heap.size 3 1 v.v (QH p).length ((QH p).map (Value.int .i64))/\IntsAt w' v (QH p))/\Below w.heap.size w w':=by
 obtain⟨ws,h1,h2,h3,h4⟩:=h
 refine(qgK s ws w h1 h2 hT (by decide) (by decide)).mono ?_
 rintro e w' ⟨⟨v,rfl,hr⟩,hb⟩
 rw[qfL h2 h4] at hr
 have hr2:w'.ownsRow w.heap.size 3 1 v.v (QH p).length ((QH p).map (Value.int .i64)):=by
  unfold QH
  rw[List.length_map,List.map_map]
  exact hr
 refine⟨⟨v,rfl,hr2,?_⟩,hb⟩
 have hn:=yM hr2
 refine⟨hn.1,by omega,fun j x hj=>?_⟩
 obtain⟨b,e1,e2⟩:=qz hr2 (j:=j) (v:=.int .i64 x) (by rw[List.getElem?_map,hj];rfl)
 exact⟨b,0,e1,by rw[Nat.zero_add];exact e2⟩
end Go.Proofs.YtkoloennfejaaaaGreatDoor
namespace Go.Proofs.YtkoloennfejaaaaGreatDoor
open Go.RowKit
def qcY(w:World)(l:List Int)(e:Ending)(w':World):Prop:=
 Below w.heap.size w w'/\∃v:SlV,e = .returned v.v/\w'.ownsRow w.heap.size 3 1 v.v l.length (l.map (Value.int .i64))/\IntsAt w' v l
theorem qgL(C:Nat)(s:SlV)(m:Value)(l:List RegT)(p:Nat->Bool)(a:Int)(w:World)
 (h8:w.cell? ⟨C,8,none⟩=some (.slice s.a s.n s.c)) (h9:w.cell? ⟨C,9,none⟩=some m) (hl:zr w s l) (hp:SetAt w (regAtN l a).laps p) (hT:Go.Proofs.TabAt 0 Lib.deBruijn64tab w) :
 Calls Tryz.prog 42 #[.pointer (some ⟨C,0,none⟩),.int .i64 a] w (qcY w (QH p)):=by
 have K:=Zr s m l a w hl
 rw[←regAtN] at K
 generalize regAtN l a=x at *
 obtain⟨xn,xr,xa,xw,⟨la,ln,lc⟩⟩:=x
 simp only[RegT.v] at K
 have KH:=fun W (hb:Below w.heap.size w W)=>qhw ⟨la,ln,lc⟩ p W (hp.below hb) (fun j hj=>cell_below hb (hT j hj))
 dsimp only at KH
 clear hl hp hT
 have hfd:=Tryz.regField2 xn xr xa xw la ln lc
 go_enter Tryz.func42,Tryz.ntmps42
 go_wp2_with (first
  |(go_at_call 77;refine K.mono ?_;clear K;rintro e W1 ⟨rfl,hb⟩)
  |(go_at_call 78;refine(KH _ hb).mono ?_;clear KH;rintro e W2 ⟨⟨⟨va,vn,vc⟩,rfl,hr,hi⟩,hb2⟩;replace hr:=Lib.hid hr;replace hi:=Lib.hid hi))
 go_ret
 exact⟨hb.trans (hb2.mono hb.size),⟨va,vn,vc⟩,rfl,qj hr.out hb.size,hi.out⟩
theorem qfM(C:Nat)(s:SlV)(w:World)(h8:w.cell? ⟨C,8,none⟩=some (.slice s.a s.n s.c)) :
 Calls Tryz.prog 41 #[.pointer (some ⟨C,0,none⟩)] w fun e w'=>e = .returned (.int .i64 s.n)/\w=w':=by
 go_enter Tryz.func41,Tryz.ntmps41
 go_wp2
 go_ret
 exact⟨rfl,rfl⟩
end Go.Proofs.YtkoloennfejaaaaGreatDoor
