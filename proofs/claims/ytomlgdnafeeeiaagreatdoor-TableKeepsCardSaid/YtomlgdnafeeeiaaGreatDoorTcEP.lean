
import Derived.Test.YtomlgdnafeeeiaaGreatDoorTcC
set_option maxHeartbeats 8000000
set_option maxRecDepth 100000
/-
 table's takeRegs,takeClasses,choice,lapping.
-/
namespace Go.Proofs.YtomlgdnafeeeiaaGreatDoor
open Proofs.Tryz
open Go.RowKit
theorem qfW(C base:Nat)(tb:TB)(l:List ByteArray)(nm:ByteArray)(w:World)(hC:qd w C 85 tb.cells)(hM:xI base w tb.rM l)(hnm:nm.size<=281474976710656) :
 Calls prog 38 #[.pointer (some ⟨C,0,none⟩),.string nm] w fun e w'=>e = .returned (.tuple #[.int .i64 (xG l nm),.bool (qbG l nm)])/\BX w w':=by
 have K:=qlt base tb.rS tb.rM l nm w hM hnm
 obtain⟨m,⟨ra,rn,rc⟩,rm,⟨ca,cn,cc⟩,cm,⟨oa,on,oc⟩,om,ag,rs,sv,sr⟩:=tb
 have c0:=hC.cell (j:=8) (v:=.slice ra rn rc) rfl
 have c1:=hC.cell (j:=9) (v:=.map rm) rfl
 dsimp only at K
 clear hM hC
 go_enter func38,ntmps38
 go_wp2_with (go_at_call 89;refine K.mono ?_;clear K;rintro e W1 ⟨rfl,hb⟩)
 go_ret2
 exact⟨rfl,hb⟩
theorem qjB(C base:Nat)(tb:TB)(l:List ByteArray)(nm:ByteArray)(w:World)(hC:qd w C 85 tb.cells)(hM:xI base w tb.cM l)(hnm:nm.size<=281474976710656) :
 Calls prog 133 #[.pointer (some ⟨C,0,none⟩),.string nm] w fun e w'=>e = .returned (.tuple #[.int .i64 (xG l nm),.bool (qbG l nm)])/\BX w w':=by
 have K:=qlu base tb.cS tb.cM l nm w hM hnm
 obtain⟨m,⟨ra,rn,rc⟩,rm,⟨ca,cn,cc⟩,cm,⟨oa,on,oc⟩,om,ag,rs,sv,sr⟩:=tb
 have c0:=hC.cell (j:=10) (v:=.slice ca cn cc) rfl
 have c1:=hC.cell (j:=11) (v:=.map cm) rfl
 dsimp only at K
 clear hM hC
 go_enter func133,ntmps133
 go_wp2_with (go_at_call 174;refine K.mono ?_;clear K;rintro e W1 ⟨rfl,hb⟩)
 go_ret2
 exact⟨rfl,hb⟩
theorem QW{W:World}{g base n:Nat}{t:TypeId}{size:Nat}{cs:Array Value}(hC:qd W g t cs)(hb:base<=g)(hs:cs.size=n*size)(hm:n<=maxLen):W.ownsRow base t size (.slice (some ⟨g,0,none⟩) n n) n cs.toList:=
 ⟨by rw[Array.length_toList];exact hs,.inr ⟨g,n,cs,rfl,hb,hC,vL _,hm,hs,by rw[←hs,←Array.length_toList,List.take_length]⟩⟩
def KX(l:List Int)(k:Nat):Array Value:=((l.take k++List.replicate (l.length-k) 0).map (Value.int .i64)).toArray
theorem qhP(l:List Int):KX l 0=Array.replicate l.length (.int .i64 0):=by simp[KX]
theorem qhQ(l:List Int)(k:Nat)(x:Int)(hx:l[k]?=some x):(KX l k).setIfInBounds k (.int .i64 x)=KX l (k+1):=by
 have hlt:k<l.length:=(vS.1 hx).1
 apply Array.ext'
 simp only[KX,Array.toList_setIfInBounds]
 rw[show l.length-k=(l.length-(k+1))+1 by omega,List.replicate_succ,vX,hx]
 simp only[kM,List.map_cons,Option.toList_some,List.append_assoc,List.cons_append,List.nil_append]
 have hk:(List.map (Value.int .i64) (List.take k l)).length=k:=by simp;omega
 generalize List.map (Value.int .i64) (List.take k l)=A at hk ⊢
 rw[List.set_append_right _ _ (by omega),hk,Nat.sub_self];rfl
theorem qjC(l:List Int)(k:Nat)(hk:k<l.length):(KX l k)[k]?=some (.int .i64 0):=by
 have h1:(l.take k).length=k:=by simp;omega
 simp only[KX,List.getElem?_toArray,vY]
 rw[kR (by omega),h1,Nat.sub_self,List.getElem?_replicate,if_pos (by omega)]
 rfl
theorem qjD(l:List Int):KX l l.length=(l.map (Value.int .i64)).toArray:=by simp[KX]
theorem ZS(C base:Nat)(tb:TB)(ns:List ByteArray)(s:SlV)(l:List ByteArray)(w:World)(hC:qd w C 85 tb.cells)(hM:xI base w tb.rM ns)(hl:qG w s l)(hlen:l.length<=100000)(hsz:∀x,x∈l->x.size<=281474976710656) :
 Calls prog 79 #[.pointer (some ⟨C,0,none⟩),.slice s.a s.n s.c] w fun e w'=>∃s':SlV,e = .returned (.slice s'.a s'.n s'.c)/\BX w w'/\w'.ownsRow w.heap.size 3 1 s'.v l.length ((l.map (xG ns)).map (Value.int .i64)):=by
 obtain⟨a,n,cp⟩:=s
 obtain⟨hn1,hcap,hx⟩:=hl
 dsimp only at hn1 hcap hx ⊢
 subst hn1
 obtain⟨V,hV⟩:∃V,V=l.map (xG ns):=⟨_,rfl⟩
 have hVl:V.length=l.length:=by rw[hV,vP]
 have hVg:Hid (∀ (k:Nat) x,l[k]?=some x->V[k]?=some (xG ns x)):=vH fun k x hk=>by rw[hV,vY,hk];rfl
 rw[←hV]
 clear hV
 replace hVl:=vH hVl
 replace hx:=vH hx
 replace hsz:=vH hsz
 have hC2:=vH hC
 have hM2:=vH hM
 clear hC hM
 have hmk:=run_make_row' (P:=prog) 55 3 (.int .i64 0) 8 underlying55 ji rfl .i64 .i64 l.length (by omega) (by omega)
 go_enter func79,ntmps79
 go_wp2_with fail
 clear hmk
 have hC0:qd (w.alloc (.cells (madeCells #[.int .i64 0] l.length) 3)) w.heap.size 3 (KX V 0):=by rw[qhP,hVl.out,←jz];exact qd.new w _ _
 have hB0:BX w (w.alloc (.cells (madeCells #[.int .i64 0] l.length) 3)):=qi
 go_loopw [13] (fun i wr=>∃k:Nat,k<=l.length/\i = .int .i64 k/\qd wr w.heap.size 3 (KX V k)/\BX w wr) (fun i _=>l.length-(intOf i).toNat)
 case atStart=>exact⟨0,vO _,rfl,hC0,hB0⟩
 case round=>
  clear hC0 hB0
  obtain⟨k,hk,rfl,hR,hB⟩:=hrel
  have k0:(0:Int)<=k:=vN _
  by_cases hlt:k<l.length
  ·obtain⟨x,hxk⟩:∃x,l[k]?=some x:=⟨l[k],by rw[vE hlt]⟩
   obtain⟨b,o,rfl,hc⟩:=hx.out k x hxk
   have hc':=qb hB hc
   have hi:IntKind.i64.wrap ((k:Int)+1)=k+1:=vI _ (by omega)
   have k1:(k:Int)<l.length:=by omega
   have K:=qfW C base tb ns x wr (hC2.out.below hB hC2.out.lt) (hM2.out.below hB) (hsz.out x (vM hxk))
   have hw:=hR.lt
   have hvk:=hVg.out k x hxk
   have hP:∀W1,BX wr W1->(W1.cell? ⟨w.heap.size,k,none⟩=some (.int .i64 0)/\W1.frozen? ⟨w.heap.size,k,none⟩=false)/\qd (W1.setCell ⟨w.heap.size,k,none⟩ (.int .i64 (xG ns x))) w.heap.size 3 (KX V (k+1))/\BX w (W1.setCell ⟨w.heap.size,k,none⟩ (.int .i64 (xG ns x))):=fun W1 hb=>by
    have hR1:=hR.below hb hw
    refine⟨⟨hR1.cell (qjC V k (by rw[hVl.out];exact hlt)),hR1.frozen k⟩,?_,(hB.trans (hb.mono hB.size)).setCell (p:=⟨w.heap.size,k,none⟩) (vL _) _⟩
    have:=hR1.set (j:=k) (.int .i64 (xG ns x))
    rw[qhQ V k _ hvk] at this;exact this
   replace hP:=vH hP
   clear hc hR hxk hvk
   go_wp2_with (go_at_call 38;refine K.mono ?_;clear K;rintro e W1 ⟨rfl,hb⟩;obtain⟨⟨q0,q1⟩,q2⟩:=hP.out W1 hb;replace q2:=vH q2;clear hP)
   exact⟨⟨k+1,by omega,by go_num,q2.out.1,q2.out.2⟩,by simp[intOf];omega⟩
  ·obtain rfl:k=l.length:=by omega
   have hrow:wr.ownsRow w.heap.size 3 1 (.slice (some ⟨w.heap.size,0,none⟩) l.length l.length) l.length (V.map (Value.int .i64)):=by
    rw[←hVl.out] at hR ⊢
    rw[qjD] at hR
    have:=QW hR (vL w.heap.size) (n:=V.length) (size:=1) (by simp) (by unfold maxLen;have:=hVl.out;omega)
    simpa using this
   replace hrow:=vH hrow
   clear hR
   go_wp2_with fail
   go_ret
   exact⟨⟨some ⟨w.heap.size,0,none⟩,l.length,l.length⟩,rfl,hB,hrow.out⟩
def qY.plc(x:qY):Plc:=(x.root,x.at_,x.width)
def Ze(l:List qY)(meant:Plc->Bool)(n:Nat):Bool:=decide (n<l.length)&&meant (l.getD n qY.none).plc
def jl(l:List qY)(meant:Plc->Bool)(k:Nat):List Int:=((List.range k).filter fun r=>meant (l.getD r qY.none).plc).map fun r:Nat=>(r:Int)
theorem qaY(l:List qY)(meant:Plc->Bool)(k:Nat)(x:qY)(hx:l[k]?=some x)(h:meant x.plc=true):jl l meant (k+1)=jl l meant k++[(k:Int)]:=by
 have hg:l.getD k qY.none=x:=by rw[vG,hx];rfl
 unfold jl
 rw[List.range_succ,List.filter_append,kM]
 simp[hx,h]
theorem qce(l:List qY)(meant:Plc->Bool)(k:Nat)(x:qY)(hx:l[k]?=some x)(h:meant x.plc=false):jl l meant (k+1)=jl l meant k:=by
 unfold jl
 rw[List.range_succ,List.filter_append,kM]
 simp[hx,h]
theorem qcf(l:List qY)(meant:Plc->Bool)(k:Nat):(jl l meant k).length<=k:=by
 unfold jl
 rw[vP]
 exact vR (List.length_filter_le _ _) (by simp)
theorem qaZ(l:List qY)(meant:Plc->Bool)(hl:l.length<=1000):ofP (jl l meant l.length)=Ze l meant:=by
 funext n
 rw[Bool.eq_iff_iff]
 unfold ofP Ze jl
 simp only[Bool.and_eq_true,decide_eq_true_eq,List.contains_iff_mem,List.mem_map,List.mem_filter,List.mem_range]
 constructor
 ·rintro⟨h1,r,⟨h2,h3⟩,h4⟩
  have:r=n:=by omega
  subst this
  exact⟨h2,h3⟩
 ·rintro⟨h1,h2⟩
  exact⟨by omega,n,⟨h1,h2⟩,rfl⟩
theorem qjE(C B0:Nat)(tb:TB)(l:List qY)(meant:Plc->Bool)(w:World)(hC:qd w C 85 tb.cells)(hl:xH w tb.rS l)(hlen:l.length<=1000)
 (KC:∀W,BX w W->∀x,x∈l->Calls prog 77 #[.agg #[.int .i64 x.root,.int .i64 x.at_,.int .i64 x.width],.pointer (some ⟨B0,0,none⟩)] W fun e w'=>e = .returned (.bool (meant x.plc))/\BX W w') :
 Calls prog 76 #[.pointer (some ⟨C,0,none⟩),.func (.func 77) #[] #[.pointer (some ⟨B0,0,none⟩)]] w (xj (Ze l meant) w):=by
 obtain⟨m,⟨ra,rn,rc⟩,rm,⟨ca,cn,cc⟩,cm,⟨oa,on,oc⟩,om,ag,rs,sv,sr⟩:=tb
 obtain⟨hn,hcap,hx⟩:=hl
 dsimp only at hn hcap hx
 subst hn
 have c0:=hC.cell (j:=8) (v:=.slice ra l.length rc) rfl
 have hofp:=vH (qaZ l meant hlen)
 have hB:BX w (w.alloc (.cells #[.slice none 0 0] 83)):=qi
 have hS:=qd.new w 83 #[.slice none 0 0]
 replace hx:=vH hx
 replace KC:=vH KC
 have c0a:=qb hB c0
 clear hC
 go_enter func76,ntmps76
 go_wp2_with fail
 go_loopw [5,14] (fun made i wr=>∃ (k:Nat) (qa:Option Addr) (qn qc:Nat),k<=l.length/\i = .int .i64 k/\made = .slice qa qn qc/\BX w wr/\qd wr w.heap.size 83 #[.slice none 0 0]/\wr.ownsRow w.heap.size 3 1 (.slice qa qn qc) qn ((jl l meant k).map (Value.int .i64))/\Hid (qn=(jl l meant k).length)) (fun _ i _=>l.length-(intOf i).toNat)
 case atStart=>exact⟨0,none,0,0,vO _,rfl,rfl,hB,hS,by simpa[jl] using kO _ _ _ _,vH rfl⟩
 case round=>
  clear c0 c0a hS hB
  obtain⟨k,qa,qn,qc,hk,rfl,rfl,hBr,hSr,hrow,hqn⟩:=hrel
  have k0:(0:Int)<=k:=vN _
  have hqk:qn<=k:=by have:=qcf l meant k;have:=hqn.out;omega
  by_cases hlt:k<l.length
  ·obtain⟨x,hxk⟩:∃x,l[k]?=some x:=⟨l[k],vE hlt⟩
   obtain⟨b,o,rfl,q0,q1,q2,q3,q4⟩:=hx.out k x hxk
   replace q0:=qb hBr q0
   replace q1:=qb hBr q1
   replace q2:=qb hBr q2
   replace q3:=qb hBr q3
   replace q4:=qb hBr q4
   have hi:IntKind.i64.wrap ((k:Int)+1)=k+1:=vI _ (by omega)
   have k1:(k:Int)<l.length:=by omega
   have hBs:=hBr.size
   have hwl:=hSr.lt
   have hbx:BX wr (wr.alloc (.cells #[.string x.name,.int .i64 x.root,.int .i64 x.at_,.int .i64 x.width,.slice x.laps.a x.laps.n x.laps.c] 95)):=qi
   have K:=KC.out _ (hBr.trans (hbx.mono hBs)) x (vM hxk)
   replace hrow:=vH hrow
   have hSr':=vH hSr
   obtain⟨i0,hi0,hz0,hz1,hz2⟩:=info_parts ji
   cases hme:meant x.plc with
   |false=>
    have hL:=vH (qce l meant k x hxk hme)
    rw[hme] at K
    clear hxk hme hSr
    go_wp2_with (go_at_call 77;refine K.mono ?_;clear K;rintro e W1 ⟨rfl,hb1⟩;have hb2:=hbx.trans (hb1.mono hbx.size))
    refine⟨⟨k+1,qa,qn,qc,by omega,by go_num,rfl,hBr.trans (hb2.mono hBs),hSr'.out.below hb2 hwl,?_,?_⟩,by simp[intOf];omega⟩
    ·rw[hL.out];exact qe hrow.out hb2
    ·rw[hL.out];exact hqn
   |true=>
    have hL:=vH (qaY l meant k x hxk hme)
    rw[hme] at K
    clear hxk hme hSr
    go_wp2_with (first
     |(go_at_call 77;refine K.mono ?_;clear K;rintro e W1 ⟨rfl,hb1⟩;have hb2:=hbx.trans (hb1.mono hbx.size);have hrow1:=qe hrow.out hb2;have hb1s:=hb2.size)
     |(at_builtin;go_loud (refine wpList_append_own_at _ rfl _ _ 55 rfl w.heap.size 3 i0 _ 1 8 underlying55 hi0 hz0 hz1 hz2 rfl (by decide) _ qn _ rfl (hrow1.alloc _) ⟨W1.heap.size,0,none⟩ 1 1 [.int .i64 k] rfl rfl (zo _ _ _ _ rfl) (by simp[Value.oneCell']) (by unfold maxLen;omega) (by omega) (by simp;omega) ?_;intro v' W7 hown7 hgrow _ hblk;obtain⟨g',cap',rfl⟩:=ownsRow_succ hown7)))
    have hgr:=qE hgrow
    have hB7:BX w W7:=(hBr.trans (hb2.mono hBs)).grown hgr (by omega) (fun j e=>(qf hrow1 e).1)
    have hS7:qd W7 w.heap.size 83 #[.slice none 0 0]:=(hSr'.out.below hb2 hwl).kept hgr ((hSr'.out.below hb2 hwl).not_row (by decide) hrow1)
    refine⟨⟨k+1,_,_,_,by omega,by go_num,rfl,hB7,hS7,?_,?_⟩,by simp[intOf];omega⟩
    ·rw[hL.out,kM]
     exact hown7
    ·rw[hL.out,kA]
     exact vH (by rw[hqn.out];rfl)
  ·obtain rfl:k=l.length:=by omega
   have hI:qJ wr ⟨qa,qn,qc⟩ (jl l meant l.length):=qJ.of_row (s:=⟨qa,qn,qc⟩) hrow hqn.out
   have K:=qkH ⟨qa,qn,qc⟩ (jl l meant l.length) wr hI (by have:=hqn.out;omega)
   rw[hofp.out] at K
   dsimp only at K
   have hP:∀W,BX wr W->W.cell? ⟨w.heap.size,0,none⟩=some (.slice none 0 0)/\W.frozen? ⟨w.heap.size,0,none⟩=false:=fun W hb=>by
    have:=hSr.below hb hSr.lt
    exact⟨this.cell rfl,this.frozen 0⟩
   clear hrow hI hSr hx KC
   go_wp2_with (go_at_call 81;refine K.mono ?_;clear K;rintro e W1 ⟨h0,⟨za,zn,zc⟩,rfl,hset⟩;obtain⟨p0,p1⟩:=hP W1 h0;have hfin:Hid (xj (Ze l meant) w (.returned (.agg #[.slice za zn zc])) (W1.setCell ⟨w.heap.size,0,none⟩ (.slice za zn zc))):=vH ⟨(hBr.trans (h0.mono hBr.size)).setCell (p:=⟨w.heap.size,0,none⟩) (vL _) _,⟨za,zn,zc⟩,rfl,hset.set_other _ p0 (fun x hx=>by cases hx)⟩;have hld:=World.cell?_setCell_same' W1 ⟨w.heap.size,0,none⟩ (.slice za zn zc) (by rw[p0];rfl);clear h0 hset hP)
   (try simp only[Exit.inBlock,Exit.then])
   refine bodyPost_ret (v:=.agg #[.slice za zn zc]) ?_ rfl hfin.out
   rw[qO rfl]
   clear p0
   go_simp
theorem qex(C B0 B1:Nat)(tb:TB)(l:List qY)(meant:Plc->Bool)(w:World)(hC:qd w C 85 tb.cells)(hl:xH w tb.rS l)(hlen:l.length<=1000)
 (KC:∀W,BX w W->∀x,x∈l->Calls prog 86 #[.agg #[.int .i64 x.root,.int .i64 x.at_,.int .i64 x.width],.pointer (some ⟨B0,0,none⟩),.pointer (some ⟨B1,0,none⟩)] W fun e w'=>e = .returned (.bool (meant x.plc))/\BX W w') :
 Calls prog 76 #[.pointer (some ⟨C,0,none⟩),.func (.func 86) #[] #[.pointer (some ⟨B0,0,none⟩),.pointer (some ⟨B1,0,none⟩)]] w (xj (Ze l meant) w):=by
 obtain⟨m,⟨ra,rn,rc⟩,rm,⟨ca,cn,cc⟩,cm,⟨oa,on,oc⟩,om,ag,rs,sv,sr⟩:=tb
 obtain⟨hn,hcap,hx⟩:=hl
 dsimp only at hn hcap hx
 subst hn
 have c0:=hC.cell (j:=8) (v:=.slice ra l.length rc) rfl
 have hofp:=vH (qaZ l meant hlen)
 have hB:BX w (w.alloc (.cells #[.slice none 0 0] 83)):=qi
 have hS:=qd.new w 83 #[.slice none 0 0]
 replace hx:=vH hx
 replace KC:=vH KC
 have c0a:=qb hB c0
 clear hC
 go_enter func76,ntmps76
 go_wp2_with fail
 go_loopw [5,14] (fun made i wr=>∃ (k:Nat) (qa:Option Addr) (qn qc:Nat),k<=l.length/\i = .int .i64 k/\made = .slice qa qn qc/\BX w wr/\qd wr w.heap.size 83 #[.slice none 0 0]/\wr.ownsRow w.heap.size 3 1 (.slice qa qn qc) qn ((jl l meant k).map (Value.int .i64))/\Hid (qn=(jl l meant k).length)) (fun _ i _=>l.length-(intOf i).toNat)
 case atStart=>exact⟨0,none,0,0,vO _,rfl,rfl,hB,hS,by simpa[jl] using kO _ _ _ _,vH rfl⟩
 case round=>
  clear c0 c0a hS hB
  obtain⟨k,qa,qn,qc,hk,rfl,rfl,hBr,hSr,hrow,hqn⟩:=hrel
  have k0:(0:Int)<=k:=vN _
  have hqk:qn<=k:=by have:=qcf l meant k;have:=hqn.out;omega
  by_cases hlt:k<l.length
  ·obtain⟨x,hxk⟩:∃x,l[k]?=some x:=⟨l[k],vE hlt⟩
   obtain⟨b,o,rfl,q0,q1,q2,q3,q4⟩:=hx.out k x hxk
   replace q0:=qb hBr q0
   replace q1:=qb hBr q1
   replace q2:=qb hBr q2
   replace q3:=qb hBr q3
   replace q4:=qb hBr q4
   have hi:IntKind.i64.wrap ((k:Int)+1)=k+1:=vI _ (by omega)
   have k1:(k:Int)<l.length:=by omega
   have hBs:=hBr.size
   have hwl:=hSr.lt
   have hbx:BX wr (wr.alloc (.cells #[.string x.name,.int .i64 x.root,.int .i64 x.at_,.int .i64 x.width,.slice x.laps.a x.laps.n x.laps.c] 95)):=qi
   have K:=KC.out _ (hBr.trans (hbx.mono hBs)) x (vM hxk)
   replace hrow:=vH hrow
   have hSr':=vH hSr
   obtain⟨i0,hi0,hz0,hz1,hz2⟩:=info_parts ji
   cases hme:meant x.plc with
   |false=>
    have hL:=vH (qce l meant k x hxk hme)
    rw[hme] at K
    clear hxk hme hSr
    go_wp2_with (go_at_call 86;refine K.mono ?_;clear K;rintro e W1 ⟨rfl,hb1⟩;have hb2:=hbx.trans (hb1.mono hbx.size))
    refine⟨⟨k+1,qa,qn,qc,by omega,by go_num,rfl,hBr.trans (hb2.mono hBs),hSr'.out.below hb2 hwl,?_,?_⟩,by simp[intOf];omega⟩
    ·rw[hL.out];exact qe hrow.out hb2
    ·rw[hL.out];exact hqn
   |true=>
    have hL:=vH (qaY l meant k x hxk hme)
    rw[hme] at K
    clear hxk hme hSr
    go_wp2_with (first
     |(go_at_call 86;refine K.mono ?_;clear K;rintro e W1 ⟨rfl,hb1⟩;have hb2:=hbx.trans (hb1.mono hbx.size);have hrow1:=qe hrow.out hb2;have hb1s:=hb2.size)
     |(at_builtin;go_loud (refine wpList_append_own_at _ rfl _ _ 55 rfl w.heap.size 3 i0 _ 1 8 underlying55 hi0 hz0 hz1 hz2 rfl (by decide) _ qn _ rfl (hrow1.alloc _) ⟨W1.heap.size,0,none⟩ 1 1 [.int .i64 k] rfl rfl (zo _ _ _ _ rfl) (by simp[Value.oneCell']) (by unfold maxLen;omega) (by omega) (by simp;omega) ?_;intro v' W7 hown7 hgrow _ hblk;obtain⟨g',cap',rfl⟩:=ownsRow_succ hown7)))
    have hgr:=qE hgrow
    have hB7:BX w W7:=(hBr.trans (hb2.mono hBs)).grown hgr (by omega) (fun j e=>(qf hrow1 e).1)
    have hS7:qd W7 w.heap.size 83 #[.slice none 0 0]:=(hSr'.out.below hb2 hwl).kept hgr ((hSr'.out.below hb2 hwl).not_row (by decide) hrow1)
    refine⟨⟨k+1,_,_,_,by omega,by go_num,rfl,hB7,hS7,?_,?_⟩,by simp[intOf];omega⟩
    ·rw[hL.out,kM]
     exact hown7
    ·rw[hL.out,kA]
     exact vH (by rw[hqn.out];rfl)
  ·obtain rfl:k=l.length:=by omega
   have hI:qJ wr ⟨qa,qn,qc⟩ (jl l meant l.length):=qJ.of_row (s:=⟨qa,qn,qc⟩) hrow hqn.out
   have K:=qkH ⟨qa,qn,qc⟩ (jl l meant l.length) wr hI (by have:=hqn.out;omega)
   rw[hofp.out] at K
   dsimp only at K
   have hP:∀W,BX wr W->W.cell? ⟨w.heap.size,0,none⟩=some (.slice none 0 0)/\W.frozen? ⟨w.heap.size,0,none⟩=false:=fun W hb=>by
    have:=hSr.below hb hSr.lt
    exact⟨this.cell rfl,this.frozen 0⟩
   clear hrow hI hSr hx KC
   go_wp2_with (go_at_call 81;refine K.mono ?_;clear K;rintro e W1 ⟨h0,⟨za,zn,zc⟩,rfl,hset⟩;obtain⟨p0,p1⟩:=hP W1 h0;have hfin:Hid (xj (Ze l meant) w (.returned (.agg #[.slice za zn zc])) (W1.setCell ⟨w.heap.size,0,none⟩ (.slice za zn zc))):=vH ⟨(hBr.trans (h0.mono hBr.size)).setCell (p:=⟨w.heap.size,0,none⟩) (vL _) _,⟨za,zn,zc⟩,rfl,hset.set_other _ p0 (fun x hx=>by cases hx)⟩;have hld:=World.cell?_setCell_same' W1 ⟨w.heap.size,0,none⟩ (.slice za zn zc) (by rw[p0];rfl);clear h0 hset hP)
   (try simp only[Exit.inBlock,Exit.then])
   refine bodyPost_ret (v:=.agg #[.slice za zn zc]) ?_ rfl hfin.out
   rw[qO rfl]
   clear p0
   go_simp
theorem Yb{α β:Type}{f:α->β}{l:List α}{k:Nat}{x y:α}(hx:l[k]?=some x)(h:f y=f x):(l.set k y).map f=l.map f:=by
 apply List.ext_getElem?
 intro i
 rw[vY,vY,List.getElem?_set]
 split
 ·rename_i he
  subst he
  split
  ·rw[hx];simp[h]
  ·rw[hx]
   rename_i hn
   exact absurd (vS.1 hx).1 hn
 ·rfl
theorem qey{α β:Type}{f:α->List β}{size:Nat}(hf:∀x,(f x).length=size):∀ {l:List α} {k:Nat} {x y:α} {r:Nat} {v:β},l[k]?=some x->r<size->f y=(f x).set r v->(l.set k y).flatMap f=(l.flatMap f).set (k*size+r) v
 |z::t,0,x,y,r,v,hx,hr,h=>by
  cases hx
  rw[kZ,List.flatMap_cons,List.flatMap_cons,Nat.zero_mul,Nat.zero_add,List.set_append_left _ _ (by rw[hf];exact hr),h]
 |z::t,k+1,x,y,r,v,hx,hr,h=>by
  have e:(k+1)*size=k*size+size:=Nat.succ_mul k size
  rw[kS,List.flatMap_cons,List.flatMap_cons,List.set_append_right _ _ (by rw[hf];omega),hf,show(k+1)*size+r-size=k*size+r by omega,qey hf (l:=t) hx hr h]
def yE(ps:List Plc)(p:Plc)(n:Nat):Bool:=decide (n<ps.length)&&zR p (ps.getD n (0,0,0))
theorem qba(l:List qY)(meant:Plc->Bool)(n:Nat):Ze l meant n=(decide (n<(l.map qY.plc).length)&&meant ((l.map qY.plc).getD n (0,0,0))):=by
 unfold Ze
 rw[vP]
 simp only[vG,vY]
 cases l[n]? <;> rfl
theorem qlx(p q:Plc)(Bp:Nat)(w:World)(hp:xT p)(hq:xT q)(hc:qd w Bp 87 #[.int .i64 p.1,.int .i64 p.2.1,.int .i64 p.2.2]) :
 Calls prog 77 #[.agg #[.int .i64 q.1,.int .i64 q.2.1,.int .i64 q.2.2],.pointer (some ⟨Bp,0,none⟩)] w fun e w'=>e = .returned (.bool (zR p q))/\BX w w':=by
 have hb:BX w (w.alloc (.cells #[.int .i64 q.1,.int .i64 q.2.1,.int .i64 q.2.2] 87)):=qi
 have K:=fun W=>qdK p q W hp hq
 have hc2:=hc.below hb hc.lt
 have c0:=hc.cell (j:=0) (v:=.int .i64 p.1) rfl
 have c1:=hc.cell (j:=1) (v:=.int .i64 p.2.1) rfl
 have c2:=hc.cell (j:=2) (v:=.int .i64 p.2.2) rfl
 have d0:=hc2.cell (j:=0) (v:=.int .i64 p.1) rfl
 have d1:=hc2.cell (j:=1) (v:=.int .i64 p.2.1) rfl
 have d2:=hc2.cell (j:=2) (v:=.int .i64 p.2.2) rfl
 clear hc hc2
 go_enter func77,ntmps77
 go_wp2_with (go_at_call 78;refine(K _).mono ?_;clear K;rintro e W1 ⟨rfl,hb1⟩)
 go_ret
 exact⟨rfl,hb.trans (hb1.mono hb.size)⟩
def ye(x:qA):qY:=⟨x.name,x.place.1,x.place.2.1,x.place.2.2,⟨none,0,0⟩⟩
structure xF(base C:Nat)(W:World)(tb:TB)(ns:List ByteArray)(ps:List Plc)(rl:List qY):Prop where
 row:W.ownsRow base 95 5 tb.rS.v rl.length (rl.flatMap fun x=>x.v.toList)
 map:xI base W tb.rM ns
 names:rl.map qY.name=ns
 places:rl.map qY.plc=ps
def ZT(C:Nat)(tb:TB)(ns:List ByteArray)(ps:List Plc)(w:World)(e:Ending)(w':World):Prop:=
 e = .returned (.tuple #[])/\But C w w'/\∃ (rS:SlV) (rM:Option Nat) (rl:List qY),qd w' C 85 { tb with rS:=rS,rM:=rM }.cells/\xF w.heap.size C w' { tb with rS:=rS,rM:=rM } ns ps rl/\∀x,x∈rl->zh w' x.laps (yE ps x.plc)
theorem qez(C:Nat)(m:MV)(cS:SlV)(cM:Option Nat)(oS:SlV)(oM:Option Nat)(ag:SlV)(rs:Int)(sv sr:SlV)(E:List qA)(w:World)
 (hC:qd w C 85 (TB.mk m ⟨none,0,0⟩ none cS cM oS oM ag rs sv sr).cells) (KP:Calls prog 74 #[.slice m.regs.a m.regs.n m.regs.c] w (jh w E))
 (hlen:E.length<=200) (hok:∀x,x∈E->xT x.place) (hnd:(E.map (·.name)).Nodup) (hsz:∀x,x∈E->x.name.size<=281474976710656) :
 Calls prog 32 #[.pointer (some ⟨C,0,none⟩)] w (ZT C (TB.mk m ⟨none,0,0⟩ none cS cM oS oM ag rs sv sr) (E.map (·.name)) (E.map qA.place) w):=by
 have c1:=hC.cell (j:=1) (v:=.slice m.regs.a m.regs.n m.regs.c) rfl
 have hwl:=hC.lt
 replace hok:=vH hok
 replace hnd:=vH hnd
 replace hsz:=vH hsz
 go_enter func32,ntmps32
 go_wp2_with (go_at_call 74;refine KP.mono ?_;clear KP;rintro e W1 ⟨nV,pV,rfl,hn,hp,hb⟩;obtain⟨na,nc,rfl⟩:=qx hn;obtain⟨pa,pc,rfl⟩:=qx hp)
 have hC1:=hC.below hb hwl
 have hn':=vH hn
 have hp':=vH hp
 clear hn hp c1 hC
 go_loopw [21] (fun i wr=>∃ (k:Nat) (rS:SlV) (rM:Option Nat),k<=E.length/\i = .int .i64 k/\qd wr C 85 (TB.mk m rS rM cS cM oS oM ag rs sv sr).cells/\qF w.heap.size C w wr/\qt [85,95] W1 wr/\wr.ownsRow w.heap.size 95 5 rS.v k (((E.take k).map ye).flatMap fun x=>x.v.toList)/\xI w.heap.size wr rM ((E.take k).map (·.name))) (fun i _=>E.length-(intOf i).toNat)
 case atStart=>exact⟨0,⟨none,0,0⟩,none,vO _,rfl,hC1,.of hb,qt.refl _ _,by simpa[SlV.v] using kO _ _ _ _,.inl ⟨rfl,rfl⟩⟩
 case round=>
  clear hC1
  obtain⟨k,rS,rM,hk,rfl,hCr,hBr,hSr,hrow,hM⟩:=hrel
  have k0:(0:Int)<=k:=vN _
  by_cases hlt:k<E.length
  ·obtain⟨x,hxk⟩:∃x,E[k]?=some x:=⟨E[k],vE hlt⟩
   have hmem:=vM hxk
   have hnr:=vH (hSr.row hn'.out (by decide))
   have hpr:=vH (hSr.row hp'.out (by decide))
   obtain⟨nb,e1,q0⟩:=zj (s:=⟨na,E.length,nc⟩) hnr.out (j:=k) (v:=.string x.name) (by rw[vY,hxk];rfl)
   obtain⟨g0,g1,g2⟩:=jH (ps:=E.map qA.place) (i:=k) (p:=x.place) (by rw[vY,hxk];rfl)
   obtain⟨pb,e2,p0⟩:=zj (s:=⟨pa,E.length,pc⟩) hpr.out g0
   obtain⟨pb1,e3,p1⟩:=zj (s:=⟨pa,E.length,pc⟩) hpr.out g1
   obtain⟨pb2,e4,p2⟩:=zj (s:=⟨pa,E.length,pc⟩) hpr.out g2
   dsimp only at e1 e2 e3 e4
   subst e1
   subst e2
   cases e3
   cases e4
   have hi:IntKind.i64.wrap ((k:Int)+1)=k+1:=vI _ (by omega)
   have k1:(k:Int)<E.length:=by omega
   have hbx:BX wr (wr.alloc (.cells #[.int .i64 x.place.1,.int .i64 x.place.2.1,.int .i64 x.place.2.2] 87)):=qi
   have hBs:=hBr.size
   have htk1:Hid ((E.take (k+1)).map ye=(E.take k).map ye++[ye x]):=vH (by rw[vX,hxk,kM];rfl)
   have htk2:Hid ((E.take (k+1)).map (·.name)=(E.take k).map (·.name)++[x.name]):=vH (by rw[vX,hxk,kM];rfl)
   have hno:x.name∉(E.take k).map (·.name):=by
    have h1:=hnd.out
    rw[←List.take_append_drop (k+1) E,kM,htk2.out] at h1
    have h2:=(List.nodup_append.1 h1).1
    have h3:=List.nodup_append.1 h2
    intro hm
    exact h3.2.2 _ hm _ (List.mem_singleton.2 rfl) rfl
   have K:∀W,BX wr W->Calls prog 75 #[.pointer (some ⟨C,8,none⟩),.string x.name,.agg (ye x).v] W
    (xV 95 5 w.heap.size C (fun s M=>{ TB.mk m rS rM cS cM oS oM ag rs sv sr with rS:=s,rM:=M }) k (((E.take k).map ye).flatMap (fun x=>x.v.toList)++(ye x).v.toList) ((E.take k).map (·.name)++[x.name]) W):=fun W hb=>
    qhK w.heap.size C (TB.mk m rS rM cS cM oS oM ag rs sv sr) k _ _ x.name (ye x) W (hCr.below hb hCr.lt) (vR hBs hb.size) (qe hrow hb) (by rw[vP,List.length_take];omega) (by omega) (hM.below hb) hno (hsz.out x hmem)
   have hrel2:∀W W',BX wr W->∀e,xV 95 5 w.heap.size C (fun s M=>{ TB.mk m rS rM cS cM oS oM ag rs sv sr with rS:=s,rM:=M }) k (((E.take k).map ye).flatMap (fun x=>x.v.toList)++(ye x).v.toList) ((E.take k).map (·.name)++[x.name]) W e W' ->
    e = .returned (.tuple #[])/\∃ (rS:SlV) (rM:Option Nat),qd W' C 85 (TB.mk m rS rM cS cM oS oM ag rs sv sr).cells/\qF w.heap.size C w W'/\qt [85,95] W1 W'/\W'.ownsRow w.heap.size 95 5 rS.v (k+1) (((E.take (k+1)).map ye).flatMap fun x=>x.v.toList)/\xI w.heap.size W' rM ((E.take (k+1)).map (·.name)):=fun W W' hb e ⟨he,a1,a2,s,M,a3,a4,a5⟩=>
    ⟨he,s,M,a3,(hBr.step hb (vL _)).trans a1,(hSr.trans (qt.of_below hb)).trans a2,by
     rw[htk1.out,List.flatMap_append]
     simpa using a4,by rw[htk2.out];exact a5⟩
   have c8:=hCr.cell (j:=8) (v:=.slice rS.a rS.n rS.c) rfl
   replace K:=vH K
   replace hrel2:=vH hrel2
   have hrg:(ye x).v=#[.string x.name,.int .i64 x.place.1,.int .i64 x.place.2.1,.int .i64 x.place.2.2,.slice none 0 0]:=rfl
   rw[hrg] at K hrel2
   clear hrg
   have pxn:∃xn,xn=x.name:=⟨_,rfl⟩
   generalize x.name=xn at *
   generalize x.place=xp at *
   obtain⟨xp0,xp1,xp2⟩:=xp
   dsimp only at *
   have hpl:=qd.new wr 87 #[.int .i64 xp0,.int .i64 xp1,.int .i64 xp2]
   have hCrl:=hCr.lt
   clear hxk hmem g0 g1 g2 hno hnr hpr hrow hM hCr pxn
   have q0':=qb hbx q0
   go_wp2_with fail
   have y0:=hpl.cell (j:=0) (v:=.int .i64 xp0) rfl
   have y1:=hpl.cell (j:=1) (v:=.int .i64 xp1) rfl
   have y2:=hpl.cell (j:=2) (v:=.int .i64 xp2) rfl
   generalize wr.alloc (.cells #[.int .i64 xp0,.int .i64 xp1,.int .i64 xp2] 87)=W2 at *
   go_still_tail 13,(by kernel_rfl)
   change wpList _ _ _ _ _ W2.drew
   go_wp2_with (go_at_call 75;refine(K.out _ hbx.drew).mono ?_;intro e W3 hap;obtain⟨rfl,hap2⟩:=hrel2.out _ _ hbx.drew _ hap;clear hap;replace hap2:=vH hap2)
   obtain⟨rS',rM',b1,b2,b3,b4,b5⟩:=hap2.out
   exact⟨⟨k+1,rS',rM',by omega,by go_num,b1,b2,b3,b4,b5⟩,by simp[intOf];omega⟩
  ·obtain rfl:k=E.length:=by omega
   rw[List.take_length] at hrow hM
   have hpr:=vH (hSr.row hp'.out (by decide))
   have hmd:E.map ye=E.map ye:=rfl
   have hR0:xF w.heap.size C wr (TB.mk m rS rM cS cM oS oM ag rs sv sr) (E.map (·.name)) (E.map qA.place) (E.map ye):=⟨by rw[vP];exact hrow,hM,by rw[List.map_map];rfl,by rw[List.map_map];rfl⟩
   replace hR0:=vH hR0
   clear hrow hM hmd hSr
   go_wp2_with fail
   generalize wr=w1 at *
   go_loopw [43] (fun i wr=>∃ (k:Nat) (rl:List qY),k<=E.length/\i = .int .i64 k/\qd wr C 85 (TB.mk m rS rM cS cM oS oM ag rs sv sr).cells/\qF w.heap.size C w wr/\qt [95] w1 wr/\Hid (xF w.heap.size C wr (TB.mk m rS rM cS cM oS oM ag rs sv sr) (E.map (·.name)) (E.map qA.place) rl)/\Hid (∀ (i:Nat) x,i<k->rl[i]?=some x->zh wr x.laps (yE (E.map qA.place) x.plc))) (fun i _=>E.length-(intOf i).toNat)
   case atStart=>exact⟨0,E.map ye,vO _,rfl,hCr,hBr,qt.refl _ _,hR0,vH fun i x h=>absurd h (Nat.not_lt_zero _)⟩
   case round=>
    clear hR0 hBr
    have hCr0:=hCr.lt
    clear hCr
    obtain⟨k,rl,hk,rfl,hCq,hBq,hSq,hR,hL⟩:=hrel
    have k0:(0:Int)<=k:=vN _
    have hrll:rl.length=E.length:=by
     have:=congrArg List.length hR.out.names
     simpa using this
    by_cases hlt:k<E.length
    ·obtain⟨x,hxk⟩:∃x,E[k]?=some x:=⟨E[k],vE hlt⟩
     have hmem:=vM hxk
     obtain⟨y,hyk⟩:∃y,rl[k]?=some y:=⟨rl[k],vE (by omega)⟩
     have hyp:y.plc=x.place:=by
      have:=congrArg (fun l:List Plc=>l[k]?) hR.out.places
      simpa[vY,hyk,hxk] using this
     obtain⟨g0,g1,g2⟩:=jH (ps:=E.map qA.place) (i:=k) (p:=x.place) (by rw[vY,hxk];rfl)
     have hpq:=hSq.row hpr.out (by decide)
     obtain⟨pb,e2,p0⟩:=zj (s:=⟨pa,E.length,pc⟩) hpq g0
     obtain⟨pb1,e3,p1⟩:=zj (s:=⟨pa,E.length,pc⟩) hpq g1
     obtain⟨pb2,e4,p2⟩:=zj (s:=⟨pa,E.length,pc⟩) hpq g2
     dsimp only at e2 e3 e4
     subst e2
     cases e3
     cases e4
     obtain⟨gb,e5,_⟩:=zj hR.out.row (ze (f:=fun x:qY=>x.v.toList) (size:=5) (fun _=>rfl) hyk (r:=4) (v:=.slice y.laps.a y.laps.n y.laps.c) rfl)
     dsimp only at e5
     have hrn:=(jk hR.out.row).1
     dsimp only at hrn
     obtain⟨ra,rn,rc⟩:=rS
     dsimp only at e5 hrn
     subst e5
     subst hrn
     have hi:IntKind.i64.wrap ((k:Int)+1)=k+1:=vI _ (by omega)
     have k1:(k:Int)<E.length:=by omega
     have k2:(k:Int)<rl.length:=by omega
     have hbx:BX wr (wr.alloc (.cells #[.int .i64 x.place.1,.int .i64 x.place.2.1,.int .i64 x.place.2.2] 87)):=qi
     have hpl:=qd.new wr 87 #[.int .i64 x.place.1,.int .i64 x.place.2.1,.int .i64 x.place.2.2]
     have hBs:=hBq.size
     have hokx:=hok.out x hmem
     have hqall:∀q,q∈rl->xT q.plc:=fun q hq=>by
      have:q.plc∈rl.map qY.plc:=vQ hq
      rw[hR.out.places] at this
      obtain⟨z,hz,hze⟩:=List.mem_map.1 this
      rw[←hze];exact hok.out z hz
     have hthp:Ze rl (zR x.place)=yE (E.map qA.place) x.place:=by
      funext n
      rw[qba,hR.out.places];rfl
     have K:∀W,Below (wr.alloc (.cells #[.int .i64 x.place.1,.int .i64 x.place.2.1,.int .i64 x.place.2.2] 87)).heap.size (wr.alloc (.cells #[.int .i64 x.place.1,.int .i64 x.place.2.1,.int .i64 x.place.2.2] 87)) W ->
      Calls prog 76 #[.pointer (some ⟨C,0,none⟩),.func (.func 77) #[] #[.pointer (some ⟨wr.heap.size,0,none⟩)]] W (xj (yE (E.map qA.place) x.place) W):=fun W hb=>by
      have hA:=hbx.trans (hb.mono hbx.size)
      have:=qjE C wr.heap.size (TB.mk m ⟨some ⟨gb,0,none⟩,rl.length,rc⟩ rM cS cM oS oM ag rs sv sr) rl (zR x.place) W (hCq.below hA hCq.lt) (xH.of_row (qe hR.out.row hA)) (by omega) (fun W' hb' q hq=>qlx x.place q.plc wr.heap.size W' hokx (hqall q hq) ((hpl.below hb hpl.lt).below hb' (hpl.below hb hpl.lt).lt))
      rw[hthp] at this
      exact this
     have hP:∀W s,BX wr W->zh W s (yE (E.map qA.place) x.place) ->
      (W.cell? ⟨C,8,none⟩=some (.slice (some ⟨gb,0,none⟩) rl.length rc)/\W.cell? ⟨gb,k*5+4,none⟩=some (.slice y.laps.a y.laps.n y.laps.c)/\W.frozen? ⟨gb,k*5+4,none⟩=false/\gb≠C) /\
      (qd (W.setCell ⟨gb,k*5+4,none⟩ (.slice s.a s.n s.c)) C 85 (TB.mk m ⟨some ⟨gb,0,none⟩,rl.length,rc⟩ rM cS cM oS oM ag rs sv sr).cells/\qF w.heap.size C w (W.setCell ⟨gb,k*5+4,none⟩ (.slice s.a s.n s.c))/\qt [95] w1 (W.setCell ⟨gb,k*5+4,none⟩ (.slice s.a s.n s.c)) /\
        xF w.heap.size C (W.setCell ⟨gb,k*5+4,none⟩ (.slice s.a s.n s.c)) (TB.mk m ⟨some ⟨gb,0,none⟩,rl.length,rc⟩ rM cS cM oS oM ag rs sv sr) (E.map (·.name)) (E.map qA.place) (rl.set k { y with laps:=s }) /\
        ∀ (i:Nat) z,i<k+1->(rl.set k { y with laps:=s })[i]?=some z->zh (W.setCell ⟨gb,k*5+4,none⟩ (.slice s.a s.n s.c)) z.laps (yE (E.map qA.place) z.plc)):=fun W s hb hset=>by
      have hCW:=hCq.below hb hCq.lt
      have hrW:=qe hR.out.row hb
      have hgb:w.heap.size<=gb/\∃cur,qd W gb 95 cur:=qf hrW rfl
      obtain⟨hgb1,cur,hgc⟩:=hgb
      have hne:gb≠C:=fun e=>by
       rw[e] at hgc
       have h2:=Option.some.inj ((show W.heap[C]?=_ from hgc).symm.trans (show W.heap[C]?=_ from hCW))
       injection h2 with _ ht _
       exact absurd ht (by decide)
      obtain⟨gb',e6,hcell⟩:=zj hrW (ze (f:=fun x:qY=>x.v.toList) (size:=5) (fun _=>rfl) hyk (r:=4) (v:=.slice y.laps.a y.laps.n y.laps.c) rfl)
      dsimp only at e6
      cases e6
      have hst:=World.ownsRow.stored (g:=gb) (cap:=rc) (n:=rl.length) hrW (k*5+4) (.slice s.a s.n s.c)
      have hSet:qt [95] W (W.setCell ⟨gb,k*5+4,none⟩ (.slice s.a s.n s.c)):=qt.of_set hgc (by simp) _ _
      have hbB:qF w.heap.size C w W:=hBq.step hb (vL _)
      refine⟨⟨hCW.cell rfl,hcell,hgc.frozen _,hne⟩,hCW.other (Ne.symm hne) _,hbB.setUp hgb1 _,(hSq.trans (qt.of_below hb)).trans hSet,⟨?_,?_,?_,?_⟩,?_⟩
      ·rw[List.length_set,qey (f:=fun x:qY=>x.v.toList) (size:=5) (fun _=>rfl) hyk (r:=4) (v:=.slice s.a s.n s.c) (by omega) rfl]
       exact hst.1
      ·have hm:=hR.out.map.below hb
       refine hm.imp id fun⟨B,D,h1,h2,h3,h4⟩=>⟨B,D,h1,h2,Qm h3 (Below.heap_setCell W ⟨gb,k*5+4,none⟩ _ B (fun e=>?_)),h4⟩
       obtain⟨es,ck,h5,_⟩:=h3
       dsimp only at e
       rw[e,show W.heap[gb]?=_ from hgc] at h5
       cases h5
      ·rw[Yb (y:={ y with laps:=s }) hyk rfl];exact hR.out.names
      ·rw[Yb (y:={ y with laps:=s }) hyk rfl];exact hR.out.places
      ·intro i z hi hz
       rw[List.getElem?_set] at hz
       by_cases he:k=i
       ·rw[if_pos he] at hz
        split at hz
        ·cases hz
         show zh _ s (yE _ y.plc)
         rw[hyp]
         exact hSet.set hset (by decide)
        ·cases hz
       ·rw[if_neg he] at hz
        exact hSet.set ((hL.out i z (by omega) hz).below hb) (by decide)
     have hmf:∀ (fn:Fn) (first cap:Array Value) (w:World),(Instr.makeFunc fn first cap).run prog w = .ok (.func fn first cap) w:=fun _ _ _ _=>rfl
     have c8:(wr.alloc (.cells #[.int .i64 x.place.1,.int .i64 x.place.2.1,.int .i64 x.place.2.2] 87)).cell? ⟨C,8,none⟩=some (.slice (some ⟨gb,0,none⟩) rl.length rc):=(hCq.below hbx hCq.lt).cell rfl
     have hb0:Below (wr.alloc (.cells #[.int .i64 x.place.1,.int .i64 x.place.2.1,.int .i64 x.place.2.2] 87)).heap.size (wr.alloc (.cells #[.int .i64 x.place.1,.int .i64 x.place.2.1,.int .i64 x.place.2.2] 87)) (wr.alloc (.cells #[.int .i64 x.place.1,.int .i64 x.place.2.1,.int .i64 x.place.2.2] 87)).drew:=(kB _ _).drew
     replace K:=vH K
     replace hP:=vH hP
     generalize yE (E.map qA.place) x.place=LP at *
     generalize x.place=xp at *
     obtain⟨xp0,xp1,xp2⟩:=xp
     dsimp only at *
     clear hxk hmem hyk g0 g1 g2 hpq hR hL hCq hBq hSq hqall hthp hyp hokx hpl hrll
     go_wp2_with fail
     generalize wr.alloc (.cells #[.int .i64 xp0,.int .i64 xp1,.int .i64 xp2] 87)=W2 at *
     go_region_held3 (fun w'=>w'.cell? ⟨C,8,none⟩=some (.slice (some ⟨gb,0,none⟩) rl.length rc))
      (go_keep)
      ((first
        |(go_at_call 76;refine(K.out _ hb0).mono ?_;rintro e W3 ⟨hb3,⟨za,zn,zc⟩,rfl,hset⟩;obtain⟨⟨r0,r1,r2,r3⟩,hfin⟩:=hP.out _ _ (hbx.trans ((hb0.trans hb3).mono hbx.size)) hset;replace hfin:=vH hfin;clear hset)))
     go_wp2_with fail
     obtain⟨f1,f2,f3,f4,f5⟩:=hfin.out
     exact⟨⟨k+1,_,by omega,by go_num,f1,f2,f3,vH f4,vH f5⟩,by simp[intOf];omega⟩
    ·obtain rfl:k=E.length:=by omega
     have hfin:Hid (ZT C (TB.mk m ⟨none,0,0⟩ none cS cM oS oM ag rs sv sr) (E.map (·.name)) (E.map qA.place) w (.returned (.tuple #[])) wr):=vH ⟨rfl,hBq,rS,rM,rl,hCq,hR.out,fun x hx=>by
      obtain⟨i,hi⟩:=List.getElem?_of_mem hx
      exact hL.out i x (by have:=(vS.1 hi).1;omega) hi⟩
     clear hCq hBq hSq hR hL
     go_wp2_with fail
     go_end0
     exact hfin.out
def xy(ns l:List ByteArray):List Int:=l.map (xG ns)
structure jg(base:Nat)(W:World)(cS:SlV)(cM:Option Nat)(ns:List ByteArray)(ps:List Plc)(ks:List qp)(cl:List zZ):Prop where
 row:W.ownsRow base 126 3 cS.v cl.length (cl.flatMap fun x=>x.v.toList)
 map:xI base W cM (ks.map (·.name))
 len:cl.length=ks.length
 each:∀ (i:Nat) x k,cl[i]?=some x->ks[i]?=some k->qN W x.list (xy ns k.regs)/\zh W x.set (ofP (xy ns k.regs))/\x.width=(plc ps ((xy ns k.regs).headD 0)).2.2
theorem jg.below{base:Nat}{W W':World}{cS:SlV}{cM:Option Nat}{ns:List ByteArray}{ps:List Plc}{ks:List qp}{cl:List zZ}(h:jg base W cS cM ns ps ks cl)(hb:BX W W'):jg base W' cS cM ns ps ks cl:=
 ⟨qe h.row hb,h.map.below hb,h.len,fun i x k hx hk=>by obtain⟨h1,h2,h3⟩:=h.each i x k hx hk;exact⟨h1.below hb,h2.below hb,h3⟩⟩
def XA(C:Nat)(tb:TB)(ns:List ByteArray)(ps:List Plc)(ks:List qp)(w:World)(e:Ending)(w':World):Prop:=
 e = .returned (.tuple #[])/\But C w w'/\∃ (cS:SlV) (cM:Option Nat) (cl:List zZ),qd w' C 85 { tb with cS:=cS,cM:=cM }.cells/\jg w.heap.size w' cS cM ns ps ks cl
theorem qhR(a b c:Int)(w:World):(Instr.field 87 (.agg #[.int .i64 a,.int .i64 b,.int .i64 c]) 2).run prog w = .ok (.int .i64 c) w:=by kernel_rfl
theorem xF.below{base C:Nat}{W W':World}{tb:TB}{ns:List ByteArray}{ps:List Plc}{rl:List qY}(h:xF base C W tb ns ps rl)(hb:BX W W'):xF base C W' tb ns ps rl:=
 ⟨qe h.row hb,h.map.below hb,h.names,h.places⟩
theorem xF.but{base C:Nat}{W W':World}{tb:TB}{ns:List ByteArray}{ps:List Plc}{rl:List qY}(h:xF base C W tb ns ps rl)(hC:qd W C 85 tb.cells)(hb:But C W W'):xF base C W' tb ns ps rl:=
 ⟨h.row.kept (row:=some C) ⟨hb.os,hb.tape,hb.output,hb.size,fun k hk hn=>hb.block k hk (fun e=>hn (by rw[e]))⟩ (by
  by_cases h0:tb.rS.v.ownBlock=none
  ·exact .inl h0
  ·refine .inr fun e=>?_
   obtain⟨_,cur,hc⟩:=qf h.row e
   have h2:=Option.some.inj ((show W.heap[C]?=_ from hc).symm.trans (show W.heap[C]?=_ from hC))
   injection h2 with _ ht _
   exact absurd ht (by decide)),h.map.but hC hb,h.names,h.places⟩
theorem xF.at_{base C:Nat}{W:World}{tb:TB}{ns:List ByteArray}{ps:List Plc}{rl:List qY}(h:xF base C W tb ns ps rl):xH W tb.rS rl:=xH.of_row h.row
theorem ZU{rl:List qY}{ps:List Plc}(h:rl.map qY.plc=ps){a:Int}(ha:0<=a):(zJ rl a).plc=plc ps a:=by
 unfold zJ plc
 rw[if_pos ha,←h]
 simp only[vG,vY]
 cases rl[a.toNat]? <;> rfl
theorem qcZ(ns:List ByteArray)(s:ByteArray):0<=xG ns s:=by unfold xG;omega
theorem qfX(C base:Nat)(m:MV)(rS:SlV)(rM:Option Nat)(oS:SlV)(oM:Option Nat)(ag:SlV)(rs:Int)(sv sr:SlV)(ns:List ByteArray)(ps:List Plc)(rl:List qY)(ks:List qp)(w:World)
 (hC:qd w C 85 (TB.mk m rS rM ⟨none,0,0⟩ none oS oM ag rs sv sr).cells) (hR:xF base C w (TB.mk m rS rM ⟨none,0,0⟩ none oS oM ag rs sv sr) ns ps rl)
 (hK:∀W,But C w W->qS W m.classes ks) (hlen:ks.length<=1000) (hnd:(ks.map (·.name)).Nodup)
 (hfit:∀k,k∈ks->k.name.size<=281474976710656/\k.regs ≠ []/\k.regs.length<=1000/\∀s,s∈k.regs->s.size<=281474976710656) :
 Calls prog 33 #[.pointer (some ⟨C,0,none⟩)] w (XA C (TB.mk m rS rM ⟨none,0,0⟩ none oS oM ag rs sv sr) ns ps ks w):=by
 obtain⟨mn,mrg,⟨ka,kn,kc⟩,mop,mar,mrs,msv,msl⟩:=m
 have hkn:=(hK w (qF.refl _ _ _)).1
 have hkc:=(hK w (qF.refl _ _ _)).2.1
 dsimp only at hkn hkc
 subst hkn
 have c2:=hC.cell (j:=2) (v:=.slice ka ks.length kc) rfl
 have hwl:=hC.lt
 have hC0:=vH hC
 replace hK:=vH hK
 replace hnd:=vH hnd
 replace hfit:=vH hfit
 have hR0:=vH hR
 clear hR
 go_enter func33,ntmps33
 go_wp2_with fail
 go_loopw [11] (fun i wr=>∃ (k:Nat) (cS:SlV) (cM:Option Nat) (cl:List zZ),k<=ks.length/\i = .int .i64 k/\qd wr C 85 (TB.mk ⟨mn,mrg,⟨ka,ks.length,kc⟩,mop,mar,mrs,msv,msl⟩ rS rM cS cM oS oM ag rs sv sr).cells/\qF w.heap.size C w wr/\Hid (jg w.heap.size wr cS cM ns ps (ks.take k) cl)) (fun i _=>ks.length-(intOf i).toNat)
 case atStart=>exact⟨0,⟨none,0,0⟩,none,[],vO _,rfl,hC,qF.refl _ _ _,vH ⟨by simpa[SlV.v] using kO _ _ _ _,.inl ⟨rfl,rfl⟩,rfl,fun i x k hx _=>by simp at hx⟩⟩
 case round=>
  clear hC c2
  obtain⟨k,cS,cM,cl,hk,rfl,hCr,hBr,hI⟩:=hrel
  have k0:(0:Int)<=k:=vN _
  by_cases hlt:k<ks.length
  ·obtain⟨x,hxk⟩:∃x,ks[k]?=some x:=⟨ks[k],vE hlt⟩
   have hmem:=vM hxk
   obtain⟨f1,f2,f3,f4⟩:=hfit.out x hmem
   obtain⟨b,o,e0,⟨qa,qn,qc⟩,q0,q1,hsr⟩:=(hK.out wr hBr).2.2 k x hxk
   dsimp only at e0 q0 q1
   subst e0
   have hi:IntKind.i64.wrap ((k:Int)+1)=k+1:=vI _ (by omega)
   have k1:(k:Int)<ks.length:=by omega
   have hBs:=hBr.size
   have hbx:BX wr (wr.alloc (.cells #[.string x.name,.slice qa qn qc] 42)):=qi
   have htk:Hid (ks.take (k+1)=ks.take k++[x]):=vH (by rw[vX,hxk];rfl)
   have hno:x.name∉(ks.take k).map (·.name):=by
    have h1:=hnd.out
    rw[←List.take_append_drop (k+1) ks,kM,htk.out,kM] at h1
    have h2:=(List.nodup_append.1 h1).1
    have h3:=List.nodup_append.1 h2
    intro hm
    exact h3.2.2 _ hm _ (List.mem_singleton.2 rfl) rfl
   have hRr:xF base C wr (TB.mk ⟨mn,mrg,⟨some ⟨b,o,none⟩,ks.length,kc⟩,mop,mar,mrs,msv,msl⟩ rS rM ⟨none,0,0⟩ none oS oM ag rs sv sr) ns ps rl:=hR0.out.but hC0.out hBr
   have hcll:cl.length=k:=by rw[hI.out.len,List.length_take];omega
   have Kn:∀W,BX wr W->Calls prog 79 #[.pointer (some ⟨C,0,none⟩),.slice qa qn qc] W fun e w'=>∃s':SlV,e = .returned (.slice s'.a s'.n s'.c)/\BX W w'/\w'.ownsRow W.heap.size 3 1 s'.v x.regs.length ((xy ns x.regs).map (Value.int .i64)):=fun W hb=>
    ZS C base (TB.mk ⟨mn,mrg,⟨some ⟨b,o,none⟩,ks.length,kc⟩,mop,mar,mrs,msv,msl⟩ rS rM cS cM oS oM ag rs sv sr) ns ⟨qa,qn,qc⟩ x.regs W (hCr.below hb hCr.lt) (hRr.map.below hb) (hsr.below hb) (by omega) f4
   have Kp:∀W (a:Int),BX wr W->0<=a->Calls prog 40 #[.pointer (some ⟨C,0,none⟩),.int .i64 a] W fun e w'=>e = .returned (.agg #[.int .i64 (zJ rl a).root,.int .i64 (zJ rl a).at_,.int .i64 (plc ps a).2.2])/\BX W w':=fun W a hb ha=>by
    have hCW:=hCr.below hb hCr.lt
    have:=qaS C rS (.map rM) rl a W (hCW.cell rfl) (hCW.cell rfl) (hRr.below hb).at_
    have h2:(zJ rl a).width=(plc ps a).2.2:=congrArg (fun p:Plc=>p.2.2) (ZU hRr.places ha)
    rw[h2] at this
    exact this
   have Ka:∀W s st wd,BX wr W->Calls prog 80 #[.pointer (some ⟨C,10,none⟩),.string x.name,.agg (zZ.mk s st wd).v] W
    (xV 126 3 w.heap.size C (fun s M=>TB.mk ⟨mn,mrg,⟨some ⟨b,o,none⟩,ks.length,kc⟩,mop,mar,mrs,msv,msl⟩ rS rM s M oS oM ag rs sv sr) k (cl.flatMap (fun x=>x.v.toList)++(zZ.mk s st wd).v.toList) ((ks.take k).map (·.name)++[x.name]) W):=fun W s st wd hb=>
    qhL w.heap.size C (TB.mk ⟨mn,mrg,⟨some ⟨b,o,none⟩,ks.length,kc⟩,mop,mar,mrs,msv,msl⟩ rS rM cS cM oS oM ag rs sv sr) k _ _ x.name (zZ.mk s st wd) W (hCr.below hb hCr.lt) (vR hBs hb.size) (by rw[←hcll];exact qe hI.out.row hb) (by rw[vP,List.length_take];omega) (by omega) (hI.out.map.below hb) hno f1
   have hend:∀W W' s st wd e,BX wr W->qN W s (xy ns x.regs)->zh W st (ofP (xy ns x.regs))->wd=(plc ps ((xy ns x.regs).headD 0)).2.2 ->
    xV 126 3 w.heap.size C (fun s M=>TB.mk ⟨mn,mrg,⟨some ⟨b,o,none⟩,ks.length,kc⟩,mop,mar,mrs,msv,msl⟩ rS rM s M oS oM ag rs sv sr) k (cl.flatMap (fun x=>x.v.toList)++(zZ.mk s st wd).v.toList) ((ks.take k).map (·.name)++[x.name]) W e W' ->
    e = .returned (.tuple #[])/\qt [85,126] W W'/\∃ (cS:SlV) (cM:Option Nat) (cl:List zZ),qd W' C 85 (TB.mk ⟨mn,mrg,⟨some ⟨b,o,none⟩,ks.length,kc⟩,mop,mar,mrs,msv,msl⟩ rS rM cS cM oS oM ag rs sv sr).cells/\qF w.heap.size C w W'/\jg w.heap.size W' cS cM ns ps (ks.take (k+1)) cl:=fun W W' s st wd e hb h1 h2 h3 ⟨he,a1,a2,s2,M2,a3,a4,a5⟩=>by
    have hI2:=hI.out.below hb
    refine⟨he,a2,s2,M2,cl++[zZ.mk s st wd],a3,(hBr.step hb (vL _)).trans a1,⟨?_,?_,?_,?_⟩⟩
    ·rw[kA,List.length_singleton,hcll,List.flatMap_append]
     simpa using a4
    ·rw[htk.out,kM];exact a5
    ·rw[htk.out,kA,kA,hI2.len];rfl
    ·intro i y z hy hz
     rw[htk.out] at hz
     by_cases hik:i<k
     ·rw[List.getElem?_append_left (by rw[hcll];exact hik)] at hy
      rw[List.getElem?_append_left (by rw[List.length_take];omega)] at hz
      obtain⟨g1,g2,g3⟩:=hI2.each i y z hy hz
      exact⟨a2.row g1 (by decide),a2.set g2 (by decide),g3⟩
     ·have hyl:=(vS.1 hy).1
      rw[kA,List.length_singleton,hcll] at hyl
      have hik2:i=k:=by omega
      subst hik2
      rw[kR (by rw[hcll];exact vL _),hcll,Nat.sub_self] at hy
      rw[kR (by rw[List.length_take];omega),List.length_take,Nat.min_eq_left (by omega),Nat.sub_self] at hz
      cases hy
      cases hz
      exact⟨a2.row h1 (by decide),a2.set h2 (by decide),h3⟩
   have hxn:∃n:Nat,n=x.regs.length/\0<n/\n<=1000:=⟨_,rfl,List.length_pos_iff.2 f2,f3⟩
   obtain⟨nn,hnn,hn0,hn1⟩:=hxn
   have hnl:(xy ns x.regs).length=nn:=by unfold xy;rw[vP,hnn]
   have hhd:∃h,(xy ns x.regs)[0]?=some h/\(xy ns x.regs).headD 0=h/\0<=h:=by
    cases hx:x.regs with
    | nil=>exact absurd hx f2
    | cons a t=>exact⟨xG ns a,rfl,rfl,qcZ ns a⟩
   obtain⟨hd,hd1,hd2,hd3⟩:=hhd
   rw[←hnn] at Kn
   rw[hd2] at hend
   simp only[zZ.v] at Ka hend
   replace Kn:=vH Kn
   replace Kp:=vH Kp
   replace Ka:=vH Ka
   replace hend:=vH hend
   generalize xy ns x.regs=V at *
   generalize x.name=xn at *
   have hcb:=qd.new wr 42 #[.string xn,.slice qa qn qc]
   replace hcb:=vH hcb
   replace hnl:=vH hnl
   replace hd1:=vH hd1
   have hfd:=qhR
   have hn2:(0:Int)<nn:=by omega
   clear hxk hmem f1 f2 f3 f4 hsr hno hRr hcll hI hCr hnn hd2
   go_wp2_with (go_at_call 79;refine(Kn.out _ hbx).mono ?_;rintro e W2 ⟨⟨sa,sn,sc⟩,rfl,hb2,hrow⟩)
   have hA2:=hbx.trans (hb2.mono hbx.size)
   have hIR:qN W2 ⟨sa,sn,sc⟩ V:=by
    have:=qm hrow (vO _)
    unfold qN
    rw[hnl.out];exact this
   have hIA:=hIR.at_
   obtain⟨gb,g1,hh0⟩:=zj (s:=⟨sa,sn,sc⟩) hrow (j:=0) (v:=.int .i64 hd) (by rw[vY,hd1.out];rfl)
   dsimp only at g1
   subst g1
   have hsn:sn=nn:=(jk (s:=⟨some ⟨gb,0,none⟩,sn,sc⟩) hrow).1
   subst hsn
   have hrow':=vH hrow
   have hIR':=vH hIR
   have q0':=(hcb.out.below hb2 hcb.out.lt).cell (j:=0) (v:=.string xn) rfl
   have hcb2:=vH (hcb.out.below hb2 hcb.out.lt)
   have Ko:∀W,BX W2 W->Calls prog 81 #[.slice (some ⟨gb,0,none⟩) sn sc] W (xj (ofP V) W):=fun W hb=>qkH ⟨some ⟨gb,0,none⟩,sn,sc⟩ V W (hIR'.out.at_.below hb) (by rw[hnl.out];omega)
   have hread:∀W,BX W2 W->W.cell? ⟨wr.heap.size,0,none⟩=some (.string xn)/\W.cell? ⟨gb,0,none⟩=some (.int .i64 hd):=fun W hb=>⟨qb hb q0',qb hb hh0⟩
   have hA0:BX W2 W2.drew:=(kB _ _).drew
   have hS0:=hread _ (kB _ _)
   replace Ko:=vH Ko
   clear hrow hIR hIA
   go_region_held3 (fun w'=>w'.cell? ⟨wr.heap.size,0,none⟩=some (.string xn)/\w'.cell? ⟨gb,0,none⟩=some (.int .i64 hd))
    (go_keep)
    ((first
      |(go_at_call 81;refine(Ko.out _ hA0).mono ?_;rintro e W3 ⟨hb3,⟨ta,tn,tc⟩,rfl,hset⟩;have hA3:=hA0.trans hb3;have hS3:=hread _ hA3;replace hset:=vH hset)
      |(go_at_call 40;refine(Kp.out _ hd (hA2.trans (hA3.mono hA2.size)) hd3).mono ?_;rintro e W4 ⟨rfl,hb4⟩;have hA4:=hA3.trans (hb4.mono hA3.size);have hS4:=hread _ hA4)
      |(go_at_call 80;refine(Ka.out _ ⟨some ⟨gb,0,none⟩,sn,sc⟩ ⟨ta,tn,tc⟩ (plc ps hd).2.2 (hA2.trans (hA4.mono hA2.size))).mono ?_;intro e W5 hap;obtain⟨rfl,hst,hin⟩:=hend.out _ _ ⟨some ⟨gb,0,none⟩,sn,sc⟩ ⟨ta,tn,tc⟩ _ _ (hA2.trans (hA4.mono hA2.size)) (hIR'.out.below hA4) (hset.out.below hb4) rfl hap;clear hap;replace hin:=vH hin;have hS5:W5.cell? ⟨wr.heap.size,0,none⟩=some (.string xn)/\W5.cell? ⟨gb,0,none⟩=some (.int .i64 hd):=⟨(hst.block _ _ _ (by decide) (hcb2.out.below hA4 hcb2.out.lt)).cell rfl,by(have hr5:=hst.row (qe hrow'.out hA4) (by decide);obtain⟨gb',g5,hh5⟩:=zj (s:=⟨some ⟨gb,0,none⟩,sn,sc⟩) hr5 (j:=0) (v:=.int .i64 hd) (by rw[vY,hd1.out];rfl);cases g5;exact hh5)⟩)))
   go_wp2_with fail
   obtain⟨cS',cM',cl',b1,b2,b3⟩:=hin.out
   exact⟨⟨k+1,cS',cM',cl',by omega,by go_num,b1,b2,vH b3⟩,by simp[intOf];omega⟩
  ·obtain rfl:k=ks.length:=by omega
   rw[List.take_length] at hI
   have hfin:Hid (XA C (TB.mk ⟨mn,mrg,⟨ka,ks.length,kc⟩,mop,mar,mrs,msv,msl⟩ rS rM ⟨none,0,0⟩ none oS oM ag rs sv sr) ns ps ks w (.returned (.tuple #[])) wr):=vH ⟨rfl,hBr,cS,cM,cl,hCr,hI.out⟩
   clear hCr hBr hI
   go_wp2_with fail
   go_end0
   exact hfin.out
def yQ(ns kn:List ByteArray)(sets:List (Nat->Bool))(o:zL)(n:Nat):Bool:=(sets.getD (xG kn o.cls).toNat (fun _=>false)) n&&(o.fix.toList.isEmpty||ofP [xG ns o.fix] n)
theorem qhS(a:Option Addr)(n c:Nat)(la:Option Addr)(ln lc:Nat)(x:Int)(w:World):(Instr.field 126 (.agg #[.slice a n c,.slice la ln lc,.int .i64 x]) 1).run prog w = .ok (.agg #[.slice la ln lc]) w:=by kernel_rfl
theorem qhT(C base:Nat)(tb:TB)(ns kn:List ByteArray)(cl:List zZ)(sets:List (Nat->Bool))(o:zL)(w:World)(hC:qd w C 85 tb.cells)(hRm:xI base w tb.rM ns)(hCm:xI base w tb.cM kn)(hcl:Qn w tb.cS cl)
 (hsets:∀a:Int,0<=a->zh w (cl.getD a.toNat zZ.none).set (sets.getD a.toNat (fun _=>false))) (h1:o.cls.size<=281474976710656) (h2:o.fix.size<=281474976710656) :
 Calls prog 82 #[.pointer (some ⟨C,0,none⟩),.agg #[.string o.cls,.string o.fix]] w (xj (yQ ns kn sets o) w):=by
 obtain⟨oc,fx⟩:=o
 dsimp only at h1 h2 ⊢
 have hge:=qcZ kn oc
 have hset:=hsets _ hge
 have hch:Hid (yQ ns kn sets ⟨oc,fx⟩=fun n=>(sets.getD (xG kn oc).toNat (fun _=>false)) n&&(fx.toList.isEmpty||ofP [xG ns fx] n)):=vH rfl
 have K1:∀W,BX w W->Calls prog 133 #[.pointer (some ⟨C,0,none⟩),.string oc] W fun e w'=>e = .returned (.tuple #[.int .i64 (xG kn oc),.bool (qbG kn oc)])/\BX W w':=fun W hb=>qjB C base tb kn oc W (hC.below hb hC.lt) (hCm.below hb) h1
 have K2:∀W,BX w W->Calls prog 134 #[.agg #[.slice tb.cS.a tb.cS.n tb.cS.c,.map tb.cM],.int .i64 (xG kn oc)] W fun e w'=>e = .returned (.agg (cl.getD (xG kn oc).toNat zZ.none).v)/\BX W w':=fun W hb=>by
  have:=qjA tb.cS (.map tb.cM) cl (xG kn oc) W (hcl.below hb)
  rw[if_pos hge] at this
  exact this
 have K3:∀W b,BX w W->qd W b 9 #[.string fx]->Calls prog 79 #[.pointer (some ⟨C,0,none⟩),.slice (some ⟨b,0,none⟩) 1 1] W fun e w'=>∃s':SlV,e = .returned (.slice s'.a s'.n s'.c)/\BX W w'/\qJ w' s' [xG ns fx]:=fun W b hb hc=>
  (ZS C base tb ns ⟨some ⟨b,0,none⟩,1,1⟩ [fx] W (hC.below hb hC.lt) (hRm.below hb) ⟨rfl,vL _,fun j x hj=>by
    have hj0:j=0:=by have:=(vS.1 hj).1;simp at this;omega
    subst hj0
    cases hj
    exact⟨b,0,rfl,hc.cell rfl⟩⟩ (by simp) (fun x hx=>by rw[List.mem_singleton.1 hx];exact h2)).mono fun e w' ⟨s',he,hb',hr⟩=>⟨s',he,hb',qJ.of_row hr (by simp)⟩
 generalize sets.getD (xG kn oc).toNat (fun _=>false)=P at *
 generalize cl.getD (xG kn oc).toNat zZ.none=x at *
 obtain⟨⟨xa,xn,xc⟩,⟨ya,yn,yc⟩,xw⟩:=x
 simp only[zZ.v] at K2
 have hset':=vH hset
 obtain⟨w0,hw0⟩:∃w0,w0=(w.alloc (.cells #[.string oc,.string fx] 44)).alloc (.cells #[.slice none 0 0] 83):=⟨_,rfl⟩
 have hB0:BX w w0:=by rw[hw0];exact qi.alloc (by simp) _
 have hc1:qd w0 w.heap.size 44 #[.string oc,.string fx]:=by rw[hw0];exact(qd.new w _ _).alloc _
 have hc2:qd w0 (w.heap.size+1) 83 #[.slice none 0 0]:=by
  have:=qd.new (w.alloc (.cells #[.string oc,.string fx] 44)) 83 #[.slice none 0 0]
  rw[hw0];simpa using this
 have hCl:=hC.lt
 obtain⟨m,⟨ra,rn,rc⟩,rm,⟨ca,cn,cc⟩,cm,⟨oa,on,oc2⟩,om,ag,rs,sv,sr⟩:=tb
 have hread:∀W,BX w0 W->W.cell? ⟨w.heap.size,0,none⟩=some (.string oc)/\W.cell? ⟨w.heap.size,1,none⟩=some (.string fx)/\W.cell? ⟨w.heap.size+1,0,none⟩=some (.slice none 0 0)/\W.frozen? ⟨w.heap.size+1,0,none⟩=false/\W.cell? ⟨C,10,none⟩=some (.slice ca cn cc)/\W.cell? ⟨C,11,none⟩=some (.map cm):=fun W hb=>by
  have a:=hc1.below hb hc1.lt
  have b:=hc2.below hb hc2.lt
  have c:=hC.below (hB0.trans (hb.mono hB0.size)) hC.lt
  exact⟨a.cell rfl,a.cell rfl,b.cell rfl,b.frozen 0,c.cell rfl,c.cell rfl⟩
 have hwz:w0.heap.size=w.heap.size+1+1:=by rw[hw0];simp
 have hfd:=qhS
 have hS0:=hread _ (kB _ w0)
 dsimp only at K1 K2 K3
 clear hC hRm hCm hcl hsets hset hc1
 have hnx:Hid (w.heap.size+1+1=w0.heap.size):=vH hwz.symm
 clear hwz
 subst hw0
 by_cases hf:fx.toList = []
 ·have hr:Hid (yQ ns kn sets ⟨oc,fx⟩=P):=vH (by rw[hch.out];funext n;rw[hf];simp)
  clear hch K3
  rw[hr.out]
  go_enter func82,ntmps82
  go_wp2_with (first
   |(go_at_call 133;refine(K1 _ hB0).mono ?_;clear K1;rintro e W1 ⟨rfl,hb1⟩;have hS1:=hread W1 hb1;clear hS0)
   |(go_at_call 134;refine(K2 _ (hB0.trans (hb1.mono hB0.size))).mono ?_;clear K2;rintro e W2 ⟨rfl,hb2⟩;have hb12:=hb1.trans (hb2.mono hb1.size);obtain⟨r0,r1,r2,r3,r4,r5⟩:=hread W2 hb12;clear hS1;have hn2:=World.new_ne W2 _ r2;have hset2:=vH (hset'.out.below (hB0.trans (hb12.mono hB0.size)));have hcc2:=vH (hc2.below hb12 hc2.lt);have r1a:=fun o=>qk o r1;have r2a:=fun o=>qk o r2;have r3a:=fun o=>(hcc2.out.alloc o).frozen 0))
  (try simp only[Exit.inBlock,Exit.then])
  have hbe:BX w W2:=hB0.trans (hb12.mono hB0.size)
  refine bodyPost_ret (v:=.agg #[.slice ya yn yc]) ?_ rfl ⟨?_,⟨ya,yn,yc⟩,rfl,?_⟩
  ·rw[qO rfl]
   go_simp
  ·(repeat' (first|exact hbe|refine Below.setCell ?_ (by simp) _|refine Below.alloc ?_ hbe.size _))
  ·have hw2:BX W2 (W2.alloc (.cells #[.slice ya yn yc] 83)):=qi
   first
    | exact(hset2.out.below hw2).set_other _ (r2a _) (fun x hx=>by cases hx)
    | exact(hset2.out.set_other (p:=⟨w.heap.size+1,0,none⟩) (.slice ya yn yc) r2 (fun x hx=>by cases hx)).below (qi)
 ·have hf2:(!fx.toList.isEmpty)=true:=by cases hz:fx.toList with
   | nil=>exact absurd hz hf
   | cons a b=>rfl
  have hf3:fx.toList.isEmpty=false:=by simpa using hf2
  have hr:Hid (yQ ns kn sets ⟨oc,fx⟩=fun n=>P n&&ofP [xG ns fx] n):=vH (by rw[hch.out];funext n;rw[hf3,Bool.false_or])
  clear hch
  rw[hr.out]
  have KO:=fun W s (h:qJ W s [xG ns fx])=>qkH s [xG ns fx] W h (by simp)
  have hQ:∃Q,Q=ofP [xG ns fx]:=⟨_,rfl⟩
  obtain⟨Q,hQ⟩:=hQ
  rw[←hQ] at KO ⊢
  have KA:=fun W s (h1:zh W ⟨ya,yn,yc⟩ P) (h2:zh W s Q)=>qlL ⟨ya,yn,yc⟩ s P Q W h1 h2
  dsimp only at KA
  replace K3:=vH K3
  replace KO:=vH KO
  replace KA:=vH KA
  clear hQ
  go_enter func82,ntmps82
  go_wp2_with (first
   |(go_at_call 133;refine(K1 _ hB0).mono ?_;clear K1;rintro e W1 ⟨rfl,hb1⟩;have hS1:=hread W1 hb1;clear hS0)
   |(go_at_call 134;refine(K2 _ (hB0.trans (hb1.mono hB0.size))).mono ?_;clear K2;rintro e W2 ⟨rfl,hb2⟩;have hb12:=hb1.trans (hb2.mono hb1.size);obtain⟨r0,r1,r2,r3,r4,r5⟩:=hread W2 hb12;clear hS1;have hn2:=World.new_ne W2 _ r2;have hset2:=vH (hset'.out.below (hB0.trans (hb12.mono hB0.size)));have hcc2:=vH (hc2.below hb12 hc2.lt);have r1a:=fun o=>qk o r1;have r2a:=fun o=>qk o r2;have r3a:=fun o=>(hcc2.out.alloc o).frozen 0))
  have hbe:BX w W2:=hB0.trans (hb12.mono hB0.size)
  have hw2:BX W2 (W2.alloc (.cells #[.slice ya yn yc] 83)):=qi
  have hbe3:=hbe.trans (hw2.mono hbe.size)
  have hset3:=vH (hset2.out.below hw2)
  have hcc3:=vH (hcc2.out.below hw2 hcc2.out.lt)
  have ht7:=qd.new W2 83 #[.slice ya yn yc]
  have d1:=r1a (.cells #[.slice ya yn yc] 83)
  have hne7:W2.heap.size≠w.heap.size+1:=fun e=>by rw[e] at hn2;exact hn2 rfl
  clear r0 r1 r2 r3 r4 r5 hn2 r1a r2a r3a hset2 hcc2 hb1 hb2 hb12 hw2 hset' hread hc2 hB0 hCl hfd
  generalize W2.alloc (.cells #[.slice ya yn yc] 83)=W3 at *
  generalize W2.heap.size=B7 at *
  have hne7':=Ne.symm hne7
  have ht7':=vH ht7
  have c7:=ht7.cell (j:=0) (v:=.slice ya yn yc) rfl
  have c4:=hcc3.out.cell (j:=0) (v:=.slice none 0 0) rfl
  have f4:=hcc3.out.frozen 0
  have hP:∀W,BX W3 W->W.cell? ⟨B7,0,none⟩=some (.slice ya yn yc)/\W.cell? ⟨w.heap.size,1,none⟩=some (.string fx)/\(W.cell? ⟨w.heap.size+1,0,none⟩=some (.slice none 0 0)/\W.frozen? ⟨w.heap.size+1,0,none⟩=false):=fun W hb=>⟨(ht7'.out.below hb ht7'.out.lt).cell rfl,qb hb d1,(hcc3.out.below hb hcc3.out.lt).cell rfl,(hcc3.out.below hb hcc3.out.lt).frozen 0⟩
  have hS3:=hP _ (kB _ _)
  replace hP:=vH hP
  have hA0:BX W3 (W3.drew.alloc (.cells #[.string fx] 9)):=((kB _ _).drew).alloc (vL _) _
  have hSA:=hP.out _ hA0
  clear ht7
  go_region_held3 (fun w'=>w'.cell? ⟨B7,0,none⟩=some (.slice ya yn yc)/\w'.cell? ⟨w.heap.size,1,none⟩=some (.string fx))
   (go_keep)
   ((first
     |(go_at_call 79;refine(K3.out _ _ (hbe3.trans (hA0.mono hbe3.size)) (qd.new _ _ _)).mono ?_;rintro e W4 ⟨⟨sa,sn,sc⟩,rfl,hb4,hI⟩;have hA4:=hA0.trans (hb4.mono hA0.size);have hS4:=hP.out _ hA4)
     |(go_at_call 81;refine(KO.out _ ⟨sa,sn,sc⟩ hI).mono ?_;rintro e W5 ⟨hb5,⟨ta,tn,tc⟩,rfl,hs5⟩;have hA5:=hA4.trans (hb5.mono hA4.size);have hS5:=hP.out _ hA5;replace hs5:=vH hs5)
     |(go_at_call 135;refine(KA.out _ ⟨ta,tn,tc⟩ (hset3.out.below hA5) hs5.out).mono ?_;rintro e W6 ⟨hb6,⟨za,zn,zc⟩,rfl,hs6⟩;have hA6:=hA5.trans (hb6.mono hA5.size);have hS6:=hP.out _ hA6;replace hs6:=vH hs6)))
  (try simp only[Exit.then])
  go_wp2_with fail
  have hld:=World.cell?_setCell_same' W6 ⟨w.heap.size+1,0,none⟩ (.slice za zn zc) (by rw[hS6.2.2.1];rfl)
  refine bodyPost_ret (v:=.agg #[.slice za zn zc]) ?_ rfl ⟨?_,⟨za,zn,zc⟩,rfl,?_⟩
  ·rw[qO rfl]
   go_simp
  ·exact(hbe3.trans (hA6.mono hbe3.size)).setCell (p:=⟨w.heap.size+1,0,none⟩) (by dsimp only;omega) _
  ·exact hs6.out.set_other _ hS6.2.2.1 (fun x hx=>by cases hx)
theorem qfY(C:Nat)(tb:TB)(rl:List qY)(q:Int->Nat->Bool)(s:SlV)(l:List Int)(w:World)(hC:qd w C 85 tb.cells)(hR:xH w tb.rS rl)(hl:qJ w s l)(hlen:l.length<=100000)(hq:∀a,a∈l->zh w (zJ rl a).laps (q a)) :
 Calls prog 84 #[.pointer (some ⟨C,0,none⟩),.slice s.a s.n s.c] w (xj (fun n=>l.any fun a=>q a n) w):=by
 obtain⟨a,n,c⟩:=s
 obtain⟨hn,hcap,hx⟩:=hl
 dsimp only at hn hcap hx ⊢
 subst hn
 have hC2:=vH hC
 have hClt:=hC.lt
 have hrb:∀k x,l[k]?=some x->(fun n=>(l.take (k+1)).any fun a=>q a n)=fun n=>(l.take k).any (fun a=>q a n)||q x n:=fun k x hk=>by
  funext n
  rw[vX,hk,List.any_append]
  simp
 have hR2:=vH hR
 obtain⟨m,⟨ra,rn,rc⟩,rm,⟨ca,cn,cc⟩,cm,⟨oa,on,oc2⟩,om,ag,rs,sv,sr⟩:=tb
 replace hx:=vH hx
 replace hq:=vH hq
 replace hrb:=vH hrb
 have hB0:BX w ((w.alloc (.cells #[.slice none 0 0] 83)).alloc (.cells #[.slice none 0 0] 83)):=qi.alloc (by simp) _
 have h4:qd ((w.alloc (.cells #[.slice none 0 0] 83)).alloc (.cells #[.slice none 0 0] 83)) w.heap.size 83 #[.slice none 0 0]:=(qd.new w _ _).alloc _
 have h5:qd ((w.alloc (.cells #[.slice none 0 0] 83)).alloc (.cells #[.slice none 0 0] 83)) (w.heap.size+1) 83 #[.slice none 0 0]:=by
  have:=qd.new (w.alloc (.cells #[.slice none 0 0] 83)) 83 #[.slice none 0 0]
  simpa using this
 clear hC hR
 go_enter func84,ntmps84
 go_wp2_with fail
 go_loopw [10] (fun i wr=>∃ (k:Nat) (s:SlV),k<=l.length/\i = .int .i64 k/\BX w wr/\qd wr w.heap.size 83 #[.slice none 0 0]/\qd wr (w.heap.size+1) 83 #[.slice s.a s.n s.c]/\Hid (zh wr s (fun n=>(l.take k).any fun a=>q a n))) (fun i _=>l.length-(intOf i).toNat)
 case atStart=>exact⟨0,⟨none,0,0⟩,vO _,rfl,hB0,h4,h5,vH (zh.none _)⟩
 case round=>
  clear hB0 h4 h5
  obtain⟨k,⟨sa,sn,sc⟩,hk,rfl,hB,h4,h5,hS⟩:=hrel
  have k0:(0:Int)<=k:=vN _
  by_cases hlt:k<l.length
  ·obtain⟨x,hxk⟩:∃x,l[k]?=some x:=⟨l[k],vE hlt⟩
   have hmem:=vM hxk
   obtain⟨b,o,rfl,hc0⟩:=hx.out k x hxk
   replace hc0:=qb hB hc0
   have hi:IntKind.i64.wrap ((k:Int)+1)=k+1:=vI _ (by omega)
   have k1:(k:Int)<l.length:=by omega
   have hCr:=hC2.out.below hB hClt
   have KA:∀W,BX wr W->Calls prog 45 #[.agg #[.slice ra rn rc,.map rm],.int .i64 x] W fun e w'=>e = .returned (.agg (zJ rl x).v)/\BX W w':=fun W hb=>JZ ⟨ra,rn,rc⟩ (.map rm) rl x W (hR2.out.below (hB.trans (hb.mono hB.size)))
   have hqx:=hq.out x hmem
   have hrk:=vH (hrb.out k x hxk)
   try dsimp only at hS
   generalize zJ rl x=y at *
   obtain⟨yn,yr,yt,yw,⟨la,ln,lc⟩⟩:=y
   simp only[qY.v] at KA
   have KO:∀W,BX wr W->Calls prog 88 #[.agg #[.slice sa sn sc],.agg #[.slice la ln lc]] W (xj (fun n=>(l.take (k+1)).any fun a=>q a n) W):=fun W hb=>by
    have:=qlM ⟨sa,sn,sc⟩ ⟨la,ln,lc⟩ _ _ W (hS.out.below hb) (hqx.below (hB.trans (hb.mono hB.size)))
    rw[hrk.out]
    exact this
   have hQ:∃Q,Q=fun n=>(l.take (k+1)).any fun a=>q a n:=⟨_,rfl⟩
   obtain⟨Q,hQ⟩:=hQ
   rw[←hQ] at KO
   replace hQ:=vH hQ
   have hP:∀W,BX wr W->W.cell? ⟨w.heap.size+1,0,none⟩=some (.slice sa sn sc)/\W.frozen? ⟨w.heap.size+1,0,none⟩=false/\W.cell? ⟨C,8,none⟩=some (.slice ra rn rc)/\W.cell? ⟨C,9,none⟩=some (.map rm)/\qd W w.heap.size 83 #[.slice none 0 0]/\qd W (w.heap.size+1) 83 #[.slice sa sn sc]:=fun W hb=>by
    have a1:=h4.below hb h4.lt
    have a2:=h5.below hb h5.lt
    have a3:=hCr.below hb hCr.lt
    exact⟨a2.cell rfl,a2.frozen 0,a3.cell rfl,a3.cell rfl,a1,a2⟩
   obtain⟨p0,p1,p2,p3,_,_⟩:=hP wr (kB _ _)
   have hfd:=qcc
   replace hP:=vH hP
   replace KA:=vH KA
   replace KO:=vH KO
   have hBs:=hB.size
   have hb0:BX wr wr.drew:=(kB _ _).drew
   clear hxk hmem hqx hS h4 h5 hrk hCr
   go_wp2_with fail
   go_region_law (first
    |(go_simp;go_at_call 45;refine(KA.out _ hb0).mono ?_;rintro e W1 ⟨rfl,hb1⟩;have hA1:=hb0.trans hb1;obtain⟨r0,r1,r2,r3,_,_⟩:=hP.out _ hA1)
    |(go_simp;go_at_call 88;refine(KO.out _ hA1).mono ?_;rintro e W2 ⟨hb2,⟨za,zn,zc⟩,rfl,hz⟩;have hA2:=hA1.trans (hb2.mono hA1.size);obtain⟨u0,u1,u2,u3,u4,u5⟩:=hP.out _ hA2;replace hz:=vH hz))
   all_goals
    go_wp2_with fail
    refine⟨⟨k+1,⟨za,zn,zc⟩,by omega,by go_num,(hB.trans (hA2.mono hBs)).setCell (p:=⟨w.heap.size+1,0,none⟩) (by dsimp only;omega) _,u4.other (by omega) _,u5.set (j:=0) _,?_⟩,by simp[intOf];omega⟩
    rw[←hQ.out]
    exact vH (hz.out.set_other _ u0 (fun x hx=>by cases hx))
  ·obtain rfl:k=l.length:=by omega
   rw[List.take_length] at hS
   have c5:=h5.cell (j:=0) (v:=.slice sa sn sc) rfl
   have c4:=h4.cell (j:=0) (v:=.slice none 0 0) rfl
   have f4:=h4.frozen 0
   try dsimp only at hS
   have hfin:Hid (xj (fun n=>l.any fun a=>q a n) w (.returned (.agg #[.slice sa sn sc])) (wr.setCell ⟨w.heap.size,0,none⟩ (.slice sa sn sc))):=vH ⟨hB.setCell (p:=⟨w.heap.size,0,none⟩) (vL _) _,⟨sa,sn,sc⟩,rfl,hS.out.set_other _ c4 (fun x hx=>by cases hx)⟩
   have hld:=World.cell?_setCell_same' wr ⟨w.heap.size,0,none⟩ (.slice sa sn sc) (by rw[c4];rfl)
   clear hS h4 h5
   go_wp2_with fail
   (try simp only[Exit.inBlock,Exit.then])
   refine bodyPost_ret (v:=.agg #[.slice sa sn sc]) ?_ rfl hfin.out
   rw[qO rfl]
   clear c4
   go_simp
end Go.Proofs.YtomlgdnafeeeiaaGreatDoor
