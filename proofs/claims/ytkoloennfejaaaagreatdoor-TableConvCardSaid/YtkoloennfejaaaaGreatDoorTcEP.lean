/-
  table's takeRegs, takeClasses, choice, lapping.
-/
import Derived.Test.YtkoloennfejaaaaGreatDoorTcC
import Derived.Test.YtkoloennfejaaaaGreatDoorMdOne
import Derived.Deep.RegionHeld3
import Derived.Test.YtkoloennfejaaaaGreatDoorTbP
set_option maxHeartbeats 8000000
set_option maxRecDepth 100000
namespace Go.Proofs.YtkoloennfejaaaaGreatDoor
open Go.RowKit
theorem qfC(C base:Nat)(tb:TB)(l:List ByteArray)(nm:ByteArray)(w:World)(hC:Cells w C 88 tb.cells)(hM:zb base w tb.rM l)(hnm:nm.size<=281474976710656) :
 Calls Tryz.prog 72 #[.pointer (some ⟨C,0,none⟩),.string nm] w fun e w'=>e = .returned (.tuple #[.int .i64 (num0 l nm),.bool (ZN l nm)])/\Below w.heap.size w w':=by
 have K:=qho base tb.rS tb.rM l nm w hM hnm
 obtain⟨m,⟨ra,rn,rc⟩,rm,⟨ca,cn,cc⟩,cm,⟨oa,on,oc⟩,om,ag,rs,sv,sr⟩:=tb
 have c0:=hC.cell (j:=8) (v:=.slice ra rn rc) rfl
 have c1:=hC.cell (j:=9) (v:=.map rm) rfl
 dsimp only at K
 clear hM hC
 go_enter Tryz.func72,Tryz.ntmps72
 go_wp2_with (go_at_call 119;refine K.mono ?_;clear K;rintro e W1 ⟨rfl,hb⟩)
 go_ret2
 exact⟨rfl,hb⟩
theorem Jh(C base:Nat)(tb:TB)(l:List ByteArray)(nm:ByteArray)(w:World)(hC:Cells w C 88 tb.cells)(hM:zb base w tb.cM l)(hnm:nm.size<=281474976710656) :
 Calls Tryz.prog 10 #[.pointer (some ⟨C,0,none⟩),.string nm] w fun e w'=>e = .returned (.tuple #[.int .i64 (num0 l nm),.bool (ZN l nm)])/\Below w.heap.size w w':=by
 have K:=qhp base tb.cS tb.cM l nm w hM hnm
 obtain⟨m,⟨ra,rn,rc⟩,rm,⟨ca,cn,cc⟩,cm,⟨oa,on,oc⟩,om,ag,rs,sv,sr⟩:=tb
 have c0:=hC.cell (j:=10) (v:=.slice ca cn cc) rfl
 have c1:=hC.cell (j:=11) (v:=.map cm) rfl
 dsimp only at K
 clear hM hC
 go_enter Tryz.func10,Tryz.ntmps10
 go_wp2_with (go_at_call 45;refine K.mono ?_;clear K;rintro e W1 ⟨rfl,hb⟩)
 go_ret2
 exact⟨rfl,hb⟩
theorem jE{W:World}{g base n:Nat}{t:TypeId}{size:Nat}{cs:Array Value}(hC:Cells W g t cs)(hb:base<=g)(hs:cs.size=n*size)(hm:n<=maxLen):W.ownsRow base t size (.slice (some ⟨g,0,none⟩) n n) n cs.toList:=
 ⟨by rw[Array.length_toList];exact hs,.inr ⟨g,n,cs,rfl,hb,hC,Nat.le_refl _,hm,hs,by rw[←hs,←Array.length_toList,List.take_length]⟩⟩
def Xs(l:List Int)(k:Nat):Array Value:=((l.take k++List.replicate (l.length-k) 0).map (Value.int .i64)).toArray
theorem qdW(l:List Int):Xs l 0=Array.replicate l.length (.int .i64 0):=by simp[Xs]
theorem qdX(l:List Int)(k:Nat)(x:Int)(hx:l[k]?=some x):(Xs l k).setIfInBounds k (.int .i64 x)=Xs l (k+1):=by
 have hlt:k<l.length:=(List.getElem?_eq_some_iff.1 hx).1
 apply Array.ext'
 simp only[Xs,Array.toList_setIfInBounds]
 rw[show l.length-k=(l.length-(k+1))+1 by omega,List.replicate_succ,List.take_add_one,hx]
 simp only[List.map_append,List.map_cons,Option.toList_some,List.append_assoc,List.cons_append,List.nil_append]
 have hk:(List.map (Value.int .i64) (List.take k l)).length=k:=by simp;omega
 generalize List.map (Value.int .i64) (List.take k l)=A at hk ⊢
 rw[List.set_append_right _ _ (by omega),hk,Nat.sub_self];rfl
theorem qfD(l:List Int)(k:Nat)(hk:k<l.length):(Xs l k)[k]?=some (.int .i64 0):=by
 have h1:(l.take k).length=k:=by simp;omega
 simp only[Xs,List.getElem?_toArray,List.getElem?_map]
 rw[List.getElem?_append_right (by omega),h1,Nat.sub_self,List.getElem?_replicate,if_pos (by omega)]
 rfl
theorem qfE(l:List Int):Xs l l.length=(l.map (Value.int .i64)).toArray:=by simp[Xs]
theorem yC(C base:Nat)(tb:TB)(ns:List ByteArray)(s:SlV)(l:List ByteArray)(w:World)(hC:Cells w C 88 tb.cells)(hM:zb base w tb.rM ns)(hl:StrsAt w s l)(hlen:l.length<=100000)(hsz:∀x,x∈l->x.size<=281474976710656) :
 Calls Tryz.prog 109 #[.pointer (some ⟨C,0,none⟩),.slice s.a s.n s.c] w fun e w'=>∃s':SlV,e = .returned (.slice s'.a s'.n s'.c)/\Below w.heap.size w w'/\w'.ownsRow w.heap.size 3 1 s'.v l.length ((l.map (num0 ns)).map (Value.int .i64)):=by
 obtain⟨a,n,cp⟩:=s
 obtain⟨hn1,hcap,hx⟩:=hl
 dsimp only at hn1 hcap hx ⊢
 subst hn1
 obtain⟨V,hV⟩:∃V,V=l.map (num0 ns):=⟨_,rfl⟩
 have hVl:V.length=l.length:=by rw[hV,List.length_map]
 have hVg:Hid (∀ (k:Nat) x,l[k]?=some x->V[k]?=some (num0 ns x)):=Lib.hid fun k x hk=>by rw[hV,List.getElem?_map,hk];rfl
 rw[←hV]
 clear hV
 replace hVl:=Lib.hid hVl
 replace hx:=Lib.hid hx
 replace hsz:=Lib.hid hsz
 have hC2:=Lib.hid hC
 have hM2:=Lib.hid hM
 clear hC hM
 have hmk:=run_make_row' (P:=Tryz.prog) 41 3 (.int .i64 0) 8 Tryz.underlying41 Tryz.infoInt rfl .i64 .i64 l.length (by omega) (by omega)
 go_enter Tryz.func109,Tryz.ntmps109
 go_wp2_with fail
 clear hmk
 have hC0:Cells (w.alloc (.cells (madeCells #[.int .i64 0] l.length) 3)) w.heap.size 3 (Xs V 0):=by rw[qdW,hVl.out,←zB];exact Cells.new w _ _
 have hB0:Below w.heap.size w (w.alloc (.cells (madeCells #[.int .i64 0] l.length) 3)):=qe
 go_loopw [13] (fun i wr=>∃k:Nat,k<=l.length/\i = .int .i64 k/\Cells wr w.heap.size 3 (Xs V k)/\Below w.heap.size w wr) (fun i _=>l.length-(intOf i).toNat)
 case atStart=>exact⟨0,Nat.zero_le _,rfl,hC0,hB0⟩
 case round=>
  clear hC0 hB0
  obtain⟨k,hk,rfl,hR,hB⟩:=hrel
  have k0:(0:Int)<=k:=Int.natCast_nonneg _
  by_cases hlt:k<l.length
  ·obtain⟨x,hxk⟩:∃x,l[k]?=some x:=⟨l[k],by rw[List.getElem?_eq_getElem hlt]⟩
   obtain⟨b,o,rfl,hc⟩:=hx.out k x hxk
   have hc':=cell_below hB hc
   have hi:IntKind.i64.wrap ((k:Int)+1)=k+1:=IntWalk.i64_in _ (by omega)
   have k1:(k:Int)<l.length:=by omega
   have K:=qfC C base tb ns x wr (hC2.out.below hB hC2.out.lt) (hM2.out.below hB) (hsz.out x (List.mem_of_getElem? hxk))
   have hw:=hR.lt
   have hvk:=hVg.out k x hxk
   have hP:∀W1,Below wr.heap.size wr W1->(W1.cell? ⟨w.heap.size,k,none⟩=some (.int .i64 0)/\W1.frozen? ⟨w.heap.size,k,none⟩=false)/\Cells (W1.setCell ⟨w.heap.size,k,none⟩ (.int .i64 (num0 ns x))) w.heap.size 3 (Xs V (k+1))/\Below w.heap.size w (W1.setCell ⟨w.heap.size,k,none⟩ (.int .i64 (num0 ns x))):=fun W1 hb=>by
    have hR1:=hR.below hb hw
    refine⟨⟨hR1.cell (qfD V k (by rw[hVl.out];exact hlt)),hR1.frozen k⟩,?_,(hB.trans (hb.mono hB.size)).setCell (p:=⟨w.heap.size,k,none⟩) (Nat.le_refl _) _⟩
    have:=hR1.set (j:=k) (.int .i64 (num0 ns x))
    rw[qdX V k _ hvk] at this;exact this
   replace hP:=Lib.hid hP
   clear hc hR hxk hvk
   go_wp2_with (go_at_call 72;refine K.mono ?_;clear K;rintro e W1 ⟨rfl,hb⟩;obtain⟨⟨q0,q1⟩,q2⟩:=hP.out W1 hb;replace q2:=Lib.hid q2;clear hP)
   exact⟨⟨k+1,by omega,by go_num,q2.out.1,q2.out.2⟩,by simp[intOf];omega⟩
  ·obtain rfl:k=l.length:=by omega
   have hrow:wr.ownsRow w.heap.size 3 1 (.slice (some ⟨w.heap.size,0,none⟩) l.length l.length) l.length (V.map (Value.int .i64)):=by
    rw[←hVl.out] at hR ⊢
    rw[qfE] at hR
    have:=jE hR (Nat.le_refl w.heap.size) (n:=V.length) (size:=1) (by simp) (by unfold maxLen;have:=hVl.out;omega)
    simpa using this
   replace hrow:=Lib.hid hrow
   clear hR
   go_wp2_with fail
   go_ret
   exact⟨⟨some ⟨w.heap.size,0,none⟩,l.length,l.length⟩,rfl,hB,hrow.out⟩
def RegT.plc(x:RegT):Plc:=(x.root,x.at_,x.width)
def jK(l:List RegT)(meant:Plc->Bool)(n:Nat):Bool:=decide (n<l.length)&&meant (l.getD n RegT.none).plc
def zw(l:List RegT)(meant:Plc->Bool)(k:Nat):List Int:=((List.range k).filter fun r=>meant (l.getD r RegT.none).plc).map fun r:Nat=>(r:Int)
theorem Ji(l:List RegT)(meant:Plc->Bool)(k:Nat)(x:RegT)(hx:l[k]?=some x)(h:meant x.plc=true):zw l meant (k+1)=zw l meant k++[(k:Int)]:=by
 have hg:l.getD k RegT.none=x:=by rw[List.getD_eq_getElem?_getD,hx];rfl
 unfold zw
 rw[List.range_succ,List.filter_append,List.map_append]
 simp[hx,h]
theorem Yj(l:List RegT)(meant:Plc->Bool)(k:Nat)(x:RegT)(hx:l[k]?=some x)(h:meant x.plc=false):zw l meant (k+1)=zw l meant k:=by
 unfold zw
 rw[List.range_succ,List.filter_append,List.map_append]
 simp[hx,h]
theorem Yk(l:List RegT)(meant:Plc->Bool)(k:Nat):(zw l meant k).length<=k:=by
 unfold zw
 rw[List.length_map]
 exact Nat.le_trans (List.length_filter_le _ _) (by simp)
theorem Jj(l:List RegT)(meant:Plc->Bool)(hl:l.length<=1000):ofP (zw l meant l.length)=jK l meant:=by
 funext n
 rw[Bool.eq_iff_iff]
 unfold ofP jK zw
 simp only[Bool.and_eq_true,decide_eq_true_eq,List.contains_iff_mem,List.mem_map,List.mem_filter,List.mem_range]
 constructor
 ·rintro⟨h1,r,⟨h2,h3⟩,h4⟩
  have:r=n:=by omega
  subst this
  exact⟨h2,h3⟩
 ·rintro⟨h1,h2⟩
  exact⟨by omega,n,⟨h1,h2⟩,rfl⟩
theorem qfF(C B0:Nat)(tb:TB)(l:List RegT)(meant:Plc->Bool)(w:World)(hC:Cells w C 88 tb.cells)(hl:zr w tb.rS l)(hlen:l.length<=1000)
 (KC:∀W,Below w.heap.size w W->∀x,x∈l->Calls Tryz.prog 107 #[.agg #[.int .i64 x.root,.int .i64 x.at_,.int .i64 x.width],.pointer (some ⟨B0,0,none⟩)] W fun e w'=>e = .returned (.bool (meant x.plc))/\Below W.heap.size W w') :
 Calls Tryz.prog 106 #[.pointer (some ⟨C,0,none⟩),.func (.func 107) #[] #[.pointer (some ⟨B0,0,none⟩)]] w (SetPost (jK l meant) w):=by
 obtain⟨m,⟨ra,rn,rc⟩,rm,⟨ca,cn,cc⟩,cm,⟨oa,on,oc⟩,om,ag,rs,sv,sr⟩:=tb
 obtain⟨hn,hcap,hx⟩:=hl
 dsimp only at hn hcap hx
 subst hn
 have c0:=hC.cell (j:=8) (v:=.slice ra l.length rc) rfl
 have hofp:=Lib.hid (Jj l meant hlen)
 have hB:Below w.heap.size w (w.alloc (.cells #[.slice none 0 0] 86)):=qe
 have hS:=Cells.new w 86 #[.slice none 0 0]
 replace hx:=Lib.hid hx
 replace KC:=Lib.hid KC
 have c0a:=cell_below hB c0
 clear hC
 go_enter Tryz.func106,Tryz.ntmps106
 go_wp2_with fail
 go_loopw [5,14] (fun made i wr=>∃ (k:Nat) (qa:Option Addr) (qn qc:Nat),k<=l.length/\i = .int .i64 k/\made = .slice qa qn qc/\Below w.heap.size w wr/\Cells wr w.heap.size 86 #[.slice none 0 0]/\wr.ownsRow w.heap.size 3 1 (.slice qa qn qc) qn ((zw l meant k).map (Value.int .i64))/\Hid (qn=(zw l meant k).length)) (fun _ i _=>l.length-(intOf i).toNat)
 case atStart=>exact⟨0,none,0,0,Nat.zero_le _,rfl,rfl,hB,hS,by simpa[zw] using World.ownsRow_nil _ _ _ _,Lib.hid rfl⟩
 case round=>
  clear c0 c0a hS hB
  obtain⟨k,qa,qn,qc,hk,rfl,rfl,hBr,hSr,hrow,hqn⟩:=hrel
  have k0:(0:Int)<=k:=Int.natCast_nonneg _
  have hqk:qn<=k:=by have:=Yk l meant k;have:=hqn.out;omega
  by_cases hlt:k<l.length
  ·obtain⟨x,hxk⟩:∃x,l[k]?=some x:=⟨l[k],List.getElem?_eq_getElem hlt⟩
   obtain⟨b,o,rfl,q0,q1,q2,q3,q4⟩:=hx.out k x hxk
   replace q0:=cell_below hBr q0
   replace q1:=cell_below hBr q1
   replace q2:=cell_below hBr q2
   replace q3:=cell_below hBr q3
   replace q4:=cell_below hBr q4
   have hi:IntKind.i64.wrap ((k:Int)+1)=k+1:=IntWalk.i64_in _ (by omega)
   have k1:(k:Int)<l.length:=by omega
   have hBs:=hBr.size
   have hwl:=hSr.lt
   have hbx:Below wr.heap.size wr (wr.alloc (.cells #[.string x.name,.int .i64 x.root,.int .i64 x.at_,.int .i64 x.width,.slice x.laps.a x.laps.n x.laps.c] 112)):=qe
   have K:=KC.out _ (hBr.trans (hbx.mono hBs)) x (List.mem_of_getElem? hxk)
   replace hrow:=Lib.hid hrow
   have hSr':=Lib.hid hSr
   obtain⟨i0,hi0,hz0,hz1,hz2⟩:=info_parts Tryz.infoInt
   cases hme:meant x.plc with
   |false=>
    have hL:=Lib.hid (Yj l meant k x hxk hme)
    rw[hme] at K
    clear hxk hme hSr
    go_wp2_with (go_at_call 107;refine K.mono ?_;clear K;rintro e W1 ⟨rfl,hb1⟩;have hb2:=hbx.trans (hb1.mono hbx.size))
    refine⟨⟨k+1,qa,qn,qc,by omega,by go_num,rfl,hBr.trans (hb2.mono hBs),hSr'.out.below hb2 hwl,?_,?_⟩,by simp[intOf];omega⟩
    ·rw[hL.out];exact qb hrow.out hb2
    ·rw[hL.out];exact hqn
   |true=>
    have hL:=Lib.hid (Ji l meant k x hxk hme)
    rw[hme] at K
    clear hxk hme hSr
    go_wp2_with (first
     |(go_at_call 107;refine K.mono ?_;clear K;rintro e W1 ⟨rfl,hb1⟩;have hb2:=hbx.trans (hb1.mono hbx.size);have hrow1:=qb hrow.out hb2;have hb1s:=hb2.size)
     |(at_builtin;go_loud (refine wpList_append_own_at _ rfl _ _ 41 rfl w.heap.size 3 i0 _ 1 8 Tryz.underlying41 hi0 hz0 hz1 hz2 rfl (by decide) _ qn _ rfl (hrow1.alloc _) ⟨W1.heap.size,0,none⟩ 1 1 [.int .i64 k] rfl rfl (qF _ _ _ _ rfl) (by simp[Value.oneCell']) (by unfold maxLen;omega) (by omega) (by simp;omega) ?_;intro v' W7 hown7 hgrow _ hblk;obtain⟨g',cap',rfl⟩:=ownsRow_succ hown7)))
    have hgr:=qq hgrow
    have hB7:Below w.heap.size w W7:=(hBr.trans (hb2.mono hBs)).grown hgr (by omega) (fun j e=>(qd hrow1 e).1)
    have hS7:Cells W7 w.heap.size 86 #[.slice none 0 0]:=(hSr'.out.below hb2 hwl).kept hgr ((hSr'.out.below hb2 hwl).not_row (by decide) hrow1)
    refine⟨⟨k+1,_,_,_,by omega,by go_num,rfl,hB7,hS7,?_,?_⟩,by simp[intOf];omega⟩
    ·rw[hL.out,List.map_append]
     exact hown7
    ·rw[hL.out,List.length_append]
     exact Lib.hid (by rw[hqn.out];rfl)
  ·obtain rfl:k=l.length:=by omega
   have hI:IntsAt wr ⟨qa,qn,qc⟩ (zw l meant l.length):=IntsAt.of_row (s:=⟨qa,qn,qc⟩) hrow hqn.out
   have K:=qgE ⟨qa,qn,qc⟩ (zw l meant l.length) wr hI (by have:=hqn.out;omega)
   rw[hofp.out] at K
   dsimp only at K
   have hP:∀W,Below wr.heap.size wr W->W.cell? ⟨w.heap.size,0,none⟩=some (.slice none 0 0)/\W.frozen? ⟨w.heap.size,0,none⟩=false:=fun W hb=>by
    have:=hSr.below hb hSr.lt
    exact⟨this.cell rfl,this.frozen 0⟩
   clear hrow hI hSr hx KC
   go_wp2_with (go_at_call 111;refine K.mono ?_;clear K;rintro e W1 ⟨h0,⟨za,zn,zc⟩,rfl,hset⟩;obtain⟨p0,p1⟩:=hP W1 h0;have hfin:Hid (SetPost (jK l meant) w (.returned (.agg #[.slice za zn zc])) (W1.setCell ⟨w.heap.size,0,none⟩ (.slice za zn zc))):=Lib.hid ⟨(hBr.trans (h0.mono hBr.size)).setCell (p:=⟨w.heap.size,0,none⟩) (Nat.le_refl _) _,⟨za,zn,zc⟩,rfl,hset.set_other _ p0 (fun x hx=>by cases hx)⟩;have hld:=World.cell?_setCell_same' W1 ⟨w.heap.size,0,none⟩ (.slice za zn zc) (by rw[p0];rfl);clear h0 hset hP)
   (try simp only[Exit.inBlock,Exit.then])
   refine bodyPost_ret (v:=.agg #[.slice za zn zc]) ?_ rfl hfin.out
   rw[qr rfl]
   clear p0
   go_simp
theorem qaV(C B0 B1:Nat)(tb:TB)(l:List RegT)(meant:Plc->Bool)(w:World)(hC:Cells w C 88 tb.cells)(hl:zr w tb.rS l)(hlen:l.length<=1000)
 (KC:∀W,Below w.heap.size w W->∀x,x∈l->Calls Tryz.prog 116 #[.agg #[.int .i64 x.root,.int .i64 x.at_,.int .i64 x.width],.pointer (some ⟨B0,0,none⟩),.pointer (some ⟨B1,0,none⟩)] W fun e w'=>e = .returned (.bool (meant x.plc))/\Below W.heap.size W w') :
 Calls Tryz.prog 106 #[.pointer (some ⟨C,0,none⟩),.func (.func 116) #[] #[.pointer (some ⟨B0,0,none⟩),.pointer (some ⟨B1,0,none⟩)]] w (SetPost (jK l meant) w):=by
 obtain⟨m,⟨ra,rn,rc⟩,rm,⟨ca,cn,cc⟩,cm,⟨oa,on,oc⟩,om,ag,rs,sv,sr⟩:=tb
 obtain⟨hn,hcap,hx⟩:=hl
 dsimp only at hn hcap hx
 subst hn
 have c0:=hC.cell (j:=8) (v:=.slice ra l.length rc) rfl
 have hofp:=Lib.hid (Jj l meant hlen)
 have hB:Below w.heap.size w (w.alloc (.cells #[.slice none 0 0] 86)):=qe
 have hS:=Cells.new w 86 #[.slice none 0 0]
 replace hx:=Lib.hid hx
 replace KC:=Lib.hid KC
 have c0a:=cell_below hB c0
 clear hC
 go_enter Tryz.func106,Tryz.ntmps106
 go_wp2_with fail
 go_loopw [5,14] (fun made i wr=>∃ (k:Nat) (qa:Option Addr) (qn qc:Nat),k<=l.length/\i = .int .i64 k/\made = .slice qa qn qc/\Below w.heap.size w wr/\Cells wr w.heap.size 86 #[.slice none 0 0]/\wr.ownsRow w.heap.size 3 1 (.slice qa qn qc) qn ((zw l meant k).map (Value.int .i64))/\Hid (qn=(zw l meant k).length)) (fun _ i _=>l.length-(intOf i).toNat)
 case atStart=>exact⟨0,none,0,0,Nat.zero_le _,rfl,rfl,hB,hS,by simpa[zw] using World.ownsRow_nil _ _ _ _,Lib.hid rfl⟩
 case round=>
  clear c0 c0a hS hB
  obtain⟨k,qa,qn,qc,hk,rfl,rfl,hBr,hSr,hrow,hqn⟩:=hrel
  have k0:(0:Int)<=k:=Int.natCast_nonneg _
  have hqk:qn<=k:=by have:=Yk l meant k;have:=hqn.out;omega
  by_cases hlt:k<l.length
  ·obtain⟨x,hxk⟩:∃x,l[k]?=some x:=⟨l[k],List.getElem?_eq_getElem hlt⟩
   obtain⟨b,o,rfl,q0,q1,q2,q3,q4⟩:=hx.out k x hxk
   replace q0:=cell_below hBr q0
   replace q1:=cell_below hBr q1
   replace q2:=cell_below hBr q2
   replace q3:=cell_below hBr q3
   replace q4:=cell_below hBr q4
   have hi:IntKind.i64.wrap ((k:Int)+1)=k+1:=IntWalk.i64_in _ (by omega)
   have k1:(k:Int)<l.length:=by omega
   have hBs:=hBr.size
   have hwl:=hSr.lt
   have hbx:Below wr.heap.size wr (wr.alloc (.cells #[.string x.name,.int .i64 x.root,.int .i64 x.at_,.int .i64 x.width,.slice x.laps.a x.laps.n x.laps.c] 112)):=qe
   have K:=KC.out _ (hBr.trans (hbx.mono hBs)) x (List.mem_of_getElem? hxk)
   replace hrow:=Lib.hid hrow
   have hSr':=Lib.hid hSr
   obtain⟨i0,hi0,hz0,hz1,hz2⟩:=info_parts Tryz.infoInt
   cases hme:meant x.plc with
   |false=>
    have hL:=Lib.hid (Yj l meant k x hxk hme)
    rw[hme] at K
    clear hxk hme hSr
    go_wp2_with (go_at_call 116;refine K.mono ?_;clear K;rintro e W1 ⟨rfl,hb1⟩;have hb2:=hbx.trans (hb1.mono hbx.size))
    refine⟨⟨k+1,qa,qn,qc,by omega,by go_num,rfl,hBr.trans (hb2.mono hBs),hSr'.out.below hb2 hwl,?_,?_⟩,by simp[intOf];omega⟩
    ·rw[hL.out];exact qb hrow.out hb2
    ·rw[hL.out];exact hqn
   |true=>
    have hL:=Lib.hid (Ji l meant k x hxk hme)
    rw[hme] at K
    clear hxk hme hSr
    go_wp2_with (first
     |(go_at_call 116;refine K.mono ?_;clear K;rintro e W1 ⟨rfl,hb1⟩;have hb2:=hbx.trans (hb1.mono hbx.size);have hrow1:=qb hrow.out hb2;have hb1s:=hb2.size)
     |(at_builtin;go_loud (refine wpList_append_own_at _ rfl _ _ 41 rfl w.heap.size 3 i0 _ 1 8 Tryz.underlying41 hi0 hz0 hz1 hz2 rfl (by decide) _ qn _ rfl (hrow1.alloc _) ⟨W1.heap.size,0,none⟩ 1 1 [.int .i64 k] rfl rfl (qF _ _ _ _ rfl) (by simp[Value.oneCell']) (by unfold maxLen;omega) (by omega) (by simp;omega) ?_;intro v' W7 hown7 hgrow _ hblk;obtain⟨g',cap',rfl⟩:=ownsRow_succ hown7)))
    have hgr:=qq hgrow
    have hB7:Below w.heap.size w W7:=(hBr.trans (hb2.mono hBs)).grown hgr (by omega) (fun j e=>(qd hrow1 e).1)
    have hS7:Cells W7 w.heap.size 86 #[.slice none 0 0]:=(hSr'.out.below hb2 hwl).kept hgr ((hSr'.out.below hb2 hwl).not_row (by decide) hrow1)
    refine⟨⟨k+1,_,_,_,by omega,by go_num,rfl,hB7,hS7,?_,?_⟩,by simp[intOf];omega⟩
    ·rw[hL.out,List.map_append]
     exact hown7
    ·rw[hL.out,List.length_append]
     exact Lib.hid (by rw[hqn.out];rfl)
  ·obtain rfl:k=l.length:=by omega
   have hI:IntsAt wr ⟨qa,qn,qc⟩ (zw l meant l.length):=IntsAt.of_row (s:=⟨qa,qn,qc⟩) hrow hqn.out
   have K:=qgE ⟨qa,qn,qc⟩ (zw l meant l.length) wr hI (by have:=hqn.out;omega)
   rw[hofp.out] at K
   dsimp only at K
   have hP:∀W,Below wr.heap.size wr W->W.cell? ⟨w.heap.size,0,none⟩=some (.slice none 0 0)/\W.frozen? ⟨w.heap.size,0,none⟩=false:=fun W hb=>by
    have:=hSr.below hb hSr.lt
    exact⟨this.cell rfl,this.frozen 0⟩
   clear hrow hI hSr hx KC
   go_wp2_with (go_at_call 111;refine K.mono ?_;clear K;rintro e W1 ⟨h0,⟨za,zn,zc⟩,rfl,hset⟩;obtain⟨p0,p1⟩:=hP W1 h0;have hfin:Hid (SetPost (jK l meant) w (.returned (.agg #[.slice za zn zc])) (W1.setCell ⟨w.heap.size,0,none⟩ (.slice za zn zc))):=Lib.hid ⟨(hBr.trans (h0.mono hBr.size)).setCell (p:=⟨w.heap.size,0,none⟩) (Nat.le_refl _) _,⟨za,zn,zc⟩,rfl,hset.set_other _ p0 (fun x hx=>by cases hx)⟩;have hld:=World.cell?_setCell_same' W1 ⟨w.heap.size,0,none⟩ (.slice za zn zc) (by rw[p0];rfl);clear h0 hset hP)
   (try simp only[Exit.inBlock,Exit.then])
   refine bodyPost_ret (v:=.agg #[.slice za zn zc]) ?_ rfl hfin.out
   rw[qr rfl]
   clear p0
   go_simp
theorem Zt{α β:Type}{f:α->β}{l:List α}{k:Nat}{x y:α}(hx:l[k]?=some x)(h:f y=f x):(l.set k y).map f=l.map f:=by
 apply List.ext_getElem?
 intro i
 rw[List.getElem?_map,List.getElem?_map,List.getElem?_set]
 split
 ·rename_i he
  subst he
  split
  ·rw[hx];simp[h]
  ·rw[hx]
   rename_i hn
   exact absurd (List.getElem?_eq_some_iff.1 hx).1 hn
 ·rfl
theorem qaW{α β:Type}{f:α->List β}{size:Nat}(hf:∀x,(f x).length=size):∀ {l:List α} {k:Nat} {x y:α} {r:Nat} {v:β},l[k]?=some x->r<size->f y=(f x).set r v->(l.set k y).flatMap f=(l.flatMap f).set (k*size+r) v
 |z::t,0,x,y,r,v,hx,hr,h=>by
  cases hx
  rw[List.set_cons_zero,List.flatMap_cons,List.flatMap_cons,Nat.zero_mul,Nat.zero_add,List.set_append_left _ _ (by rw[hf];exact hr),h]
 |z::t,k+1,x,y,r,v,hx,hr,h=>by
  have e:(k+1)*size=k*size+size:=Nat.succ_mul k size
  rw[List.set_cons_succ,List.flatMap_cons,List.flatMap_cons,List.set_append_right _ _ (by rw[hf];omega),hf,show(k+1)*size+r-size=k*size+r by omega,qaW hf (l:=t) hx hr h]
def lapsP(ps:List Plc)(p:Plc)(n:Nat):Bool:=decide (n<ps.length)&&lapP p (ps.getD n (0,0,0))
theorem Jk(l:List RegT)(meant:Plc->Bool)(n:Nat):jK l meant n=(decide (n<(l.map RegT.plc).length)&&meant ((l.map RegT.plc).getD n (0,0,0))):=by
 unfold jK
 rw[List.length_map]
 simp only[List.getD_eq_getElem?_getD,List.getElem?_map]
 cases l[n]? <;> rfl
theorem qhs(p q:Plc)(Bp:Nat)(w:World)(hp:PlcOk p)(hq:PlcOk q)(hc:Cells w Bp 94 #[.int .i64 p.1,.int .i64 p.2.1,.int .i64 p.2.2]) :
 Calls Tryz.prog 107 #[.agg #[.int .i64 q.1,.int .i64 q.2.1,.int .i64 q.2.2],.pointer (some ⟨Bp,0,none⟩)] w fun e w'=>e = .returned (.bool (lapP p q))/\Below w.heap.size w w':=by
 have hb:Below w.heap.size w (w.alloc (.cells #[.int .i64 q.1,.int .i64 q.2.1,.int .i64 q.2.2] 94)):=qe
 have K:=fun W=>qal p q W hp hq
 have hc2:=hc.below hb hc.lt
 have c0:=hc.cell (j:=0) (v:=.int .i64 p.1) rfl
 have c1:=hc.cell (j:=1) (v:=.int .i64 p.2.1) rfl
 have c2:=hc.cell (j:=2) (v:=.int .i64 p.2.2) rfl
 have d0:=hc2.cell (j:=0) (v:=.int .i64 p.1) rfl
 have d1:=hc2.cell (j:=1) (v:=.int .i64 p.2.1) rfl
 have d2:=hc2.cell (j:=2) (v:=.int .i64 p.2.2) rfl
 clear hc hc2
 go_enter Tryz.func107,Tryz.ntmps107
 go_wp2_with (go_at_call 108;refine(K _).mono ?_;clear K;rintro e W1 ⟨rfl,hb1⟩)
 go_ret
 exact⟨rfl,hb.trans (hb1.mono hb.size)⟩
def regOf0(x:Spot):RegT:=⟨x.name,x.place.1,x.place.2.1,x.place.2.2,⟨none,0,0⟩⟩
structure qY(base C:Nat)(W:World)(tb:TB)(ns:List ByteArray)(ps:List Plc)(rl:List RegT):Prop where
 row:W.ownsRow base 112 5 tb.rS.v rl.length (rl.flatMap fun x=>x.v.toList)
 map:zb base W tb.rM ns
 names:rl.map RegT.name=ns
 places:rl.map RegT.plc=ps
def yD(C:Nat)(tb:TB)(ns:List ByteArray)(ps:List Plc)(w:World)(e:Ending)(w':World):Prop:=
 e = .returned (.tuple #[])/\But C w w'/\∃ (rS:SlV) (rM:Option Nat) (rl:List RegT),Cells w' C 88 { tb with rS:=rS,rM:=rM }.cells/\qY w.heap.size C w' { tb with rS:=rS,rM:=rM } ns ps rl/\∀x,x∈rl->SetAt w' x.laps (lapsP ps x.plc)
theorem qaX(C:Nat)(m:MV)(cS:SlV)(cM:Option Nat)(oS:SlV)(oM:Option Nat)(ag:SlV)(rs:Int)(sv sr:SlV)(E:List Spot)(w:World)
 (hC:Cells w C 88 (TB.mk m ⟨none,0,0⟩ none cS cM oS oM ag rs sv sr).cells) (KP:Calls Tryz.prog 104 #[.slice m.regs.a m.regs.n m.regs.c] w (PlacesPost w E))
 (hlen:E.length<=200) (hok:∀x,x∈E->PlcOk x.place) (hnd:(E.map (·.name)).Nodup) (hsz:∀x,x∈E->x.name.size<=281474976710656) :
 Calls Tryz.prog 66 #[.pointer (some ⟨C,0,none⟩)] w (yD C (TB.mk m ⟨none,0,0⟩ none cS cM oS oM ag rs sv sr) (E.map (·.name)) (E.map Spot.place) w):=by
 have c1:=hC.cell (j:=1) (v:=.slice m.regs.a m.regs.n m.regs.c) rfl
 have hwl:=hC.lt
 replace hok:=Lib.hid hok
 replace hnd:=Lib.hid hnd
 replace hsz:=Lib.hid hsz
 go_enter Tryz.func66,Tryz.ntmps66
 go_wp2_with (go_at_call 104;refine KP.mono ?_;clear KP;rintro e W1 ⟨nV,pV,rfl,hn,hp,hb⟩;obtain⟨na,nc,rfl⟩:=qk hn;obtain⟨pa,pc,rfl⟩:=qk hp)
 have hC1:=hC.below hb hwl
 have hn':=Lib.hid hn
 have hp':=Lib.hid hp
 clear hn hp c1 hC
 go_loopw [21] (fun i wr=>∃ (k:Nat) (rS:SlV) (rM:Option Nat),k<=E.length/\i = .int .i64 k/\Cells wr C 88 (TB.mk m rS rM cS cM oS oM ag rs sv sr).cells/\qo w.heap.size C w wr/\Stays [88,112] W1 wr/\wr.ownsRow w.heap.size 112 5 rS.v k (((E.take k).map regOf0).flatMap fun x=>x.v.toList)/\zb w.heap.size wr rM ((E.take k).map (·.name))) (fun i _=>E.length-(intOf i).toNat)
 case atStart=>exact⟨0,⟨none,0,0⟩,none,Nat.zero_le _,rfl,hC1,.of hb,Stays.refl _ _,by simpa[SlV.v] using World.ownsRow_nil _ _ _ _,.inl ⟨rfl,rfl⟩⟩
 case round=>
  clear hC1
  obtain⟨k,rS,rM,hk,rfl,hCr,hBr,hSr,hrow,hM⟩:=hrel
  have k0:(0:Int)<=k:=Int.natCast_nonneg _
  by_cases hlt:k<E.length
  ·obtain⟨x,hxk⟩:∃x,E[k]?=some x:=⟨E[k],List.getElem?_eq_getElem hlt⟩
   have hmem:=List.mem_of_getElem? hxk
   have hnr:=Lib.hid (hSr.row hn'.out (by decide))
   have hpr:=Lib.hid (hSr.row hp'.out (by decide))
   obtain⟨nb,e1,q0⟩:=qz (s:=⟨na,E.length,nc⟩) hnr.out (j:=k) (v:=.string x.name) (by rw[List.getElem?_map,hxk];rfl)
   obtain⟨g0,g1,g2⟩:=zG (ps:=E.map Spot.place) (i:=k) (p:=x.place) (by rw[List.getElem?_map,hxk];rfl)
   obtain⟨pb,e2,p0⟩:=qz (s:=⟨pa,E.length,pc⟩) hpr.out g0
   obtain⟨pb1,e3,p1⟩:=qz (s:=⟨pa,E.length,pc⟩) hpr.out g1
   obtain⟨pb2,e4,p2⟩:=qz (s:=⟨pa,E.length,pc⟩) hpr.out g2
   dsimp only at e1 e2 e3 e4
   subst e1
   subst e2
   cases e3
   cases e4
   have hi:IntKind.i64.wrap ((k:Int)+1)=k+1:=IntWalk.i64_in _ (by omega)
   have k1:(k:Int)<E.length:=by omega
   have hbx:Below wr.heap.size wr (wr.alloc (.cells #[.int .i64 x.place.1,.int .i64 x.place.2.1,.int .i64 x.place.2.2] 94)):=qe
   have hBs:=hBr.size
   have htk1:Hid ((E.take (k+1)).map regOf0=(E.take k).map regOf0++[regOf0 x]):=Lib.hid (by rw[List.take_add_one,hxk,List.map_append];rfl)
   have htk2:Hid ((E.take (k+1)).map (·.name)=(E.take k).map (·.name)++[x.name]):=Lib.hid (by rw[List.take_add_one,hxk,List.map_append];rfl)
   have hno:x.name∉(E.take k).map (·.name):=by
    have h1:=hnd.out
    rw[←List.take_append_drop (k+1) E,List.map_append,htk2.out] at h1
    have h2:=(List.nodup_append.1 h1).1
    have h3:=List.nodup_append.1 h2
    intro hm
    exact h3.2.2 _ hm _ (List.mem_singleton.2 rfl) rfl
   have K:∀W,Below wr.heap.size wr W->Calls Tryz.prog 105 #[.pointer (some ⟨C,8,none⟩),.string x.name,.agg (regOf0 x).v] W
    (AddPostT 112 5 w.heap.size C (fun s M=>{ TB.mk m rS rM cS cM oS oM ag rs sv sr with rS:=s,rM:=M }) k (((E.take k).map regOf0).flatMap (fun x=>x.v.toList)++(regOf0 x).v.toList) ((E.take k).map (·.name)++[x.name]) W):=fun W hb=>
    qdR w.heap.size C (TB.mk m rS rM cS cM oS oM ag rs sv sr) k _ _ x.name (regOf0 x) W (hCr.below hb hCr.lt) (Nat.le_trans hBs hb.size) (qb hrow hb) (by rw[List.length_map,List.length_take];omega) (by omega) (hM.below hb) hno (hsz.out x hmem)
   have hrel2:∀W W',Below wr.heap.size wr W->∀e,AddPostT 112 5 w.heap.size C (fun s M=>{ TB.mk m rS rM cS cM oS oM ag rs sv sr with rS:=s,rM:=M }) k (((E.take k).map regOf0).flatMap (fun x=>x.v.toList)++(regOf0 x).v.toList) ((E.take k).map (·.name)++[x.name]) W e W' ->
    e = .returned (.tuple #[])/\∃ (rS:SlV) (rM:Option Nat),Cells W' C 88 (TB.mk m rS rM cS cM oS oM ag rs sv sr).cells/\qo w.heap.size C w W'/\Stays [88,112] W1 W'/\W'.ownsRow w.heap.size 112 5 rS.v (k+1) (((E.take (k+1)).map regOf0).flatMap fun x=>x.v.toList)/\zb w.heap.size W' rM ((E.take (k+1)).map (·.name)):=fun W W' hb e ⟨he,a1,a2,s,M,a3,a4,a5⟩=>
    ⟨he,s,M,a3,(hBr.step hb (Nat.le_refl _)).trans a1,(hSr.trans (Stays.of_below hb)).trans a2,by
     rw[htk1.out,List.flatMap_append]
     simpa using a4,by rw[htk2.out];exact a5⟩
   have c8:=hCr.cell (j:=8) (v:=.slice rS.a rS.n rS.c) rfl
   replace K:=Lib.hid K
   replace hrel2:=Lib.hid hrel2
   have hrg:(regOf0 x).v=#[.string x.name,.int .i64 x.place.1,.int .i64 x.place.2.1,.int .i64 x.place.2.2,.slice none 0 0]:=rfl
   rw[hrg] at K hrel2
   clear hrg
   have pxn:∃xn,xn=x.name:=⟨_,rfl⟩
   generalize x.name=xn at *
   generalize x.place=xp at *
   obtain⟨xp0,xp1,xp2⟩:=xp
   dsimp only at *
   have hpl:=Cells.new wr 94 #[.int .i64 xp0,.int .i64 xp1,.int .i64 xp2]
   have hCrl:=hCr.lt
   clear hxk hmem g0 g1 g2 hno hnr hpr hrow hM hCr pxn
   have q0':=cell_below hbx q0
   go_wp2_with fail
   have y0:=hpl.cell (j:=0) (v:=.int .i64 xp0) rfl
   have y1:=hpl.cell (j:=1) (v:=.int .i64 xp1) rfl
   have y2:=hpl.cell (j:=2) (v:=.int .i64 xp2) rfl
   generalize wr.alloc (.cells #[.int .i64 xp0,.int .i64 xp1,.int .i64 xp2] 94)=W2 at *
   go_still_tail 13,(by kernel_rfl)
   change wpList _ _ _ _ _ W2.drew
   go_wp2_with (go_at_call 105;refine(K.out _ hbx.drew).mono ?_;intro e W3 hap;obtain⟨rfl,hap2⟩:=hrel2.out _ _ hbx.drew _ hap;clear hap;replace hap2:=Lib.hid hap2)
   obtain⟨rS',rM',b1,b2,b3,b4,b5⟩:=hap2.out
   exact⟨⟨k+1,rS',rM',by omega,by go_num,b1,b2,b3,b4,b5⟩,by simp[intOf];omega⟩
  ·obtain rfl:k=E.length:=by omega
   rw[List.take_length] at hrow hM
   have hpr:=Lib.hid (hSr.row hp'.out (by decide))
   have hmd:E.map regOf0=E.map regOf0:=rfl
   have hR0:qY w.heap.size C wr (TB.mk m rS rM cS cM oS oM ag rs sv sr) (E.map (·.name)) (E.map Spot.place) (E.map regOf0):=⟨by rw[List.length_map];exact hrow,hM,by rw[List.map_map];rfl,by rw[List.map_map];rfl⟩
   replace hR0:=Lib.hid hR0
   clear hrow hM hmd hSr
   go_wp2_with fail
   generalize wr=w1 at *
   go_loopw [43] (fun i wr=>∃ (k:Nat) (rl:List RegT),k<=E.length/\i = .int .i64 k/\Cells wr C 88 (TB.mk m rS rM cS cM oS oM ag rs sv sr).cells/\qo w.heap.size C w wr/\Stays [112] w1 wr/\Hid (qY w.heap.size C wr (TB.mk m rS rM cS cM oS oM ag rs sv sr) (E.map (·.name)) (E.map Spot.place) rl)/\Hid (∀ (i:Nat) x,i<k->rl[i]?=some x->SetAt wr x.laps (lapsP (E.map Spot.place) x.plc))) (fun i _=>E.length-(intOf i).toNat)
   case atStart=>exact⟨0,E.map regOf0,Nat.zero_le _,rfl,hCr,hBr,Stays.refl _ _,hR0,Lib.hid fun i x h=>absurd h (Nat.not_lt_zero _)⟩
   case round=>
    clear hR0 hBr
    have hCr0:=hCr.lt
    clear hCr
    obtain⟨k,rl,hk,rfl,hCq,hBq,hSq,hR,hL⟩:=hrel
    have k0:(0:Int)<=k:=Int.natCast_nonneg _
    have hrll:rl.length=E.length:=by
     have:=congrArg List.length hR.out.names
     simpa using this
    by_cases hlt:k<E.length
    ·obtain⟨x,hxk⟩:∃x,E[k]?=some x:=⟨E[k],List.getElem?_eq_getElem hlt⟩
     have hmem:=List.mem_of_getElem? hxk
     obtain⟨y,hyk⟩:∃y,rl[k]?=some y:=⟨rl[k],List.getElem?_eq_getElem (by omega)⟩
     have hyp:y.plc=x.place:=by
      have:=congrArg (fun l:List Plc=>l[k]?) hR.out.places
      simpa[List.getElem?_map,hyk,hxk] using this
     obtain⟨g0,g1,g2⟩:=zG (ps:=E.map Spot.place) (i:=k) (p:=x.place) (by rw[List.getElem?_map,hxk];rfl)
     have hpq:=hSq.row hpr.out (by decide)
     obtain⟨pb,e2,p0⟩:=qz (s:=⟨pa,E.length,pc⟩) hpq g0
     obtain⟨pb1,e3,p1⟩:=qz (s:=⟨pa,E.length,pc⟩) hpq g1
     obtain⟨pb2,e4,p2⟩:=qz (s:=⟨pa,E.length,pc⟩) hpq g2
     dsimp only at e2 e3 e4
     subst e2
     cases e3
     cases e4
     obtain⟨gb,e5,_⟩:=qz hR.out.row (qG (f:=fun x:RegT=>x.v.toList) (size:=5) (fun _=>rfl) hyk (r:=4) (v:=.slice y.laps.a y.laps.n y.laps.c) rfl)
     dsimp only at e5
     have hrn:=(yM hR.out.row).1
     dsimp only at hrn
     obtain⟨ra,rn,rc⟩:=rS
     dsimp only at e5 hrn
     subst e5
     subst hrn
     have hi:IntKind.i64.wrap ((k:Int)+1)=k+1:=IntWalk.i64_in _ (by omega)
     have k1:(k:Int)<E.length:=by omega
     have k2:(k:Int)<rl.length:=by omega
     have hbx:Below wr.heap.size wr (wr.alloc (.cells #[.int .i64 x.place.1,.int .i64 x.place.2.1,.int .i64 x.place.2.2] 94)):=qe
     have hpl:=Cells.new wr 94 #[.int .i64 x.place.1,.int .i64 x.place.2.1,.int .i64 x.place.2.2]
     have hBs:=hBq.size
     have hokx:=hok.out x hmem
     have hqall:∀q,q∈rl->PlcOk q.plc:=fun q hq=>by
      have:q.plc∈rl.map RegT.plc:=List.mem_map_of_mem hq
      rw[hR.out.places] at this
      obtain⟨z,hz,hze⟩:=List.mem_map.1 this
      rw[←hze];exact hok.out z hz
     have hthp:jK rl (lapP x.place)=lapsP (E.map Spot.place) x.place:=by
      funext n
      rw[Jk,hR.out.places];rfl
     have K:∀W,Below (wr.alloc (.cells #[.int .i64 x.place.1,.int .i64 x.place.2.1,.int .i64 x.place.2.2] 94)).heap.size (wr.alloc (.cells #[.int .i64 x.place.1,.int .i64 x.place.2.1,.int .i64 x.place.2.2] 94)) W ->
      Calls Tryz.prog 106 #[.pointer (some ⟨C,0,none⟩),.func (.func 107) #[] #[.pointer (some ⟨wr.heap.size,0,none⟩)]] W (SetPost (lapsP (E.map Spot.place) x.place) W):=fun W hb=>by
      have hA:=hbx.trans (hb.mono hbx.size)
      have:=qfF C wr.heap.size (TB.mk m ⟨some ⟨gb,0,none⟩,rl.length,rc⟩ rM cS cM oS oM ag rs sv sr) rl (lapP x.place) W (hCq.below hA hCq.lt) (zr.of_row (qb hR.out.row hA)) (by omega) (fun W' hb' q hq=>qhs x.place q.plc wr.heap.size W' hokx (hqall q hq) ((hpl.below hb hpl.lt).below hb' (hpl.below hb hpl.lt).lt))
      rw[hthp] at this
      exact this
     have hP:∀W s,Below wr.heap.size wr W->SetAt W s (lapsP (E.map Spot.place) x.place) ->
      (W.cell? ⟨C,8,none⟩=some (.slice (some ⟨gb,0,none⟩) rl.length rc)/\W.cell? ⟨gb,k*5+4,none⟩=some (.slice y.laps.a y.laps.n y.laps.c)/\W.frozen? ⟨gb,k*5+4,none⟩=false/\gb≠C) /\
      (Cells (W.setCell ⟨gb,k*5+4,none⟩ (.slice s.a s.n s.c)) C 88 (TB.mk m ⟨some ⟨gb,0,none⟩,rl.length,rc⟩ rM cS cM oS oM ag rs sv sr).cells/\qo w.heap.size C w (W.setCell ⟨gb,k*5+4,none⟩ (.slice s.a s.n s.c))/\Stays [112] w1 (W.setCell ⟨gb,k*5+4,none⟩ (.slice s.a s.n s.c)) /\
        qY w.heap.size C (W.setCell ⟨gb,k*5+4,none⟩ (.slice s.a s.n s.c)) (TB.mk m ⟨some ⟨gb,0,none⟩,rl.length,rc⟩ rM cS cM oS oM ag rs sv sr) (E.map (·.name)) (E.map Spot.place) (rl.set k { y with laps:=s }) /\
        ∀ (i:Nat) z,i<k+1->(rl.set k { y with laps:=s })[i]?=some z->SetAt (W.setCell ⟨gb,k*5+4,none⟩ (.slice s.a s.n s.c)) z.laps (lapsP (E.map Spot.place) z.plc)):=fun W s hb hset=>by
      have hCW:=hCq.below hb hCq.lt
      have hrW:=qb hR.out.row hb
      have hgb:w.heap.size<=gb/\∃cur,Cells W gb 112 cur:=qd hrW rfl
      obtain⟨hgb1,cur,hgc⟩:=hgb
      have hne:gb≠C:=fun e=>by
       rw[e] at hgc
       have h2:=Option.some.inj ((show W.heap[C]?=_ from hgc).symm.trans (show W.heap[C]?=_ from hCW))
       injection h2 with _ ht _
       exact absurd ht (by decide)
      obtain⟨gb',e6,hcell⟩:=qz hrW (qG (f:=fun x:RegT=>x.v.toList) (size:=5) (fun _=>rfl) hyk (r:=4) (v:=.slice y.laps.a y.laps.n y.laps.c) rfl)
      dsimp only at e6
      cases e6
      have hst:=World.ownsRow.stored (g:=gb) (cap:=rc) (n:=rl.length) hrW (k*5+4) (.slice s.a s.n s.c)
      have hSet:Stays [112] W (W.setCell ⟨gb,k*5+4,none⟩ (.slice s.a s.n s.c)):=Stays.of_set hgc (by simp) _ _
      have hbB:qo w.heap.size C w W:=hBq.step hb (Nat.le_refl _)
      refine⟨⟨hCW.cell rfl,hcell,hgc.frozen _,hne⟩,hCW.other (Ne.symm hne) _,hbB.setUp hgb1 _,(hSq.trans (Stays.of_below hb)).trans hSet,⟨?_,?_,?_,?_⟩,?_⟩
      ·rw[List.length_set,qaW (f:=fun x:RegT=>x.v.toList) (size:=5) (fun _=>rfl) hyk (r:=4) (v:=.slice s.a s.n s.c) (by omega) rfl]
       exact hst.1
      ·have hm:=hR.out.map.below hb
       refine hm.imp id fun⟨B,D,h1,h2,h3,h4⟩=>⟨B,D,h1,h2,yB h3 (Below.heap_setCell W ⟨gb,k*5+4,none⟩ _ B (fun e=>?_)),h4⟩
       obtain⟨es,ck,h5,_⟩:=h3
       dsimp only at e
       rw[e,show W.heap[gb]?=_ from hgc] at h5
       cases h5
      ·rw[Zt (y:={ y with laps:=s }) hyk rfl];exact hR.out.names
      ·rw[Zt (y:={ y with laps:=s }) hyk rfl];exact hR.out.places
      ·intro i z hi hz
       rw[List.getElem?_set] at hz
       by_cases he:k=i
       ·rw[if_pos he] at hz
        split at hz
        ·cases hz
         show SetAt _ s (lapsP _ y.plc)
         rw[hyp]
         exact hSet.set hset (by decide)
        ·cases hz
       ·rw[if_neg he] at hz
        exact hSet.set ((hL.out i z (by omega) hz).below hb) (by decide)
     have hmf:∀ (fn:Fn) (first cap:Array Value) (w:World),(Instr.makeFunc fn first cap).run Tryz.prog w = .ok (.func fn first cap) w:=fun _ _ _ _=>rfl
     have c8:(wr.alloc (.cells #[.int .i64 x.place.1,.int .i64 x.place.2.1,.int .i64 x.place.2.2] 94)).cell? ⟨C,8,none⟩=some (.slice (some ⟨gb,0,none⟩) rl.length rc):=(hCq.below hbx hCq.lt).cell rfl
     have hb0:Below (wr.alloc (.cells #[.int .i64 x.place.1,.int .i64 x.place.2.1,.int .i64 x.place.2.2] 94)).heap.size (wr.alloc (.cells #[.int .i64 x.place.1,.int .i64 x.place.2.1,.int .i64 x.place.2.2] 94)) (wr.alloc (.cells #[.int .i64 x.place.1,.int .i64 x.place.2.1,.int .i64 x.place.2.2] 94)).drew:=(Below.refl _ _).drew
     replace K:=Lib.hid K
     replace hP:=Lib.hid hP
     generalize lapsP (E.map Spot.place) x.place=LP at *
     generalize x.place=xp at *
     obtain⟨xp0,xp1,xp2⟩:=xp
     dsimp only at *
     clear hxk hmem hyk g0 g1 g2 hpq hR hL hCq hBq hSq hqall hthp hyp hokx hpl hrll
     go_wp2_with fail
     generalize wr.alloc (.cells #[.int .i64 xp0,.int .i64 xp1,.int .i64 xp2] 94)=W2 at *
     go_region_held3 (fun w'=>w'.cell? ⟨C,8,none⟩=some (.slice (some ⟨gb,0,none⟩) rl.length rc))
      (go_keep)
      ((first
        |(go_at_call 106;refine(K.out _ hb0).mono ?_;rintro e W3 ⟨hb3,⟨za,zn,zc⟩,rfl,hset⟩;obtain⟨⟨r0,r1,r2,r3⟩,hfin⟩:=hP.out _ _ (hbx.trans ((hb0.trans hb3).mono hbx.size)) hset;replace hfin:=Lib.hid hfin;clear hset)))
     go_wp2_with fail
     obtain⟨f1,f2,f3,f4,f5⟩:=hfin.out
     exact⟨⟨k+1,_,by omega,by go_num,f1,f2,f3,Lib.hid f4,Lib.hid f5⟩,by simp[intOf];omega⟩
    ·obtain rfl:k=E.length:=by omega
     have hfin:Hid (yD C (TB.mk m ⟨none,0,0⟩ none cS cM oS oM ag rs sv sr) (E.map (·.name)) (E.map Spot.place) w (.returned (.tuple #[])) wr):=Lib.hid ⟨rfl,hBq,rS,rM,rl,hCq,hR.out,fun x hx=>by
      obtain⟨i,hi⟩:=List.getElem?_of_mem hx
      exact hL.out i x (by have:=(List.getElem?_eq_some_iff.1 hi).1;omega) hi⟩
     clear hCq hBq hSq hR hL
     go_wp2_with fail
     go_end0
     exact hfin.out
def nums0(ns l:List ByteArray):List Int:=l.map (num0 ns)
structure zt(base:Nat)(W:World)(cS:SlV)(cM:Option Nat)(ns:List ByteArray)(ps:List Plc)(ks:List ClassD)(cl:List ClsT):Prop where
 row:W.ownsRow base 90 3 cS.v cl.length (cl.flatMap fun x=>x.v.toList)
 map:zb base W cM (ks.map (·.name))
 len:cl.length=ks.length
 each:∀ (i:Nat) x k,cl[i]?=some x->ks[i]?=some k->IntsR W x.list (nums0 ns k.regs)/\SetAt W x.set (ofP (nums0 ns k.regs))/\x.width=(plc ps ((nums0 ns k.regs).headD 0)).2.2
theorem zt.below{base:Nat}{W W':World}{cS:SlV}{cM:Option Nat}{ns:List ByteArray}{ps:List Plc}{ks:List ClassD}{cl:List ClsT}(h:zt base W cS cM ns ps ks cl)(hb:Below W.heap.size W W'):zt base W' cS cM ns ps ks cl:=
 ⟨qb h.row hb,h.map.below hb,h.len,fun i x k hx hk=>by obtain⟨h1,h2,h3⟩:=h.each i x k hx hk;exact⟨h1.below hb,h2.below hb,h3⟩⟩
def Qf(C:Nat)(tb:TB)(ns:List ByteArray)(ps:List Plc)(ks:List ClassD)(w:World)(e:Ending)(w':World):Prop:=
 e = .returned (.tuple #[])/\But C w w'/\∃ (cS:SlV) (cM:Option Nat) (cl:List ClsT),Cells w' C 88 { tb with cS:=cS,cM:=cM }.cells/\zt w.heap.size w' cS cM ns ps ks cl
theorem Tryz.plcField2(a b c:Int)(w:World):(Instr.field 94 (.agg #[.int .i64 a,.int .i64 b,.int .i64 c]) 2).run Tryz.prog w = .ok (.int .i64 c) w:=by kernel_rfl
theorem qY.below{base C:Nat}{W W':World}{tb:TB}{ns:List ByteArray}{ps:List Plc}{rl:List RegT}(h:qY base C W tb ns ps rl)(hb:Below W.heap.size W W'):qY base C W' tb ns ps rl:=
 ⟨qb h.row hb,h.map.below hb,h.names,h.places⟩
theorem qY.but{base C:Nat}{W W':World}{tb:TB}{ns:List ByteArray}{ps:List Plc}{rl:List RegT}(h:qY base C W tb ns ps rl)(hC:Cells W C 88 tb.cells)(hb:But C W W'):qY base C W' tb ns ps rl:=
 ⟨h.row.kept (row:=some C) ⟨hb.os,hb.tape,hb.output,hb.size,fun k hk hn=>hb.block k hk (fun e=>hn (by rw[e]))⟩ (by
  by_cases h0:tb.rS.v.ownBlock=none
  ·exact .inl h0
  ·refine .inr fun e=>?_
   obtain⟨_,cur,hc⟩:=qd h.row e
   have h2:=Option.some.inj ((show W.heap[C]?=_ from hc).symm.trans (show W.heap[C]?=_ from hC))
   injection h2 with _ ht _
   exact absurd ht (by decide)),h.map.but hC hb,h.names,h.places⟩
theorem qY.at_{base C:Nat}{W:World}{tb:TB}{ns:List ByteArray}{ps:List Plc}{rl:List RegT}(h:qY base C W tb ns ps rl):zr W tb.rS rl:=zr.of_row h.row
theorem yE{rl:List RegT}{ps:List Plc}(h:rl.map RegT.plc=ps){a:Int}(ha:0<=a):(regAtN rl a).plc=plc ps a:=by
 unfold regAtN plc
 rw[if_pos ha,←h]
 simp only[List.getD_eq_getElem?_getD,List.getElem?_map]
 cases rl[a.toNat]? <;> rfl
theorem YV(ns:List ByteArray)(s:ByteArray):0<=num0 ns s:=by unfold num0;omega
theorem qcs(C base:Nat)(m:MV)(rS:SlV)(rM:Option Nat)(oS:SlV)(oM:Option Nat)(ag:SlV)(rs:Int)(sv sr:SlV)(ns:List ByteArray)(ps:List Plc)(rl:List RegT)(ks:List ClassD)(w:World)
 (hC:Cells w C 88 (TB.mk m rS rM ⟨none,0,0⟩ none oS oM ag rs sv sr).cells) (hR:qY base C w (TB.mk m rS rM ⟨none,0,0⟩ none oS oM ag rs sv sr) ns ps rl)
 (hK:∀W,But C w W->ClassesAt W m.classes ks) (hlen:ks.length<=1000) (hnd:(ks.map (·.name)).Nodup)
 (hfit:∀k,k∈ks->k.name.size<=281474976710656/\k.regs ≠ []/\k.regs.length<=1000/\∀s,s∈k.regs->s.size<=281474976710656) :
 Calls Tryz.prog 67 #[.pointer (some ⟨C,0,none⟩)] w (Qf C (TB.mk m rS rM ⟨none,0,0⟩ none oS oM ag rs sv sr) ns ps ks w):=by
 obtain⟨mn,mrg,⟨ka,kn,kc⟩,mop,mar,mrs,msv,msl⟩:=m
 have hkn:=(hK w (qo.refl _ _ _)).1
 have hkc:=(hK w (qo.refl _ _ _)).2.1
 dsimp only at hkn hkc
 subst hkn
 have c2:=hC.cell (j:=2) (v:=.slice ka ks.length kc) rfl
 have hwl:=hC.lt
 have hC0:=Lib.hid hC
 replace hK:=Lib.hid hK
 replace hnd:=Lib.hid hnd
 replace hfit:=Lib.hid hfit
 have hR0:=Lib.hid hR
 clear hR
 go_enter Tryz.func67,Tryz.ntmps67
 go_wp2_with fail
 go_loopw [11] (fun i wr=>∃ (k:Nat) (cS:SlV) (cM:Option Nat) (cl:List ClsT),k<=ks.length/\i = .int .i64 k/\Cells wr C 88 (TB.mk ⟨mn,mrg,⟨ka,ks.length,kc⟩,mop,mar,mrs,msv,msl⟩ rS rM cS cM oS oM ag rs sv sr).cells/\qo w.heap.size C w wr/\Hid (zt w.heap.size wr cS cM ns ps (ks.take k) cl)) (fun i _=>ks.length-(intOf i).toNat)
 case atStart=>exact⟨0,⟨none,0,0⟩,none,[],Nat.zero_le _,rfl,hC,qo.refl _ _ _,Lib.hid ⟨by simpa[SlV.v] using World.ownsRow_nil _ _ _ _,.inl ⟨rfl,rfl⟩,rfl,fun i x k hx _=>by simp at hx⟩⟩
 case round=>
  clear hC c2
  obtain⟨k,cS,cM,cl,hk,rfl,hCr,hBr,hI⟩:=hrel
  have k0:(0:Int)<=k:=Int.natCast_nonneg _
  by_cases hlt:k<ks.length
  ·obtain⟨x,hxk⟩:∃x,ks[k]?=some x:=⟨ks[k],List.getElem?_eq_getElem hlt⟩
   have hmem:=List.mem_of_getElem? hxk
   obtain⟨f1,f2,f3,f4⟩:=hfit.out x hmem
   obtain⟨b,o,e0,⟨qa,qn,qc⟩,q0,q1,hsr⟩:=(hK.out wr hBr).2.2 k x hxk
   dsimp only at e0 q0 q1
   subst e0
   have hi:IntKind.i64.wrap ((k:Int)+1)=k+1:=IntWalk.i64_in _ (by omega)
   have k1:(k:Int)<ks.length:=by omega
   have hBs:=hBr.size
   have hbx:Below wr.heap.size wr (wr.alloc (.cells #[.string x.name,.slice qa qn qc] 44)):=qe
   have htk:Hid (ks.take (k+1)=ks.take k++[x]):=Lib.hid (by rw[List.take_add_one,hxk];rfl)
   have hno:x.name∉(ks.take k).map (·.name):=by
    have h1:=hnd.out
    rw[←List.take_append_drop (k+1) ks,List.map_append,htk.out,List.map_append] at h1
    have h2:=(List.nodup_append.1 h1).1
    have h3:=List.nodup_append.1 h2
    intro hm
    exact h3.2.2 _ hm _ (List.mem_singleton.2 rfl) rfl
   have hRr:qY base C wr (TB.mk ⟨mn,mrg,⟨some ⟨b,o,none⟩,ks.length,kc⟩,mop,mar,mrs,msv,msl⟩ rS rM ⟨none,0,0⟩ none oS oM ag rs sv sr) ns ps rl:=hR0.out.but hC0.out hBr
   have hcll:cl.length=k:=by rw[hI.out.len,List.length_take];omega
   have Kn:∀W,Below wr.heap.size wr W->Calls Tryz.prog 109 #[.pointer (some ⟨C,0,none⟩),.slice qa qn qc] W fun e w'=>∃s':SlV,e = .returned (.slice s'.a s'.n s'.c)/\Below W.heap.size W w'/\w'.ownsRow W.heap.size 3 1 s'.v x.regs.length ((nums0 ns x.regs).map (Value.int .i64)):=fun W hb=>
    yC C base (TB.mk ⟨mn,mrg,⟨some ⟨b,o,none⟩,ks.length,kc⟩,mop,mar,mrs,msv,msl⟩ rS rM cS cM oS oM ag rs sv sr) ns ⟨qa,qn,qc⟩ x.regs W (hCr.below hb hCr.lt) (hRr.map.below hb) (hsr.below hb) (by omega) f4
   have Kp:∀W (a:Int),Below wr.heap.size wr W->0<=a->Calls Tryz.prog 74 #[.pointer (some ⟨C,0,none⟩),.int .i64 a] W fun e w'=>e = .returned (.agg #[.int .i64 (regAtN rl a).root,.int .i64 (regAtN rl a).at_,.int .i64 (plc ps a).2.2])/\Below W.heap.size W w':=fun W a hb ha=>by
    have hCW:=hCr.below hb hCr.lt
    have:=qaR C rS (.map rM) rl a W (hCW.cell rfl) (hCW.cell rfl) (hRr.below hb).at_
    have h2:(regAtN rl a).width=(plc ps a).2.2:=congrArg (fun p:Plc=>p.2.2) (yE hRr.places ha)
    rw[h2] at this
    exact this
   have Ka:∀W s st wd,Below wr.heap.size wr W->Calls Tryz.prog 110 #[.pointer (some ⟨C,10,none⟩),.string x.name,.agg (ClsT.mk s st wd).v] W
    (AddPostT 90 3 w.heap.size C (fun s M=>TB.mk ⟨mn,mrg,⟨some ⟨b,o,none⟩,ks.length,kc⟩,mop,mar,mrs,msv,msl⟩ rS rM s M oS oM ag rs sv sr) k (cl.flatMap (fun x=>x.v.toList)++(ClsT.mk s st wd).v.toList) ((ks.take k).map (·.name)++[x.name]) W):=fun W s st wd hb=>
    qdS w.heap.size C (TB.mk ⟨mn,mrg,⟨some ⟨b,o,none⟩,ks.length,kc⟩,mop,mar,mrs,msv,msl⟩ rS rM cS cM oS oM ag rs sv sr) k _ _ x.name (ClsT.mk s st wd) W (hCr.below hb hCr.lt) (Nat.le_trans hBs hb.size) (by rw[←hcll];exact qb hI.out.row hb) (by rw[List.length_map,List.length_take];omega) (by omega) (hI.out.map.below hb) hno f1
   have hend:∀W W' s st wd e,Below wr.heap.size wr W->IntsR W s (nums0 ns x.regs)->SetAt W st (ofP (nums0 ns x.regs))->wd=(plc ps ((nums0 ns x.regs).headD 0)).2.2 ->
    AddPostT 90 3 w.heap.size C (fun s M=>TB.mk ⟨mn,mrg,⟨some ⟨b,o,none⟩,ks.length,kc⟩,mop,mar,mrs,msv,msl⟩ rS rM s M oS oM ag rs sv sr) k (cl.flatMap (fun x=>x.v.toList)++(ClsT.mk s st wd).v.toList) ((ks.take k).map (·.name)++[x.name]) W e W' ->
    e = .returned (.tuple #[])/\Stays [88,90] W W'/\∃ (cS:SlV) (cM:Option Nat) (cl:List ClsT),Cells W' C 88 (TB.mk ⟨mn,mrg,⟨some ⟨b,o,none⟩,ks.length,kc⟩,mop,mar,mrs,msv,msl⟩ rS rM cS cM oS oM ag rs sv sr).cells/\qo w.heap.size C w W'/\zt w.heap.size W' cS cM ns ps (ks.take (k+1)) cl:=fun W W' s st wd e hb h1 h2 h3 ⟨he,a1,a2,s2,M2,a3,a4,a5⟩=>by
    have hI2:=hI.out.below hb
    refine⟨he,a2,s2,M2,cl++[ClsT.mk s st wd],a3,(hBr.step hb (Nat.le_refl _)).trans a1,⟨?_,?_,?_,?_⟩⟩
    ·rw[List.length_append,List.length_singleton,hcll,List.flatMap_append]
     simpa using a4
    ·rw[htk.out,List.map_append];exact a5
    ·rw[htk.out,List.length_append,List.length_append,hI2.len];rfl
    ·intro i y z hy hz
     rw[htk.out] at hz
     by_cases hik:i<k
     ·rw[List.getElem?_append_left (by rw[hcll];exact hik)] at hy
      rw[List.getElem?_append_left (by rw[List.length_take];omega)] at hz
      obtain⟨g1,g2,g3⟩:=hI2.each i y z hy hz
      exact⟨a2.row g1 (by decide),a2.set g2 (by decide),g3⟩
     ·have hyl:=(List.getElem?_eq_some_iff.1 hy).1
      rw[List.length_append,List.length_singleton,hcll] at hyl
      have hik2:i=k:=by omega
      subst hik2
      rw[List.getElem?_append_right (by rw[hcll];exact Nat.le_refl _),hcll,Nat.sub_self] at hy
      rw[List.getElem?_append_right (by rw[List.length_take];omega),List.length_take,Nat.min_eq_left (by omega),Nat.sub_self] at hz
      cases hy
      cases hz
      exact⟨a2.row h1 (by decide),a2.set h2 (by decide),h3⟩
   have hxn:∃n:Nat,n=x.regs.length/\0<n/\n<=1000:=⟨_,rfl,List.length_pos_iff.2 f2,f3⟩
   obtain⟨nn,hnn,hn0,hn1⟩:=hxn
   have hnl:(nums0 ns x.regs).length=nn:=by unfold nums0;rw[List.length_map,hnn]
   have hhd:∃h,(nums0 ns x.regs)[0]?=some h/\(nums0 ns x.regs).headD 0=h/\0<=h:=by
    cases hx:x.regs with
    | nil=>exact absurd hx f2
    | cons a t=>exact⟨num0 ns a,rfl,rfl,YV ns a⟩
   obtain⟨hd,hd1,hd2,hd3⟩:=hhd
   rw[←hnn] at Kn
   rw[hd2] at hend
   simp only[ClsT.v] at Ka hend
   replace Kn:=Lib.hid Kn
   replace Kp:=Lib.hid Kp
   replace Ka:=Lib.hid Ka
   replace hend:=Lib.hid hend
   generalize nums0 ns x.regs=V at *
   generalize x.name=xn at *
   have hcb:=Cells.new wr 44 #[.string xn,.slice qa qn qc]
   replace hcb:=Lib.hid hcb
   replace hnl:=Lib.hid hnl
   replace hd1:=Lib.hid hd1
   have hfd:=Tryz.plcField2
   have hn2:(0:Int)<nn:=by omega
   clear hxk hmem f1 f2 f3 f4 hsr hno hRr hcll hI hCr hnn hd2
   go_wp2_with (go_at_call 109;refine(Kn.out _ hbx).mono ?_;rintro e W2 ⟨⟨sa,sn,sc⟩,rfl,hb2,hrow⟩)
   have hA2:=hbx.trans (hb2.mono hbx.size)
   have hIR:IntsR W2 ⟨sa,sn,sc⟩ V:=by
    have:=qj hrow (Nat.zero_le _)
    unfold IntsR
    rw[hnl.out];exact this
   have hIA:=hIR.at_
   obtain⟨gb,g1,hh0⟩:=qz (s:=⟨sa,sn,sc⟩) hrow (j:=0) (v:=.int .i64 hd) (by rw[List.getElem?_map,hd1.out];rfl)
   dsimp only at g1
   subst g1
   have hsn:sn=nn:=(yM (s:=⟨some ⟨gb,0,none⟩,sn,sc⟩) hrow).1
   subst hsn
   have hrow':=Lib.hid hrow
   have hIR':=Lib.hid hIR
   have q0':=(hcb.out.below hb2 hcb.out.lt).cell (j:=0) (v:=.string xn) rfl
   have hcb2:=Lib.hid (hcb.out.below hb2 hcb.out.lt)
   have Ko:∀W,Below W2.heap.size W2 W->Calls Tryz.prog 111 #[.slice (some ⟨gb,0,none⟩) sn sc] W (SetPost (ofP V) W):=fun W hb=>qgE ⟨some ⟨gb,0,none⟩,sn,sc⟩ V W (hIR'.out.at_.below hb) (by rw[hnl.out];omega)
   have hread:∀W,Below W2.heap.size W2 W->W.cell? ⟨wr.heap.size,0,none⟩=some (.string xn)/\W.cell? ⟨gb,0,none⟩=some (.int .i64 hd):=fun W hb=>⟨cell_below hb q0',cell_below hb hh0⟩
   have hA0:Below W2.heap.size W2 W2.drew:=(Below.refl _ _).drew
   have hS0:=hread _ (Below.refl _ _)
   replace Ko:=Lib.hid Ko
   clear hrow hIR hIA
   go_region_held3 (fun w'=>w'.cell? ⟨wr.heap.size,0,none⟩=some (.string xn)/\w'.cell? ⟨gb,0,none⟩=some (.int .i64 hd))
    (go_keep)
    ((first
      |(go_at_call 111;refine(Ko.out _ hA0).mono ?_;rintro e W3 ⟨hb3,⟨ta,tn,tc⟩,rfl,hset⟩;have hA3:=hA0.trans hb3;have hS3:=hread _ hA3;replace hset:=Lib.hid hset)
      |(go_at_call 74;refine(Kp.out _ hd (hA2.trans (hA3.mono hA2.size)) hd3).mono ?_;rintro e W4 ⟨rfl,hb4⟩;have hA4:=hA3.trans (hb4.mono hA3.size);have hS4:=hread _ hA4)
      |(go_at_call 110;refine(Ka.out _ ⟨some ⟨gb,0,none⟩,sn,sc⟩ ⟨ta,tn,tc⟩ (plc ps hd).2.2 (hA2.trans (hA4.mono hA2.size))).mono ?_;intro e W5 hap;obtain⟨rfl,hst,hin⟩:=hend.out _ _ ⟨some ⟨gb,0,none⟩,sn,sc⟩ ⟨ta,tn,tc⟩ _ _ (hA2.trans (hA4.mono hA2.size)) (hIR'.out.below hA4) (hset.out.below hb4) rfl hap;clear hap;replace hin:=Lib.hid hin;have hS5:W5.cell? ⟨wr.heap.size,0,none⟩=some (.string xn)/\W5.cell? ⟨gb,0,none⟩=some (.int .i64 hd):=⟨(hst.block _ _ _ (by decide) (hcb2.out.below hA4 hcb2.out.lt)).cell rfl,by(have hr5:=hst.row (qb hrow'.out hA4) (by decide);obtain⟨gb',g5,hh5⟩:=qz (s:=⟨some ⟨gb,0,none⟩,sn,sc⟩) hr5 (j:=0) (v:=.int .i64 hd) (by rw[List.getElem?_map,hd1.out];rfl);cases g5;exact hh5)⟩)))
   go_wp2_with fail
   obtain⟨cS',cM',cl',b1,b2,b3⟩:=hin.out
   exact⟨⟨k+1,cS',cM',cl',by omega,by go_num,b1,b2,Lib.hid b3⟩,by simp[intOf];omega⟩
  ·obtain rfl:k=ks.length:=by omega
   rw[List.take_length] at hI
   have hfin:Hid (Qf C (TB.mk ⟨mn,mrg,⟨ka,ks.length,kc⟩,mop,mar,mrs,msv,msl⟩ rS rM ⟨none,0,0⟩ none oS oM ag rs sv sr) ns ps ks w (.returned (.tuple #[])) wr):=Lib.hid ⟨rfl,hBr,cS,cM,cl,hCr,hI.out⟩
   clear hCr hBr hI
   go_wp2_with fail
   go_end0
   exact hfin.out
def zD(ns kn:List ByteArray)(sets:List (Nat->Bool))(o:OperD)(n:Nat):Bool:=(sets.getD (num0 kn o.cls).toNat (fun _=>false)) n&&(o.fix.toList.isEmpty||ofP [num0 ns o.fix] n)
theorem Tryz.clsField1(a:Option Addr)(n c:Nat)(la:Option Addr)(ln lc:Nat)(x:Int)(w:World):(Instr.field 90 (.agg #[.slice a n c,.slice la ln lc,.int .i64 x]) 1).run Tryz.prog w = .ok (.agg #[.slice la ln lc]) w:=by kernel_rfl
theorem qdY(C base:Nat)(tb:TB)(ns kn:List ByteArray)(cl:List ClsT)(sets:List (Nat->Bool))(o:OperD)(w:World)(hC:Cells w C 88 tb.cells)(hRm:zb base w tb.rM ns)(hCm:zb base w tb.cM kn)(hcl:zk w tb.cS cl)
 (hsets:∀a:Int,0<=a->SetAt w (cl.getD a.toNat ClsT.none).set (sets.getD a.toNat (fun _=>false))) (h1:o.cls.size<=281474976710656) (h2:o.fix.size<=281474976710656) :
 Calls Tryz.prog 112 #[.pointer (some ⟨C,0,none⟩),.agg #[.string o.cls,.string o.fix]] w (SetPost (zD ns kn sets o) w):=by
 obtain⟨oc,fx⟩:=o
 dsimp only at h1 h2 ⊢
 have hge:=YV kn oc
 have hset:=hsets _ hge
 have hch:Hid (zD ns kn sets ⟨oc,fx⟩=fun n=>(sets.getD (num0 kn oc).toNat (fun _=>false)) n&&(fx.toList.isEmpty||ofP [num0 ns fx] n)):=Lib.hid rfl
 have K1:∀W,Below w.heap.size w W->Calls Tryz.prog 10 #[.pointer (some ⟨C,0,none⟩),.string oc] W fun e w'=>e = .returned (.tuple #[.int .i64 (num0 kn oc),.bool (ZN kn oc)])/\Below W.heap.size W w':=fun W hb=>Jh C base tb kn oc W (hC.below hb hC.lt) (hCm.below hb) h1
 have K2:∀W,Below w.heap.size w W->Calls Tryz.prog 47 #[.agg #[.slice tb.cS.a tb.cS.n tb.cS.c,.map tb.cM],.int .i64 (num0 kn oc)] W fun e w'=>e = .returned (.agg (cl.getD (num0 kn oc).toNat ClsT.none).v)/\Below W.heap.size W w':=fun W hb=>by
  have:=Zs tb.cS (.map tb.cM) cl (num0 kn oc) W (hcl.below hb)
  rw[if_pos hge] at this
  exact this
 have K3:∀W b,Below w.heap.size w W->Cells W b 9 #[.string fx]->Calls Tryz.prog 109 #[.pointer (some ⟨C,0,none⟩),.slice (some ⟨b,0,none⟩) 1 1] W fun e w'=>∃s':SlV,e = .returned (.slice s'.a s'.n s'.c)/\Below W.heap.size W w'/\IntsAt w' s' [num0 ns fx]:=fun W b hb hc=>
  (yC C base tb ns ⟨some ⟨b,0,none⟩,1,1⟩ [fx] W (hC.below hb hC.lt) (hRm.below hb) ⟨rfl,Nat.le_refl _,fun j x hj=>by
    have hj0:j=0:=by have:=(List.getElem?_eq_some_iff.1 hj).1;simp at this;omega
    subst hj0
    cases hj
    exact⟨b,0,rfl,hc.cell rfl⟩⟩ (by simp) (fun x hx=>by rw[List.mem_singleton.1 hx];exact h2)).mono fun e w' ⟨s',he,hb',hr⟩=>⟨s',he,hb',IntsAt.of_row hr (by simp)⟩
 generalize sets.getD (num0 kn oc).toNat (fun _=>false)=P at *
 generalize cl.getD (num0 kn oc).toNat ClsT.none=x at *
 obtain⟨⟨xa,xn,xc⟩,⟨ya,yn,yc⟩,xw⟩:=x
 simp only[ClsT.v] at K2
 have hset':=Lib.hid hset
 obtain⟨w0,hw0⟩:∃w0,w0=(w.alloc (.cells #[.string oc,.string fx] 51)).alloc (.cells #[.slice none 0 0] 86):=⟨_,rfl⟩
 have hB0:Below w.heap.size w w0:=by rw[hw0];exact qe.alloc (by simp) _
 have hc1:Cells w0 w.heap.size 51 #[.string oc,.string fx]:=by rw[hw0];exact(Cells.new w _ _).alloc _
 have hc2:Cells w0 (w.heap.size+1) 86 #[.slice none 0 0]:=by
  have:=Cells.new (w.alloc (.cells #[.string oc,.string fx] 51)) 86 #[.slice none 0 0]
  rw[hw0];simpa using this
 have hCl:=hC.lt
 obtain⟨m,⟨ra,rn,rc⟩,rm,⟨ca,cn,cc⟩,cm,⟨oa,on,oc2⟩,om,ag,rs,sv,sr⟩:=tb
 have hread:∀W,Below w0.heap.size w0 W->W.cell? ⟨w.heap.size,0,none⟩=some (.string oc)/\W.cell? ⟨w.heap.size,1,none⟩=some (.string fx)/\W.cell? ⟨w.heap.size+1,0,none⟩=some (.slice none 0 0)/\W.frozen? ⟨w.heap.size+1,0,none⟩=false/\W.cell? ⟨C,10,none⟩=some (.slice ca cn cc)/\W.cell? ⟨C,11,none⟩=some (.map cm):=fun W hb=>by
  have a:=hc1.below hb hc1.lt
  have b:=hc2.below hb hc2.lt
  have c:=hC.below (hB0.trans (hb.mono hB0.size)) hC.lt
  exact⟨a.cell rfl,a.cell rfl,b.cell rfl,b.frozen 0,c.cell rfl,c.cell rfl⟩
 have hwz:w0.heap.size=w.heap.size+1+1:=by rw[hw0];simp
 have hfd:=Tryz.clsField1
 have hS0:=hread _ (Below.refl _ w0)
 dsimp only at K1 K2 K3
 clear hC hRm hCm hcl hsets hset hc1
 have hnx:Hid (w.heap.size+1+1=w0.heap.size):=Lib.hid hwz.symm
 clear hwz
 subst hw0
 by_cases hf:fx.toList = []
 ·have hr:Hid (zD ns kn sets ⟨oc,fx⟩=P):=Lib.hid (by rw[hch.out];funext n;rw[hf];simp)
  clear hch K3
  rw[hr.out]
  go_enter Tryz.func112,Tryz.ntmps112
  go_wp2_with (first
   |(go_at_call 10;refine(K1 _ hB0).mono ?_;clear K1;rintro e W1 ⟨rfl,hb1⟩;have hS1:=hread W1 hb1;clear hS0)
   |(go_at_call 47;refine(K2 _ (hB0.trans (hb1.mono hB0.size))).mono ?_;clear K2;rintro e W2 ⟨rfl,hb2⟩;have hb12:=hb1.trans (hb2.mono hb1.size);obtain⟨r0,r1,r2,r3,r4,r5⟩:=hread W2 hb12;clear hS1;have hn2:=World.new_ne W2 _ r2;have hset2:=Lib.hid (hset'.out.below (hB0.trans (hb12.mono hB0.size)));have hcc2:=Lib.hid (hc2.below hb12 hc2.lt);have r1a:=fun o=>qf o r1;have r2a:=fun o=>qf o r2;have r3a:=fun o=>(hcc2.out.alloc o).frozen 0))
  (try simp only[Exit.inBlock,Exit.then])
  have hbe:Below w.heap.size w W2:=hB0.trans (hb12.mono hB0.size)
  refine bodyPost_ret (v:=.agg #[.slice ya yn yc]) ?_ rfl ⟨?_,⟨ya,yn,yc⟩,rfl,?_⟩
  ·rw[qr rfl]
   go_simp
  ·(repeat' (first|exact hbe|refine Below.setCell ?_ (by simp) _|refine Below.alloc ?_ hbe.size _))
  ·have hw2:Below W2.heap.size W2 (W2.alloc (.cells #[.slice ya yn yc] 86)):=qe
   first
    | exact(hset2.out.below hw2).set_other _ (r2a _) (fun x hx=>by cases hx)
    | exact(hset2.out.set_other (p:=⟨w.heap.size+1,0,none⟩) (.slice ya yn yc) r2 (fun x hx=>by cases hx)).below (qe)
 ·have hf2:(!fx.toList.isEmpty)=true:=by cases hz:fx.toList with
   | nil=>exact absurd hz hf
   | cons a b=>rfl
  have hf3:fx.toList.isEmpty=false:=by simpa using hf2
  have hr:Hid (zD ns kn sets ⟨oc,fx⟩=fun n=>P n&&ofP [num0 ns fx] n):=Lib.hid (by rw[hch.out];funext n;rw[hf3,Bool.false_or])
  clear hch
  rw[hr.out]
  have KO:=fun W s (h:IntsAt W s [num0 ns fx])=>qgE s [num0 ns fx] W h (by simp)
  have hQ:∃Q,Q=ofP [num0 ns fx]:=⟨_,rfl⟩
  obtain⟨Q,hQ⟩:=hQ
  rw[←hQ] at KO ⊢
  have KA:=fun W s (h1:SetAt W ⟨ya,yn,yc⟩ P) (h2:SetAt W s Q)=>qhL ⟨ya,yn,yc⟩ s P Q W h1 h2
  dsimp only at KA
  replace K3:=Lib.hid K3
  replace KO:=Lib.hid KO
  replace KA:=Lib.hid KA
  clear hQ
  go_enter Tryz.func112,Tryz.ntmps112
  go_wp2_with (first
   |(go_at_call 10;refine(K1 _ hB0).mono ?_;clear K1;rintro e W1 ⟨rfl,hb1⟩;have hS1:=hread W1 hb1;clear hS0)
   |(go_at_call 47;refine(K2 _ (hB0.trans (hb1.mono hB0.size))).mono ?_;clear K2;rintro e W2 ⟨rfl,hb2⟩;have hb12:=hb1.trans (hb2.mono hb1.size);obtain⟨r0,r1,r2,r3,r4,r5⟩:=hread W2 hb12;clear hS1;have hn2:=World.new_ne W2 _ r2;have hset2:=Lib.hid (hset'.out.below (hB0.trans (hb12.mono hB0.size)));have hcc2:=Lib.hid (hc2.below hb12 hc2.lt);have r1a:=fun o=>qf o r1;have r2a:=fun o=>qf o r2;have r3a:=fun o=>(hcc2.out.alloc o).frozen 0))
  have hbe:Below w.heap.size w W2:=hB0.trans (hb12.mono hB0.size)
  have hw2:Below W2.heap.size W2 (W2.alloc (.cells #[.slice ya yn yc] 86)):=qe
  have hbe3:=hbe.trans (hw2.mono hbe.size)
  have hset3:=Lib.hid (hset2.out.below hw2)
  have hcc3:=Lib.hid (hcc2.out.below hw2 hcc2.out.lt)
  have ht7:=Cells.new W2 86 #[.slice ya yn yc]
  have d1:=r1a (.cells #[.slice ya yn yc] 86)
  have hne7:W2.heap.size≠w.heap.size+1:=fun e=>by rw[e] at hn2;exact hn2 rfl
  clear r0 r1 r2 r3 r4 r5 hn2 r1a r2a r3a hset2 hcc2 hb1 hb2 hb12 hw2 hset' hread hc2 hB0 hCl hfd
  generalize W2.alloc (.cells #[.slice ya yn yc] 86)=W3 at *
  generalize W2.heap.size=B7 at *
  have hne7':=Ne.symm hne7
  have ht7':=Lib.hid ht7
  have c7:=ht7.cell (j:=0) (v:=.slice ya yn yc) rfl
  have c4:=hcc3.out.cell (j:=0) (v:=.slice none 0 0) rfl
  have f4:=hcc3.out.frozen 0
  have hP:∀W,Below W3.heap.size W3 W->W.cell? ⟨B7,0,none⟩=some (.slice ya yn yc)/\W.cell? ⟨w.heap.size,1,none⟩=some (.string fx)/\(W.cell? ⟨w.heap.size+1,0,none⟩=some (.slice none 0 0)/\W.frozen? ⟨w.heap.size+1,0,none⟩=false):=fun W hb=>⟨(ht7'.out.below hb ht7'.out.lt).cell rfl,cell_below hb d1,(hcc3.out.below hb hcc3.out.lt).cell rfl,(hcc3.out.below hb hcc3.out.lt).frozen 0⟩
  have hS3:=hP _ (Below.refl _ _)
  replace hP:=Lib.hid hP
  have hA0:Below W3.heap.size W3 (W3.drew.alloc (.cells #[.string fx] 9)):=((Below.refl _ _).drew).alloc (Nat.le_refl _) _
  have hSA:=hP.out _ hA0
  clear ht7
  go_region_held3 (fun w'=>w'.cell? ⟨B7,0,none⟩=some (.slice ya yn yc)/\w'.cell? ⟨w.heap.size,1,none⟩=some (.string fx))
   (go_keep)
   ((first
     |(go_at_call 109;refine(K3.out _ _ (hbe3.trans (hA0.mono hbe3.size)) (Cells.new _ _ _)).mono ?_;rintro e W4 ⟨⟨sa,sn,sc⟩,rfl,hb4,hI⟩;have hA4:=hA0.trans (hb4.mono hA0.size);have hS4:=hP.out _ hA4)
     |(go_at_call 111;refine(KO.out _ ⟨sa,sn,sc⟩ hI).mono ?_;rintro e W5 ⟨hb5,⟨ta,tn,tc⟩,rfl,hs5⟩;have hA5:=hA4.trans (hb5.mono hA4.size);have hS5:=hP.out _ hA5;replace hs5:=Lib.hid hs5)
     |(go_at_call 155;refine(KA.out _ ⟨ta,tn,tc⟩ (hset3.out.below hA5) hs5.out).mono ?_;rintro e W6 ⟨hb6,⟨za,zn,zc⟩,rfl,hs6⟩;have hA6:=hA5.trans (hb6.mono hA5.size);have hS6:=hP.out _ hA6;replace hs6:=Lib.hid hs6)))
  (try simp only[Exit.then])
  go_wp2_with fail
  have hld:=World.cell?_setCell_same' W6 ⟨w.heap.size+1,0,none⟩ (.slice za zn zc) (by rw[hS6.2.2.1];rfl)
  refine bodyPost_ret (v:=.agg #[.slice za zn zc]) ?_ rfl ⟨?_,⟨za,zn,zc⟩,rfl,?_⟩
  ·rw[qr rfl]
   go_simp
  ·exact(hbe3.trans (hA6.mono hbe3.size)).setCell (p:=⟨w.heap.size+1,0,none⟩) (by dsimp only;omega) _
  ·exact hs6.out.set_other _ hS6.2.2.1 (fun x hx=>by cases hx)
theorem qct(C:Nat)(tb:TB)(rl:List RegT)(q:Int->Nat->Bool)(s:SlV)(l:List Int)(w:World)(hC:Cells w C 88 tb.cells)(hR:zr w tb.rS rl)(hl:IntsAt w s l)(hlen:l.length<=100000)(hq:∀a,a∈l->SetAt w (regAtN rl a).laps (q a)) :
 Calls Tryz.prog 114 #[.pointer (some ⟨C,0,none⟩),.slice s.a s.n s.c] w (SetPost (fun n=>l.any fun a=>q a n) w):=by
 obtain⟨a,n,c⟩:=s
 obtain⟨hn,hcap,hx⟩:=hl
 dsimp only at hn hcap hx ⊢
 subst hn
 have hC2:=Lib.hid hC
 have hClt:=hC.lt
 have hrb:∀k x,l[k]?=some x->(fun n=>(l.take (k+1)).any fun a=>q a n)=fun n=>(l.take k).any (fun a=>q a n)||q x n:=fun k x hk=>by
  funext n
  rw[List.take_add_one,hk,List.any_append]
  simp
 have hR2:=Lib.hid hR
 obtain⟨m,⟨ra,rn,rc⟩,rm,⟨ca,cn,cc⟩,cm,⟨oa,on,oc2⟩,om,ag,rs,sv,sr⟩:=tb
 replace hx:=Lib.hid hx
 replace hq:=Lib.hid hq
 replace hrb:=Lib.hid hrb
 have hB0:Below w.heap.size w ((w.alloc (.cells #[.slice none 0 0] 86)).alloc (.cells #[.slice none 0 0] 86)):=qe.alloc (by simp) _
 have h4:Cells ((w.alloc (.cells #[.slice none 0 0] 86)).alloc (.cells #[.slice none 0 0] 86)) w.heap.size 86 #[.slice none 0 0]:=(Cells.new w _ _).alloc _
 have h5:Cells ((w.alloc (.cells #[.slice none 0 0] 86)).alloc (.cells #[.slice none 0 0] 86)) (w.heap.size+1) 86 #[.slice none 0 0]:=by
  have:=Cells.new (w.alloc (.cells #[.slice none 0 0] 86)) 86 #[.slice none 0 0]
  simpa using this
 clear hC hR
 go_enter Tryz.func114,Tryz.ntmps114
 go_wp2_with fail
 go_loopw [10] (fun i wr=>∃ (k:Nat) (s:SlV),k<=l.length/\i = .int .i64 k/\Below w.heap.size w wr/\Cells wr w.heap.size 86 #[.slice none 0 0]/\Cells wr (w.heap.size+1) 86 #[.slice s.a s.n s.c]/\Hid (SetAt wr s (fun n=>(l.take k).any fun a=>q a n))) (fun i _=>l.length-(intOf i).toNat)
 case atStart=>exact⟨0,⟨none,0,0⟩,Nat.zero_le _,rfl,hB0,h4,h5,Lib.hid (SetAt.none _)⟩
 case round=>
  clear hB0 h4 h5
  obtain⟨k,⟨sa,sn,sc⟩,hk,rfl,hB,h4,h5,hS⟩:=hrel
  have k0:(0:Int)<=k:=Int.natCast_nonneg _
  by_cases hlt:k<l.length
  ·obtain⟨x,hxk⟩:∃x,l[k]?=some x:=⟨l[k],List.getElem?_eq_getElem hlt⟩
   have hmem:=List.mem_of_getElem? hxk
   obtain⟨b,o,rfl,hc0⟩:=hx.out k x hxk
   replace hc0:=cell_below hB hc0
   have hi:IntKind.i64.wrap ((k:Int)+1)=k+1:=IntWalk.i64_in _ (by omega)
   have k1:(k:Int)<l.length:=by omega
   have hCr:=hC2.out.below hB hClt
   have KA:∀W,Below wr.heap.size wr W->Calls Tryz.prog 77 #[.agg #[.slice ra rn rc,.map rm],.int .i64 x] W fun e w'=>e = .returned (.agg (regAtN rl x).v)/\Below W.heap.size W w':=fun W hb=>Zr ⟨ra,rn,rc⟩ (.map rm) rl x W (hR2.out.below (hB.trans (hb.mono hB.size)))
   have hqx:=hq.out x hmem
   have hrk:=Lib.hid (hrb.out k x hxk)
   try dsimp only at hS
   generalize regAtN rl x=y at *
   obtain⟨yn,yr,yt,yw,⟨la,ln,lc⟩⟩:=y
   simp only[RegT.v] at KA
   have KO:∀W,Below wr.heap.size wr W->Calls Tryz.prog 118 #[.agg #[.slice sa sn sc],.agg #[.slice la ln lc]] W (SetPost (fun n=>(l.take (k+1)).any fun a=>q a n) W):=fun W hb=>by
    have:=qhM ⟨sa,sn,sc⟩ ⟨la,ln,lc⟩ _ _ W (hS.out.below hb) (hqx.below (hB.trans (hb.mono hB.size)))
    rw[hrk.out]
    exact this
   have hQ:∃Q,Q=fun n=>(l.take (k+1)).any fun a=>q a n:=⟨_,rfl⟩
   obtain⟨Q,hQ⟩:=hQ
   rw[←hQ] at KO
   replace hQ:=Lib.hid hQ
   have hP:∀W,Below wr.heap.size wr W->W.cell? ⟨w.heap.size+1,0,none⟩=some (.slice sa sn sc)/\W.frozen? ⟨w.heap.size+1,0,none⟩=false/\W.cell? ⟨C,8,none⟩=some (.slice ra rn rc)/\W.cell? ⟨C,9,none⟩=some (.map rm)/\Cells W w.heap.size 86 #[.slice none 0 0]/\Cells W (w.heap.size+1) 86 #[.slice sa sn sc]:=fun W hb=>by
    have a1:=h4.below hb h4.lt
    have a2:=h5.below hb h5.lt
    have a3:=hCr.below hb hCr.lt
    exact⟨a2.cell rfl,a2.frozen 0,a3.cell rfl,a3.cell rfl,a1,a2⟩
   obtain⟨p0,p1,p2,p3,_,_⟩:=hP wr (Below.refl _ _)
   have hfd:=Tryz.regField2
   replace hP:=Lib.hid hP
   replace KA:=Lib.hid KA
   replace KO:=Lib.hid KO
   have hBs:=hB.size
   have hb0:Below wr.heap.size wr wr.drew:=(Below.refl _ _).drew
   clear hxk hmem hqx hS h4 h5 hrk hCr
   go_wp2_with fail
   go_region_law (first
    |(go_simp;go_at_call 77;refine(KA.out _ hb0).mono ?_;rintro e W1 ⟨rfl,hb1⟩;have hA1:=hb0.trans hb1;obtain⟨r0,r1,r2,r3,_,_⟩:=hP.out _ hA1)
    |(go_simp;go_at_call 118;refine(KO.out _ hA1).mono ?_;rintro e W2 ⟨hb2,⟨za,zn,zc⟩,rfl,hz⟩;have hA2:=hA1.trans (hb2.mono hA1.size);obtain⟨u0,u1,u2,u3,u4,u5⟩:=hP.out _ hA2;replace hz:=Lib.hid hz))
   all_goals
    go_wp2_with fail
    refine⟨⟨k+1,⟨za,zn,zc⟩,by omega,by go_num,(hB.trans (hA2.mono hBs)).setCell (p:=⟨w.heap.size+1,0,none⟩) (by dsimp only;omega) _,u4.other (by omega) _,u5.set (j:=0) _,?_⟩,by simp[intOf];omega⟩
    rw[←hQ.out]
    exact Lib.hid (hz.out.set_other _ u0 (fun x hx=>by cases hx))
  ·obtain rfl:k=l.length:=by omega
   rw[List.take_length] at hS
   have c5:=h5.cell (j:=0) (v:=.slice sa sn sc) rfl
   have c4:=h4.cell (j:=0) (v:=.slice none 0 0) rfl
   have f4:=h4.frozen 0
   try dsimp only at hS
   have hfin:Hid (SetPost (fun n=>l.any fun a=>q a n) w (.returned (.agg #[.slice sa sn sc])) (wr.setCell ⟨w.heap.size,0,none⟩ (.slice sa sn sc))):=Lib.hid ⟨hB.setCell (p:=⟨w.heap.size,0,none⟩) (Nat.le_refl _) _,⟨sa,sn,sc⟩,rfl,hS.out.set_other _ c4 (fun x hx=>by cases hx)⟩
   have hld:=World.cell?_setCell_same' wr ⟨w.heap.size,0,none⟩ (.slice sa sn sc) (by rw[c4];rfl)
   clear hS h4 h5
   go_wp2_with fail
   (try simp only[Exit.inBlock,Exit.then])
   refine bodyPost_ret (v:=.agg #[.slice sa sn sc]) ?_ rfl hfin.out
   rw[qr rfl]
   clear c4
   go_simp
end Go.Proofs.YtkoloennfejaaaaGreatDoor
