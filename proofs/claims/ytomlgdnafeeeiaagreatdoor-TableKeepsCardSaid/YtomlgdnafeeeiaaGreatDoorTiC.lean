
import Derived.Test.YtomlgdnafeeeiaaGreatDoorTiA
set_option maxHeartbeats 16000000
set_option maxRecDepth 100000
/-
 The reference's Copy: the walk.
-/
namespace Go.Proofs.YtomlgdnafeeeiaaGreatDoor
open Proofs.Tryz
open Go.RowKit
attribute [-go_sem] Builtin.append_
theorem qie(l:List zL):(l.flatMap zD).length=l.length*2:=by
 induction l with
 | nil=>rfl
 | cons x r ih=>rw[List.flatMap_cons,kA,ih];simp[zD];omega
theorem qif(l:List zL):∀u∈l.flatMap zD,u.oneCell'=true:=fun u hu=>by
 obtain⟨x,_,hx⟩:=List.mem_flatMap.1 hu
 simp[zD] at hx
 rcases hx with rfl|rfl <;> rfl
def qeU(w:World)(d:qz)(L:qg)(e:Ending)(w':World):Prop:=
 BX w w'/\∃ (m':MV) (M:qg),e = .returned (.agg #[.string m'.name,.slice m'.regs.a m'.regs.n m'.regs.c,.slice m'.classes.a m'.classes.n m'.classes.c,.slice m'.ops.a m'.ops.n m'.ops.c,.slice m'.args.a m'.args.n m'.args.c,.string m'.result,.slice m'.saved.a m'.saved.n m'.saved.c,.int .i64 m'.slots])/\KY w.heap.size w' m' d M/\L.Like M
theorem qkS(m:MV)(d:qz)(L L0:qg)(w:World)(hn:m.name=d.name)(hr:m.result=d.result)(hs:m.slots=d.slots)(hg:qM w.heap.size w (.slice m.regs.a m.regs.n m.regs.c) L)(htot:L.total<=1000)
 (hk:qS w m.classes d.classes) (ho:jP w m.ops d.ops) (ha:qG w m.args d.args) (hv:qG w m.saved d.saved) (hf:yP d L0) :
 Calls prog 7 #[.agg #[.string m.name,.slice m.regs.a m.regs.n m.regs.c,.slice m.classes.a m.classes.n m.classes.c,.slice m.ops.a m.ops.n m.ops.c,.slice m.args.a m.args.n m.args.c,.string m.result,.slice m.saved.a m.saved.n m.saved.c,.int .i64 m.slots]] w (qeU w d L):=by
 obtain⟨mn,rg,⟨kla,kln,klc⟩,⟨opa,opn,opc⟩,ar,rs,sv,sl⟩:=m
 dsimp only at *
 have hcn:=hf.cn
 have hopn:=hf.on
 have hCls:Hid (∀k,k<d.classes.length->∃ (b o:Nat) (nm:ByteArray) (ra:Option Addr) (rc:Nat) (l:List ByteArray),kla=some ⟨b,o,none⟩/\w.cell? ⟨b,o+k*2,none⟩=some (.string nm)/\w.cell? ⟨b,o+k*2+1,none⟩=some (.slice ra l.length rc)/\qG w ⟨ra,l.length,rc⟩ l/\l.length<=100000/\d.classes.take (k+1)=d.classes.take k++[⟨nm,l⟩]):=vH fun k hkl=>by
  obtain⟨x,hx⟩:∃x,d.classes[k]?=some x:=⟨d.classes[k],vE hkl⟩
  obtain⟨b,o,e1,⟨ra,rn,rc⟩,c1,c2,h1⟩:=hk.2.2 k x hx
  obtain rfl:rn=x.regs.length:=h1.1
  exact⟨b,o,x.name,ra,rc,x.regs,e1,c1,c2,h1,(hf.classes x (vM hx)).2.1,by rw[vX,hx];rfl⟩
 have hOps:Hid (∀k,k<d.ops.length->∃ (b o:Nat) (x:OpD) (ua:Option Addr) (uc:Nat) (qa:Option Addr) (qc:Nat),opa=some ⟨b,o,none⟩/\(w.cell? ⟨b,o+k*6,none⟩=some (.string x.name)/\w.cell? ⟨b,o+k*6+1,none⟩=some (.string x.d.cls)/\w.cell? ⟨b,o+k*6+2,none⟩=some (.string x.d.fix)/\w.cell? ⟨b,o+k*6+3,none⟩=some (.slice ua x.uses.length uc)/\w.cell? ⟨b,o+k*6+4,none⟩=some (.int .i64 x.tie)/\w.cell? ⟨b,o+k*6+5,none⟩=some (.slice qa x.clob.length qc)) /\
  zY w ⟨ua,x.uses.length,uc⟩ x.uses/\qG w ⟨qa,x.clob.length,qc⟩ x.clob/\x.uses.length<=100000/\x.clob.length<=100000/\d.ops.take (k+1)=d.ops.take k++[x]):=vH fun k hkl=>by
  obtain⟨x,hx⟩:∃x,d.ops[k]?=some x:=⟨d.ops[k],vE hkl⟩
  obtain⟨b,o,e1,⟨ua,un,uc⟩,⟨qa,qn,qc⟩,c0,c1,c2,c3,c4,c5,h1,h2⟩:=ho.2.2 k x hx
  obtain rfl:un=x.uses.length:=h1.1
  obtain rfl:qn=x.clob.length:=h2.1
  have hfit:=hf.ops x (vM hx)
  exact⟨b,o,x,ua,uc,qa,qc,e1,⟨c0,c1,c2,c3,c4,c5⟩,h1,h2,hfit.2.2.1,hfit.2.2.2.2.1,by rw[vX,hx];rfl⟩
 have hkn:kln=d.classes.length:=hk.1
 have hon:opn=d.ops.length:=ho.1
 have hct:d.classes.take d.classes.length=d.classes:=List.take_length
 have hot:d.ops.take d.ops.length=d.ops:=List.take_length
 have hclen:∀k,k<=d.classes.length->(d.classes.take k).length=k:=fun k hk=>by rw[List.length_take];omega
 have holen:∀k,k<=d.ops.length->(d.ops.take k).length=k:=fun k hk=>by rw[List.length_take];omega
 generalize d.classes.length=cn at *
 generalize d.ops.length=on at *
 replace hkn:=hkn.symm
 replace hon:=hon.symm
 subst hkn hon
 have han:=hf.an
 have hsn:=hf.sn
 have har:ar.n=d.args.length:=ha.1
 have hsr:sv.n=d.saved.length:=hv.1
 obtain⟨W0,hW0⟩:∃W0,W0=((w.alloc (.cells #[.string mn,.slice rg.a rg.n rg.c,.slice kla cn klc,.slice opa on opc,.slice ar.a ar.n ar.c,.string rs,.slice sv.a sv.n sv.c,.int .i64 sl] 27)).alloc (.cells #[.string ⟨#[]⟩,.slice none 0 0,.slice none 0 0,.slice none 0 0,.slice none 0 0,.string ⟨#[]⟩,.slice none 0 0,.int .i64 0] 27)).alloc (.cells #[.string mn,.slice rg.a rg.n rg.c,.slice kla cn klc,.slice opa on opc,.slice ar.a ar.n ar.c,.string rs,.slice sv.a sv.n sv.c,.int .i64 sl] 27):=⟨_,rfl⟩
 obtain⟨B2,hB2⟩:∃B2,w.heap.size+1=B2:=⟨_,rfl⟩
 obtain⟨B3,hB3⟩:∃B3,B2+1=B3:=⟨_,rfl⟩
 have hb0:BX w W0:=by rw[hW0];exact(qi.alloc (by simp) _).alloc (by simp;omega) _
 have hX0:qd W0 w.heap.size 27 #[.string mn,.slice rg.a rg.n rg.c,.slice kla cn klc,.slice opa on opc,.slice ar.a ar.n ar.c,.string rs,.slice sv.a sv.n sv.c,.int .i64 sl]:=by rw[hW0];exact((qd.new _ _ _).alloc _).alloc _
 have hZ0:qd W0 B2 27 #[.string ⟨#[]⟩,.slice none 0 0,.slice none 0 0,.slice none 0 0,.slice none 0 0,.string ⟨#[]⟩,.slice none 0 0,.int .i64 0]:=by
  have:=(qd.new (w.alloc (.cells #[.string mn,.slice rg.a rg.n rg.c,.slice kla cn klc,.slice opa on opc,.slice ar.a ar.n ar.c,.string rs,.slice sv.a sv.n sv.c,.int .i64 sl] 27)) 27 #[.string ⟨#[]⟩,.slice none 0 0,.slice none 0 0,.slice none 0 0,.slice none 0 0,.string ⟨#[]⟩,.slice none 0 0,.int .i64 0]).alloc (.cells #[.string mn,.slice rg.a rg.n rg.c,.slice kla cn klc,.slice opa on opc,.slice ar.a ar.n ar.c,.string rs,.slice sv.a sv.n sv.c,.int .i64 sl] 27)
  rw[vZ,hB2] at this
  rw[hW0];exact this
 have hY0:qd W0 B3 27 #[.string mn,.slice rg.a rg.n rg.c,.slice kla cn klc,.slice opa on opc,.slice ar.a ar.n ar.c,.string rs,.slice sv.a sv.n sv.c,.int .i64 sl]:=by
  have:=qd.new ((w.alloc (.cells #[.string mn,.slice rg.a rg.n rg.c,.slice kla cn klc,.slice opa on opc,.slice ar.a ar.n ar.c,.string rs,.slice sv.a sv.n sv.c,.int .i64 sl] 27)).alloc (.cells #[.string ⟨#[]⟩,.slice none 0 0,.slice none 0 0,.slice none 0 0,.slice none 0 0,.string ⟨#[]⟩,.slice none 0 0,.int .i64 0] 27)) 27 #[.string mn,.slice rg.a rg.n rg.c,.slice kla cn klc,.slice opa on opc,.slice ar.a ar.n ar.c,.string rs,.slice sv.a sv.n sv.c,.int .i64 sl]
  rw[vZ,vZ,hB2,hB3] at this
  rw[hW0];exact this
 have hs0:B3+1=W0.heap.size:=by rw[hW0,vZ,vZ,vZ];omega
 have K1:=Yi (L.total+1) L rg.a rg.n rg.c W0 (Nat.lt_succ_self _) htot (qM.below hg hb0)
 have n13:w.heap.size≠B3:=by omega
 have n23:B2≠B3:=by omega
 have l13:w.heap.size<=B3:=by omega
 replace hW0:=vH hW0
 replace ha:=vH ha
 replace hv:=vH hv
 replace hn:=vH hn
 replace hr:=vH hr
 replace hs:=vH hs
 replace har:=vH har
 replace hsr:=vH hsr
 replace hct:=vH hct
 replace hot:=vH hot
 clear hg htot hk ho hf
 go_enter func7,ntmps7
 go_upto_region 2 with fail
 rw[←hW0.out]
 have x1:=hX0.cell (j:=1) (v:=.slice rg.a rg.n rg.c) rfl
 replace hB2:=vH hB2
 replace hB3:=vH hB3
 go_wp2_with (go_at_call 29;refine K1.mono ?_;clear K1;rintro e W1 ⟨⟨ga,gn,gc⟩,M,xs,rfl,hb1,hlk,hin,hrow⟩;have hX1:=hX0.below hb1 hX0.lt;have hZ1:=hZ0.below hb1 hZ0.lt;have hY1:=hY0.below hb1 hY0.lt;have r1:=hY1.cell (j:=1) (v:=.slice rg.a rg.n rg.c) rfl;have r2:=hY1.cell (j:=2) (v:=.slice kla cn klc) rfl;have rf:=fun j=>hY1.frozen j;have hs1:=hb1.size;replace hin:=vH hin;replace hrow:=vH hrow;replace hlk:=vH hlk)
 have hB1:=hb0.trans (hb1.mono hb0.size)
 clear x1 hX0 hZ0 hY0 r1 r2 rf
 go_loopw [4] (fun iv wr=>∃ (k:Nat) (cV:SlV),k<=cn/\iv = .int .i64 k/\BX w wr/\qd wr w.heap.size 27 #[.string mn,.slice rg.a rg.n rg.c,.slice kla cn klc,.slice opa on opc,.slice ar.a ar.n ar.c,.string rs,.slice sv.a sv.n sv.c,.int .i64 sl]/\qd wr B2 27 #[.string ⟨#[]⟩,.slice none 0 0,.slice none 0 0,.slice none 0 0,.slice none 0 0,.string ⟨#[]⟩,.slice none 0 0,.int .i64 0]/\qd wr B3 27 #[.string mn,.slice ga gn gc,.slice cV.a cV.n cV.c,.slice opa on opc,.slice ar.a ar.n ar.c,.string rs,.slice sv.a sv.n sv.c,.int .i64 sl]/\Hid (Ag (B3+1) W1 wr)/\Hid (XW W1.heap.size wr cV (d.classes.take k))) (fun iv _=>cn-(intOf iv).toNat)
 case atStart=>
  exact⟨0,⟨none,0,0⟩,vO _,rfl,(hB1.setCell (p:=⟨B3,1,none⟩) l13 _).setCell (p:=⟨B3,2,none⟩) l13 _,(hX1.other n13 _).other n13 _,(hZ1.other n23 _).other n23 _,(hY1.set (j:=1) _).set (j:=2) _,vH (((Ag.refl _ _).set (Nat.lt_succ_self _) _ _).set (Nat.lt_succ_self _) _ _),vH ⟨[],by simp,by simpa[SlV.v] using kO _ _ _ _,fun p hp=>by simp at hp⟩⟩
 case round=>
  clear hX1 hZ1 hY1
  obtain⟨k,⟨ca,cN,cc⟩,hk,rfl,hB,hX,hZ,hY,hA,hR⟩:=hrel
  obtain⟨vs,hv1,hv2,hv3⟩:=hR.out
  have k0:(0:Int)<=k:=vN _
  have hvl:vs.length=k:=by have:=congrArg List.length hv1;rw[vP,hclen k hk] at this;exact this
  have hcN:=(jk hv2).1
  dsimp only at hcN
  rw[hvl] at hcN hv2
  subst hcN
  have hAs:=hA.out.2
  dsimp only at hY
  have x2:=hX.cell (j:=2) (v:=.slice kla cn klc) rfl
  by_cases hlt:cN<cn
  ·obtain⟨b,o,nm,ra,rc,l,rfl,c0,c1,hsl,hll,htk⟩:=hCls.out cN hlt
   have k1:(cN:Int)<cn:=by omega
   have hi:IntKind.i64.wrap ((cN:Int)+1)=cN+1:=vI _ (by omega)
   have q0:=qb hB c0
   have q1:=qb hB c1
   have y2:=hY.cell (j:=2) (v:=.slice ca cN cc) rfl
   obtain⟨i0,hi0,hz0,hz1,hz2⟩:=info_parts Jz
   obtain⟨j0,hj0,hj1,hj2,hj3⟩:=info_parts JP
   obtain⟨a1,m1,Wa,hrun1,hown1,hg1⟩:=jM (P:=prog) wr.drew 25 25 9 j0 _ 1 16 underlying25 hj0 hj1 hj2 hj3 rfl (by decide) ra l.length rc (l.map Value.string) (by rw[vP,Nat.mul_one]) (hsl.below hB.drew).src (fun u hu=>by obtain⟨y,_,rfl⟩:=List.mem_map.1 hu;rfl) hll (by decide)
   have hba:BX wr Wa:=((kB _ wr).drew).grown hg1 (vL _) (fun _ e=>by cases e)
   have hrA:=qe hv2 hba
   have hbs:=hba.size
   have hBs:=hB.size
   obtain⟨g',cap',W7,hrun2,hown7,hgrow,hblk,hg7⟩:=run_append_lies (P:=prog) (Wa.alloc (.cells #[.string nm,.slice a1 l.length m1] 42)) 23 23 W1.heap.size 42 i0 _ 2 40 underlying23 hi0 hz0 hz1 hz2 rfl (by decide) (.slice ca cN cc) cN (vs.flatMap jK) (hrA.alloc _) ⟨Wa.heap.size,0,none⟩ 1 1 [.string nm,.slice a1 l.length m1] rfl (World.news_of_block (cs:=#[.string nm,.slice a1 l.length m1]) (t:=42) (fr:=(0,0)) (heap_alloc_new Wa _)) (by simp[Value.oneCell']) (by omega) (by unfold maxLen;omega) (by omega) (by simp;omega) (Wa.heap.size+1) (by simp)
   have hgr:=qE hgrow
   have hrb:∀g,(Value.slice ca cN cc).ownBlock=some g->W1.heap.size<=g:=fun g e=>(qf hv2 e).1
   have hBa:=hB.trans (hba.mono hBs)
   have hB7:BX w W7:=hBa.grown hgr (by omega) (fun g e=>by have:=hrb g e;omega)
   have hBW:Below W1.heap.size wr W7:=(hba.mono hAs).grown hgr (by omega) hrb
   have hne:∀b,b<=B3->some b≠(Value.slice ca cN cc).ownBlock:=fun b hb e=>by have:=hrb b e.symm;omega
   have hX7:=(hX.below hba hX.lt).kept hgr (hne _ l13)
   have hZ7:=(hZ.below hba hZ.lt).kept hgr (hne _ (by have:=hB3.out;omega))
   have hY7:=(hY.below hba hY.lt).kept hgr (hne _ (vL _))
   have hYa:=hY.below hba hY.lt
   have hXa:=hX.below hba hX.lt
   have ya:=hYa.cell (j:=2) (v:=.slice ca cN cc) rfl
   have yc:=fun o=>qk o ya
   have xa:=hXa.cell (j:=2) (v:=.slice (some ⟨b,o,none⟩) cn klc) rfl
   have qa0:=qb hBa c0
   have qa1:=qb hBa c1
   have y7:=hY7.cell (j:=2) (v:=.slice ca cN cc) rfl
   have x7:=hX7.cell (j:=2) (v:=.slice (some ⟨b,o,none⟩) cn klc) rfl
   have q70:=qb hB7 c0
   have q71:=qb hB7 c1
   have f7:=hY7.frozen 2
   have hfR:Hid (XW W1.heap.size (W7.setCell ⟨B3,2,none⟩ (.slice (some ⟨g',0,none⟩) (cN+1) cap')) ⟨some ⟨g',0,none⟩,cN+1,cap'⟩ (d.classes.take (cN+1))):=vH (by
    have hst:∀ {base:Nat} {v:Value} {n:Nat} {xs:List Value},Wa.ownsRow base 9 1 v n xs->W7.ownsRow base 9 1 v n xs:=fun h=>yg (h.alloc _) (hrA.alloc _) hgrow (by decide)
    have hcl:XW W1.heap.size W7 ⟨some ⟨g',0,none⟩,cN+1,cap'⟩ (d.classes.take (cN+1)):=by
     refine⟨vs++[(⟨nm,l⟩,⟨a1,l.length,m1⟩)],by rw[kM,hv1,htk];rfl,?_,fun p hp=>?_⟩
     ·rw[kA,hvl,List.flatMap_append]
      simpa[jK,SlV.v] using hown7
     ·rcases vC.1 hp with hp|hp
      ·exact hst (qe (hv3 p hp) hba)
      ·rw[List.mem_singleton] at hp
       subst hp
       exact hst (qm hown1 hAs)
    exact hcl.ag ((Ag.refl (B3+1) W7).set (Nat.lt_succ_self _) _ _) (by omega))
   have hfA:Hid (Ag (B3+1) W1 (W7.setCell ⟨B3,2,none⟩ (.slice (some ⟨g',0,none⟩) (cN+1) cap'))):=vH ((hA.out.below hBW).set (Nat.lt_succ_self _) _ _)
   have hfB:=vH (hB7.setCell (p:=⟨B3,2,none⟩) l13 (.slice (some ⟨g',0,none⟩) (cN+1) cap'))
   have hfX:=vH (hX7.other n13 (j:=2) (.slice (some ⟨g',0,none⟩) (cN+1) cap'))
   have hfZ:=vH (hZ7.other n23 (j:=2) (.slice (some ⟨g',0,none⟩) (cN+1) cap'))
   have hfY:=vH (hY7.set (j:=2) (.slice (some ⟨g',0,none⟩) (cN+1) cap'))
   clear hX7 hZ7 hY7 hYa hXa hX hZ hY hA hR hv1 hv2 hv3 hrA hown1 hown7 hgrow hblk hg7 hgr hrb hBa hBW hne hsl c0 c1 hCls hg1
   go_wp2_with fail
   go_region_law (fail)
   all_goals
    go_wp2_with fail
    exact⟨⟨cN+1,⟨some ⟨g',0,none⟩,cN+1,cap'⟩,by omega,by go_num,hfB.out,hfX.out,hfZ.out,hfY.out,hfA,hfR⟩,by simp[intOf];omega⟩
  ·obtain rfl:cN=cn:=by omega
   rw[hct.out] at hR
   have y3:=hY.cell (j:=3) (v:=.slice opa on opc) rfl
   have f3:=hY.frozen 3
   clear hv1 hv2 hv3 hCls
   go_wp2_with fail
   clear y3 f3 x2
   generalize wr=V2 at *
   have hV2:=hB.size
   go_loopw [5] (fun iv wr=>∃ (k:Nat) (oV:SlV),k<=on/\iv = .int .i64 k/\BX w wr/\qd wr w.heap.size 27 #[.string mn,.slice rg.a rg.n rg.c,.slice kla cN klc,.slice opa on opc,.slice ar.a ar.n ar.c,.string rs,.slice sv.a sv.n sv.c,.int .i64 sl]/\qd wr B2 27 #[.string ⟨#[]⟩,.slice none 0 0,.slice none 0 0,.slice none 0 0,.slice none 0 0,.string ⟨#[]⟩,.slice none 0 0,.int .i64 0]/\qd wr B3 27 #[.string mn,.slice ga gn gc,.slice ca cN cc,.slice oV.a oV.n oV.c,.slice ar.a ar.n ar.c,.string rs,.slice sv.a sv.n sv.c,.int .i64 sl]/\Hid (Ag (B3+1) V2 wr)/\Hid (XX V2.heap.size wr oV (d.ops.take k))) (fun iv _=>on-(intOf iv).toNat)
   case atStart=>
    exact⟨0,⟨none,0,0⟩,vO _,rfl,hB.setCell (p:=⟨B3,3,none⟩) l13 _,hX.other n13 _,hZ.other n23 _,hY.set (j:=3) _,vH ((Ag.refl _ _).set (Nat.lt_succ_self _) _ _),vH ⟨[],by simp,by simpa[SlV.v] using kO _ _ _ _,fun p hp=>by simp at hp⟩⟩
   case round=>
    have hBV:=vH hB
    clear hX hZ hY hB
    obtain⟨k,⟨oa,oN,oc⟩,hk,rfl,hB,hX,hZ,hY,hA2,hR2⟩:=hrel
    obtain⟨vs,hv1,hv2,hv3⟩:=hR2.out
    have k0:(0:Int)<=k:=vN _
    have hvl:vs.length=k:=by have:=congrArg List.length hv1;rw[vP,holen k hk] at this;exact this
    have hoN:=(jk hv2).1
    dsimp only at hoN
    rw[hvl] at hoN hv2
    subst hoN
    have hAs2:=hA2.out.2
    dsimp only at hY
    have x3:=hX.cell (j:=3) (v:=.slice opa on opc) rfl
    by_cases hlt:oN<on
    ·obtain⟨b,o,⟨xn,⟨xc,xf⟩,xu,xt,xk⟩,ua,uc,qa,qc,rfl,⟨c0,c1,c2,c3,c4,c5⟩,hsu,hsq,hul,hql,htk⟩:=hOps.out oN hlt
     dsimp only at c0 c1 c2 c3 c4 c5 hsu hsq hul hql
     have k1:(oN:Int)<on:=by omega
     have hi:IntKind.i64.wrap ((oN:Int)+1)=oN+1:=vI _ (by omega)
     have q0:=qb hB c0
     have q1:=qb hB c1
     have q2:=qb hB c2
     have q3:=qb hB c3
     have q4:=qb hB c4
     have q5:=qb hB c5
     obtain⟨i0,hi0,hz0,hz1,hz2⟩:=info_parts qcX
     obtain⟨j0,hj0,hj1,hj2,hj3⟩:=info_parts JP
     obtain⟨l0,hl0,hl1,hl2,hl3⟩:=info_parts YE
     obtain⟨WP,hWP⟩:∃WP,WP=wr.alloc (.cells #[.string xn,.string xc,.string xf,.slice ua xu.length uc,.int .i64 xt,.slice qa xk.length qc] 47):=⟨_,rfl⟩
     have hbP:BX wr WP:=by rw[hWP];exact qi
     have hP:qd WP wr.heap.size 47 #[.string xn,.string xc,.string xf,.slice ua xu.length uc,.int .i64 xt,.slice qa xk.length qc]:=by rw[hWP];exact qd.new _ _ _
     have hBs:=hB.size
     have hBP:=hB.trans (hbP.mono hBs)
     obtain⟨a1,m1,Wa,hrun1,hown1,hg1⟩:=jM (P:=prog) WP 45 45 44 l0 _ 2 32 underlying45 hl0 hl1 hl2 hl3 rfl (by decide) ua xu.length uc (xu.flatMap zD) (qie xu) (hsu.below hBP).src (qif xu) hul (by decide)
     have hPa:=hP.kept hg1 (by simp)
     have hba:BX WP Wa:=(kB _ WP).grown hg1 (vL _) (fun _ e=>by cases e)
     have hBa:=hBP.trans (hba.mono hBP.size)
     have hPb:=hPa.set (j:=3) (.slice a1 xu.length m1)
     have hBb:=hBa.setCell (p:=⟨wr.heap.size,3,none⟩) hBs (.slice a1 xu.length m1)
     have hlP:=hP.lt
     obtain⟨Wb,hWb⟩:∃Wb,Wb=Wa.setCell ⟨wr.heap.size,3,none⟩ (.slice a1 xu.length m1):=⟨_,rfl⟩
     rw[←hWb] at hPb hBb
     obtain⟨a2,m2,Wc,hrun2,hown2,hg2⟩:=jM (P:=prog) Wb 25 25 9 j0 _ 1 16 underlying25 hj0 hj1 hj2 hj3 rfl (by decide) qa xk.length qc (xk.map Value.string) (by rw[vP,Nat.mul_one]) (hsq.below hBb).src (fun u hu=>by obtain⟨y,_,rfl⟩:=List.mem_map.1 hu;rfl) hql (by decide)
     have hPc:=hPb.kept hg2 (by simp)
     have hbc:BX Wb Wc:=(kB _ Wb).grown hg2 (vL _) (fun _ e=>by cases e)
     have hszb:Wb.heap.size=Wa.heap.size:=by rw[hWb];simp
     have hBc:=hBb.trans (hbc.mono hBb.size)
     have hPd:=hPc.set (j:=5) (.slice a2 xk.length m2)
     have hBd:=hBc.setCell (p:=⟨wr.heap.size,5,none⟩) hBs (.slice a2 xk.length m2)
     obtain⟨Wd,hWd⟩:∃Wd,Wd=Wc.setCell ⟨wr.heap.size,5,none⟩ (.slice a2 xk.length m2):=⟨_,rfl⟩
     rw[←hWd] at hPd hBd
     have hszd:Wd.heap.size=Wc.heap.size:=by rw[hWd];simp
     have hbs:=hba.size
     have hbs2:=hbc.size
     have hbd:BX wr Wd:=by
      rw[hWd]
      refine Below.setCell (p:=⟨wr.heap.size,5,none⟩) ?_ (vL _) _
      have h1:BX wr Wb:=by rw[hWb];exact(hbP.trans (hba.mono hbP.size)).setCell (p:=⟨wr.heap.size,3,none⟩) (vL _) _
      exact h1.trans (hbc.mono h1.size)
     have hrD:=qe hv2 hbd
     have hbds:=hbd.size
     obtain⟨g',cap',W7,hrun3,hown7,hgrow,hblk,hg7⟩:=run_append_lies (P:=prog) (Wd.alloc (.cells #[.string xn,.string xc,.string xf,.slice a1 xu.length m1,.int .i64 xt,.slice a2 xk.length m2] 47)) 24 24 V2.heap.size 47 i0 _ 6 104 underlying24 hi0 hz0 hz1 hz2 rfl (by decide) (.slice oa oN oc) oN (vs.flatMap jL) (hrD.alloc _) ⟨Wd.heap.size,0,none⟩ 1 1 [.string xn,.string xc,.string xf,.slice a1 xu.length m1,.int .i64 xt,.slice a2 xk.length m2] rfl (World.news_of_block (cs:=#[.string xn,.string xc,.string xf,.slice a1 xu.length m1,.int .i64 xt,.slice a2 xk.length m2]) (t:=47) (fr:=(0,0)) (heap_alloc_new Wd _)) (by simp[Value.oneCell']) (by omega) (by unfold maxLen;omega) (by omega) (by simp;omega) (Wd.heap.size+1) (by simp)
     have hgr:=qE hgrow
     have hrb:∀g,(Value.slice oa oN oc).ownBlock=some g->V2.heap.size<=g:=fun g e=>(qf hv2 e).1
     have hB7:BX w W7:=hBd.grown hgr (by omega) (fun g e=>by have:=hrb g e;omega)
     have hBW:Below V2.heap.size wr W7:=(hbd.mono hAs2).grown hgr (by omega) hrb
     have hV3:=hA.out.2
     have hne:∀b,b<=B3->some b≠(Value.slice oa oN oc).ownBlock:=fun b hb e=>by have:=hrb b e.symm;omega
     have hX7:=(hX.below hbd hX.lt).kept hgr (hne _ l13)
     have hZ7:=(hZ.below hbd hZ.lt).kept hgr (hne _ (by have:=hB3.out;omega))
     have hY7:=(hY.below hbd hY.lt).kept hgr (hne _ (vL _))
     have xP:=qb hbP x3
     have p3:=hPa.cell (j:=3) (v:=.slice ua xu.length uc) rfl
     have pf:=hPa.frozen 3
     have q3P:=qb hBP c3
     have xb:=(hX.below (show BX wr Wb by rw[hWb];exact(hbP.trans (hba.mono hbP.size)).setCell (p:=⟨wr.heap.size,3,none⟩) (vL _) _) hX.lt).cell (j:=3) (v:=.slice (some ⟨b,o,none⟩) on opc) rfl
     have q5b:=qb hBb c5
     have p5:=hPc.cell (j:=5) (v:=.slice qa xk.length qc) rfl
     have pg:=hPc.frozen 5
     have yd:=(hY.below hbd hY.lt).cell (j:=3) (v:=.slice oa oN oc) rfl
     have s0:=hPd.cell (j:=0) (v:=.string xn) rfl
     have s1:=hPd.cell (j:=1) (v:=.string xc) rfl
     have s2:=hPd.cell (j:=2) (v:=.string xf) rfl
     have s3:=hPd.cell (j:=3) (v:=.slice a1 xu.length m1) rfl
     have s4:=hPd.cell (j:=4) (v:=.int .i64 xt) rfl
     have s5:=hPd.cell (j:=5) (v:=.slice a2 xk.length m2) rfl
     have y7:=hY7.cell (j:=3) (v:=.slice oa oN oc) rfl
     have f7:=hY7.frozen 3
     have hfR:Hid (XX V2.heap.size (W7.setCell ⟨B3,3,none⟩ (.slice (some ⟨g',0,none⟩) (oN+1) cap')) ⟨some ⟨g',0,none⟩,oN+1,cap'⟩ (d.ops.take (oN+1))):=vH (by
      have hst:∀ {e:TypeId} {size:Nat} {base:Nat} {v:Value} {n:Nat} {xs:List Value},Wd.ownsRow base e size v n xs->e≠47->W7.ownsRow base e size v n xs:=fun h he=>yg (h.alloc _) (hrD.alloc _) hgrow he
      have hu1:Wd.ownsRow V2.heap.size 44 2 (.slice a1 xu.length m1) xu.length (xu.flatMap zD):=by
       have h1:=(qt.of_set (ts:=[47]) hPa (by simp) 3 (.slice a1 xu.length m1)).row (qm hown1 (vR hAs2 hbP.size)) (by decide)
       rw[←hWb] at h1
       have h2:=(qt.of_set (ts:=[47]) hPc (by simp) 5 (.slice a2 xk.length m2)).row (qe h1 hbc) (by decide)
       rw[←hWd] at h2
       exact h2
      have hq1:Wd.ownsRow V2.heap.size 9 1 (.slice a2 xk.length m2) xk.length (xk.map Value.string):=by
       have h2:=(qt.of_set (ts:=[47]) hPc (by simp) 5 (.slice a2 xk.length m2)).row (qm hown2 (show V2.heap.size<=Wb.heap.size by have:=hbP.size;omega)) (by decide)
       rw[←hWd] at h2
       exact h2
      have hcl:XX V2.heap.size W7 ⟨some ⟨g',0,none⟩,oN+1,cap'⟩ (d.ops.take (oN+1)):=by
       refine⟨vs++[(⟨xn,⟨xc,xf⟩,xu,xt,xk⟩,⟨a1,xu.length,m1⟩,⟨a2,xk.length,m2⟩)],by rw[kM,hv1,htk];rfl,?_,fun p hp=>?_⟩
       ·rw[kA,hvl,List.flatMap_append]
        simpa[jL,SlV.v] using hown7
       ·rcases vC.1 hp with hp|hp
        ·exact⟨hst (qe (hv3 p hp).1 hbd) (by decide),hst (qe (hv3 p hp).2 hbd) (by decide)⟩
        ·rw[List.mem_singleton] at hp
         subst hp
         exact⟨hst hu1 (by decide),hst hq1 (by decide)⟩
      exact hcl.ag ((Ag.refl (B3+1) W7).set (Nat.lt_succ_self _) _ _) (by omega))
     have hfA:Hid (Ag (B3+1) V2 (W7.setCell ⟨B3,3,none⟩ (.slice (some ⟨g',0,none⟩) (oN+1) cap'))):=vH ((hA2.out.below hBW).set (Nat.lt_succ_self _) _ _)
     have hfB:=vH (hB7.setCell (p:=⟨B3,3,none⟩) l13 (.slice (some ⟨g',0,none⟩) (oN+1) cap'))
     have hfX:=vH (hX7.other n13 (j:=3) (.slice (some ⟨g',0,none⟩) (oN+1) cap'))
     have hfZ:=vH (hZ7.other n23 (j:=3) (.slice (some ⟨g',0,none⟩) (oN+1) cap'))
     have hfY:=vH (hY7.set (j:=3) (.slice (some ⟨g',0,none⟩) (oN+1) cap'))
     replace hWP:=vH hWP
     replace hWb:=vH hWb
     replace hWd:=vH hWd
     clear hX7 hZ7 hY7 hX hZ hY hA2 hR2 hv1 hv2 hv3 hown1 hown2 hown7 hgrow hblk hg7 hgr hrb hBW hne hsu hsq c0 c1 c2 c3 c4 c5 hOps hg1 hg2 hrD hP hPa hPb hPc hPd hbd hba hbc hBa hBb hBc hBd hbP hszb hszd
     go_upto_region 13 with fail
     rw[←hWP.out]
     go_upto_region 14 with fail
     rw[←hWb.out]
     go_upto_region 15 with fail
     rw[←hWd.out]
     go_wp2_with fail
     exact⟨⟨oN+1,⟨some ⟨g',0,none⟩,oN+1,cap'⟩,by omega,by go_num,hfB.out,hfX.out,hfZ.out,hfY.out,hfA,hfR⟩,by simp[intOf];omega⟩
    ·obtain rfl:oN=on:=by omega
     rw[hot.out] at hR2
     obtain⟨j0,hj0,hj1,hj2,hj3⟩:=info_parts JP
     have hBs:=hB.size
     have hone:∀l:List ByteArray,∀u∈l.map Value.string,u.oneCell'=true:=fun l u hu=>by obtain⟨y,_,rfl⟩:=List.mem_map.1 hu;rfl
     have hone':=vH hone
     obtain⟨a3,m3,Wa,hrun3,hown3,hg3⟩:=jM (P:=prog) wr 25 25 9 j0 _ 1 16 underlying25 hj0 hj1 hj2 hj3 rfl (by decide) ar.a ar.n ar.c (d.args.map Value.string) (by rw[vP,har.out,Nat.mul_one]) (ha.out.below hB).src (hone _) (by rw[har.out];exact han) (by decide)
     have hba:BX wr Wa:=(kB _ wr).grown hg3 (vL _) (fun _ e=>by cases e)
     have hBa:=hB.trans (hba.mono hBs)
     have hXa:=hX.kept hg3 (by simp)
     have hYa:=hY.kept hg3 (by simp)
     have hZa:=hZ.kept hg3 (by simp)
     obtain⟨Wb,hWb⟩:∃Wb,Wb=Wa.setCell ⟨B3,4,none⟩ (.slice a3 ar.n m3):=⟨_,rfl⟩
     have hBb:BX w Wb:=by rw[hWb];exact hBa.setCell (p:=⟨B3,4,none⟩) l13 _
     have hXb:qd Wb w.heap.size 27 #[.string mn,.slice rg.a rg.n rg.c,.slice kla cN klc,.slice opa oN opc,.slice ar.a ar.n ar.c,.string rs,.slice sv.a sv.n sv.c,.int .i64 sl]:=by rw[hWb];exact hXa.other n13 _
     have hYb:qd Wb B3 27 #[.string mn,.slice ga gn gc,.slice ca cN cc,.slice oa oN oc,.slice a3 ar.n m3,.string rs,.slice sv.a sv.n sv.c,.int .i64 sl]:=by rw[hWb];exact hYa.set (j:=4) (.slice a3 ar.n m3)
     have hZb:qd Wb B2 27 #[.string ⟨#[]⟩,.slice none 0 0,.slice none 0 0,.slice none 0 0,.slice none 0 0,.string ⟨#[]⟩,.slice none 0 0,.int .i64 0]:=by rw[hWb];exact hZa.other n23 _
     obtain⟨a4,m4,Wc,hrun4,hown4,hg4⟩:=jM (P:=prog) Wb 25 25 9 j0 _ 1 16 underlying25 hj0 hj1 hj2 hj3 rfl (by decide) sv.a sv.n sv.c (d.saved.map Value.string) (by rw[vP,hsr.out,Nat.mul_one]) (hv.out.below hBb).src (hone _) (by rw[hsr.out];exact hsn) (by decide)
     have hbc:BX Wb Wc:=(kB _ Wb).grown hg4 (vL _) (fun _ e=>by cases e)
     have hBc:=hBb.trans (hbc.mono hBb.size)
     have hYc:=hYb.kept hg4 (by simp)
     have hZc:=hZb.kept hg4 (by simp)
     obtain⟨Wd,hWd⟩:∃Wd,Wd=Wc.setCell ⟨B3,6,none⟩ (.slice a4 sv.n m4):=⟨_,rfl⟩
     have hBd:BX w Wd:=by rw[hWd];exact hBc.setCell (p:=⟨B3,6,none⟩) l13 _
     have hYd:qd Wd B3 27 #[.string mn,.slice ga gn gc,.slice ca cN cc,.slice oa oN oc,.slice a3 ar.n m3,.string rs,.slice a4 sv.n m4,.int .i64 sl]:=by rw[hWd];exact hYc.set (j:=6) (.slice a4 sv.n m4)
     have hZd:qd Wd B2 27 #[.string ⟨#[]⟩,.slice none 0 0,.slice none 0 0,.slice none 0 0,.slice none 0 0,.string ⟨#[]⟩,.slice none 0 0,.int .i64 0]:=by rw[hWd];exact hZc.other n23 _
     have lt3:B3<B3+1:=Nat.lt_succ_self _
     have agb:Ag (B3+1) Wa Wb:=by rw[hWb];exact(Ag.refl _ _).set lt3 _ _
     have agd:Ag (B3+1) Wb Wd:=by rw[hWd];exact((Ag.refl _ _).below hbc).set lt3 _ _
     have aga:Ag (B3+1) Wa Wd:=agb.trans agd
     have agr:Ag (B3+1) wr Wd:=((Ag.refl _ wr).below hba).trans aga
     have agv:Ag (B3+1) V2 Wd:=hA2.out.trans agr
     have agw:Ag (B3+1) W1 Wd:=hA.out.trans agv
     have hszv:=hA.out.2
     have hszr:=hA2.out.2
     have oRow:∃xs,Wd.ownsRow (B3+1) 40 4 (.slice ga gn gc) M.length xs:=⟨xs,by
      have:=agw.row hrow.out (by omega)
      rw[hlk.out.length] at this
      exact qm this (by omega)⟩
     have oA:Wd.ownsRow (B3+1) 9 1 (.slice a3 ar.n m3) d.args.length (d.args.map Value.string):=by
      have:=qm (aga.row hown3 (by omega)) (base':=B3+1) (by omega)
      rw[har.out] at this ⊢
      exact this
     have oS:Wd.ownsRow (B3+1) 9 1 (.slice a4 sv.n m4) d.saved.length (d.saved.map Value.string):=by
      have h4:Ag (B3+1) Wc Wd:=by rw[hWd];exact(Ag.refl _ _).set lt3 _ _
      have hs4:B3+1<=Wb.heap.size:=by have:=agb.2;have:=hba.size;omega
      have:=qm (h4.row hown4 hs4) hs4
      rw[hsr.out] at this ⊢
      exact this
     have hOwn:Hid (KY (B3+1) Wd ⟨mn,⟨ga,gn,gc⟩,⟨ca,cN,cc⟩,⟨oa,oN,oc⟩,⟨a3,ar.n,m3⟩,rs,⟨a4,sv.n,m4⟩,sl⟩ d M):=vH
      ⟨hn.out,hr.out,hs.out,xX.ag (A:=W1) (by rw[hs0];exact hin.out) agw,oRow,(hR.out.ag agv (by omega)).mono (by omega),(hR2.out.ag agr (by omega)).mono (by omega),oA,oS⟩
     clear oRow oA oS
     have x4:=hX.cell (j:=4) (v:=.slice ar.a ar.n ar.c) rfl
     have x6:=hXb.cell (j:=6) (v:=.slice sv.a sv.n sv.c) rfl
     have ya4:=hYa.cell (j:=4) (v:=.slice ar.a ar.n ar.c) rfl
     have fa4:=hYa.frozen 4
     have yc6:=hYc.cell (j:=6) (v:=.slice sv.a sv.n sv.c) rfl
     have fc6:=hYc.frozen 6
     have d0:=hYd.cell (j:=0) (v:=.string mn) rfl
     have d1:=hYd.cell (j:=1) (v:=.slice ga gn gc) rfl
     have d2:=hYd.cell (j:=2) (v:=.slice ca cN cc) rfl
     have d3:=hYd.cell (j:=3) (v:=.slice oa oN oc) rfl
     have d4:=hYd.cell (j:=4) (v:=.slice a3 ar.n m3) rfl
     have d5:=hYd.cell (j:=5) (v:=.string rs) rfl
     have d6:=hYd.cell (j:=6) (v:=.slice a4 sv.n m4) rfl
     have d7:=hYd.cell (j:=7) (v:=.int .i64 sl) rfl
     have z0:=hZd.cell (j:=0) (v:=.string ⟨#[]⟩) rfl
     have z1:=hZd.cell (j:=1) (v:=.slice none 0 0) rfl
     have z2:=hZd.cell (j:=2) (v:=.slice none 0 0) rfl
     have z3:=hZd.cell (j:=3) (v:=.slice none 0 0) rfl
     have z4:=hZd.cell (j:=4) (v:=.slice none 0 0) rfl
     have z5:=hZd.cell (j:=5) (v:=.string ⟨#[]⟩) rfl
     have z6:=hZd.cell (j:=6) (v:=.slice none 0 0) rfl
     have z7:=hZd.cell (j:=7) (v:=.int .i64 0) rfl
     have zf:=fun j=>hZd.frozen j
     have l12:w.heap.size<=B2:=by have:=hB2.out;omega
     have l23:B2<B3+1:=by have:=hB3.out;omega
     replace hWb:=vH hWb
     replace hWd:=vH hWd
     clear hX hY hZ hXa hYa hZa hXb hYb hZb hYc hZc hYd hZd hB hBa hBb hBc hba hbc hg3 hg4 hown3 hown4 hone agb agd aga agr agv agw hA hA2 hR hR2 hv1 hv2 hv3 hOps hszv hszr
     go_upto_region 17 with fail
     rw[←hWb.out]
     go_upto_region 18 with fail
     rw[←hWd.out]
     go_wp2_with fail
     (try simp only[Exit.inBlock,Exit.then])
     refine bodyPost_ret (v:=.agg #[.string mn,.slice ga gn gc,.slice ca cN cc,.slice oa oN oc,.slice a3 ar.n m3,.string rs,.slice a4 sv.n m4,.int .i64 sl]) ?_ rfl ⟨?_,⟨mn,⟨ga,gn,gc⟩,⟨ca,cN,cc⟩,⟨oa,oN,oc⟩,⟨a3,ar.n,m3⟩,rs,⟨a4,sv.n,m4⟩,sl⟩,M,rfl,(hOwn.out.ag ?_).mono (by omega),hlk.out⟩
     ·rw[qO rfl]
      go_simp
     ·(repeat' (first|with_reducible exact hBd|refine Below.setCell ?_ l12 _))
     ·(repeat' (first|with_reducible exact Ag.refl _ _|refine Ag.set ?_ l23 _ _))
end Go.Proofs.YtomlgdnafeeeiaaGreatDoor
