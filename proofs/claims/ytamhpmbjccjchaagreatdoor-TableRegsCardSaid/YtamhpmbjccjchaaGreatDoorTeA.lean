/-
  The reference's Saved, Within, Survives, Roots.
-/
import Derived.Test.YtamhpmbjccjchaaGreatDoorRefTwo
import Derived.Test.YtamhpmbjccjchaaGreatDoorTcIP
import Derived.Deep.RegionHeld3
set_option maxHeartbeats 3200000
set_option maxRecDepth 100000
namespace Go.Proofs.YtamhpmbjccjchaaGreatDoor
open Go.RowKit
theorem qfK(T:Nat)(t:TV)(d:MachD)(ns:List ByteArray)(ps:List Plc)(cls:List (List Int))(w:World)(h:TabOk w T t d ns ps cls) :
 Calls Tryz.prog 47 #[.pointer (some ⟨T,0,none⟩)] w (xD w (listS ns d.saved)):=by
 have K:=Xt T t ns t.m.saved d.saved w h.tab h.names h.nbig h.saved h.sb
 have c3:=Cells.cell h.tab (j:=6) (v:=.slice t.m.saved.a t.m.saved.n t.m.saved.c) rfl
 clear h
 go_enter Tryz.func47,Tryz.ntmps47
 go_wp2_with (go_at_call 91;refine K.mono ?_;clear K;rintro e W1 ⟨s,rfl,hr,hb⟩;replace hr:=Lib.hid hr)
 go_ret
 exact⟨s,rfl,hr.out,hb⟩
theorem qfL(T:Nat)(t:TV)(w:World)(h:TabAt w T t) :
 Calls Tryz.prog 22 #[.pointer (some ⟨T,0,none⟩)] w fun e w'=>e = .returned (.int .i64 t.m.regs.n)/\w=w':=by
 have c3:=Cells.cell h (j:=1) (v:=.slice t.m.regs.a t.m.regs.n t.m.regs.c) rfl
 clear h
 go_enter Tryz.func22,Tryz.ntmps22
 go_wp2_with fail
 go_ret
 exact⟨rfl,rfl⟩
theorem qdU(p q:Plc)(w:World)(hp:PlcOk p)(hq:PlcOk q) :
 Calls Tryz.prog 48 #[.agg #[.int .i64 p.1,.int .i64 p.2.1,.int .i64 p.2.2],.agg #[.int .i64 q.1,.int .i64 q.2.1,.int .i64 q.2.2]] w fun e w'=>
  e = .returned (.bool (ze p q))/\Below w.heap.size w w':=by
 obtain⟨p1,p2,p3⟩:=p
 obtain⟨q1,q2,q3⟩:=q
 obtain⟨a1,a2,a3,a4⟩:=hp
 obtain⟨b1,b2,b3,b4⟩:=hq
 dsimp only at a1 a2 a3 a4 b1 b2 b3 b4 ⊢
 have s1:IntKind.i64.wrap (q2+q3)=q2+q3:=IntWalk.i64_in _ (by omega)
 have s2:IntKind.i64.wrap (p2+p3)=p2+p3:=IntWalk.i64_in _ (by omega)
 have g1:¬ p3<1:=by omega
 have hB:Hid (Below w.heap.size w ((w.alloc (.cells #[.int .i64 p1,.int .i64 p2,.int .i64 p3] 63)).alloc (.cells #[.int .i64 q1,.int .i64 q2,.int .i64 q3] 63))):=Lib.hid (qe.alloc (by simp) _)
 by_cases h:p1=q1
 ·subst h
  by_cases hA:q2<=p2
  ·by_cases hC:p2+p3<=q2+q3
   ·have hr:Hid (ze (p1,p2,p3) (p1,q2,q3)=true):=Lib.hid (by unfold ze;simp[hA,hC])
    go_enter Tryz.func48,Tryz.ntmps48
    go_wp2_with fail
    go_ret
    exact⟨qg hr.out.symm,hB.out⟩
   ·have hr:Hid (ze (p1,p2,p3) (p1,q2,q3)=false):=Lib.hid (by unfold ze;simp[hC])
    go_enter Tryz.func48,Tryz.ntmps48
    go_wp2_with fail
    go_ret
    exact⟨qg hr.out.symm,hB.out⟩
  ·have hr:Hid (ze (p1,p2,p3) (p1,q2,q3)=false):=Lib.hid (by unfold ze;simp[hA])
   go_enter Tryz.func48,Tryz.ntmps48
   go_wp2_with fail
   go_ret
   exact⟨qg hr.out.symm,hB.out⟩
 ·have hr:Hid (ze (p1,p2,p3) (q1,q2,q3)=false):=Lib.hid (by unfold ze;simp[h])
  have h2:(p1==q1)=false:=by simpa using h
  have h3:decide (p1=q1)=false:=by simpa using h
  go_enter Tryz.func48,Tryz.ntmps48
  go_wp2_with fail
  go_ret
  exact⟨qg hr.out.symm,hB.out⟩
def Yg(ns:List ByteArray)(ps:List Plc)(saved:List ByteArray)(a:Int):Bool:=decide (0<=a)&&(regsL ns saved).any fun s=>survP ps s a.toNat
theorem qdV{ps:List Plc}{a s:Int}(ha:Num ps a):survP ps s a.toNat=ze (plc ps a) (plc ps s):=by
 have h1:=ha.1
 have h2:=ha.2
 unfold survP
 rw[decide_eq_true (show a.toNat<ps.length by omega),Bool.true_and]
 rfl
theorem qdW{ns:List ByteArray}{ps:List Plc}{saved:List ByteArray}{a:Int}(h:a<0∨(ps.length:Int)<=a):Yg ns ps saved a=false:=by
 unfold Yg
 by_cases h0:0<=a
 ·rw[List.any_eq_false.2,Bool.and_false]
  intro x _
  unfold survP
  rw[decide_eq_false (by omega)]
  simp
 ·rw[decide_eq_false h0];rfl
theorem qaZ(T:Nat)(t:TV)(d:MachD)(ns:List ByteArray)(ps:List Plc)(cls:List (List Int))(a:Int)(w:World)(h:TabOk w T t d ns ps cls)(hall:∀x,x∈d.saved->0<=regN ns x) :
 Calls Tryz.prog 27 #[.pointer (some ⟨T,0,none⟩),.int .i64 a] w fun e w'=>e = .returned (.bool (Yg ns ps d.saved a))/\Below w.heap.size w w':=by
 have c9:=Cells.cell h.tab (j:=9) (v:=.slice t.places.a t.places.n t.places.c) rfl
 have hlen:=h.places.len
 have ea:t.cv.places=t.places:=rfl
 rw[ea] at hlen
 by_cases ho:a<0∨(ps.length:Int)<=a
 ·rw[qdW ho]
  clear h ea
  rcases(by omega:a<0∨0<=a) with h0|h0
  ·go_enter Tryz.func27,Tryz.ntmps27
   go_wp2_with fail
   go_ret
   exact⟨rfl,Below.refl _ _⟩
  ·have h1:¬ a<0:=by omega
   have h2:(t.places.n:Int)<=a:=by omega
   clear ho
   go_enter Tryz.func27,Tryz.ntmps27
   go_wp2_with fail
   go_ret
   exact⟨rfl,Below.refl _ _⟩
 have hN:Num ps a:=⟨by omega,by omega⟩
 obtain⟨i,rfl⟩:∃i:Nat,a=i:=⟨a.toNat,by omega⟩
 have hS:=qfK T t d ns ps cls w h
 rw[ZG hall] at hS
 obtain⟨b,o,ha,p0,p1,p2⟩:=h.places.at_ _ _ hN.get
 have hQ:Hid (∀k s,(regsL ns d.saved)[k]?=some s->Num ps s/\∀W,Below w.heap.size w W->Calls Tryz.prog 48 #[.agg #[.int .i64 (plc ps i).1,.int .i64 (plc ps i).2.1,.int .i64 (plc ps i).2.2],.agg #[.int .i64 (plc ps s).1,.int .i64 (plc ps s).2.1,.int .i64 (plc ps s).2.2]] W fun e w'=>e = .returned (.bool (survP ps s i))/\Below W.heap.size W w'):=Lib.hid fun k s hk=>by
  have hs:Num ps s:=by
   obtain⟨x,hx,rfl⟩:=List.mem_map.1 (List.mem_of_getElem? hk)
   have h1:=hall x hx
   have h2:=qK ns x
   have h3:=h.len
   exact⟨h1,by omega⟩
  refine⟨hs,fun W _=>?_⟩
  have:=qdU (plc ps i) (plc ps s) W (hN.plc_ok h.places) (hs.plc_ok h.places)
  rw[←qdV hN] at this
  exact this
 have hpl:Hid (∀s:Nat,Num ps s->∃x0 x1 x2:Int,plc ps s=(x0,x1,x2)/\w.cell? ⟨b,o+s*3,none⟩=some (.int .i64 x0)/\w.cell? ⟨b,o+s*3+1,none⟩=some (.int .i64 x1)/\w.cell? ⟨b,o+s*3+2,none⟩=some (.int .i64 x2)):=Lib.hid fun s hs=>by
  obtain⟨b',o',ha',q0,q1,q2⟩:=h.places.at_ _ _ hs.get
  rw[ha] at ha'
  cases ha'
  simp only[Int.toNat_natCast] at q0 q1 q2
  exact⟨_,_,_,rfl,q0,q1,q2⟩
 rw[ea] at ha
 rw[ha] at c9
 have hfew:=h.few
 have hsv:(regsL ns d.saved).length<=100000:=by have:=h.sb;simpa[regsL] using this
 have hres:Hid (Yg ns ps d.saved i=(regsL ns d.saved).any fun s=>survP ps s i):=Lib.hid (by unfold Yg;simp)
 simp only[Int.toNat_natCast] at p0 p1 p2
 have i0:¬ (i:Int)<0:=by omega
 have i1:i<t.places.n:=by have:=hN.2;omega
 have i2:¬ (t.places.n:Int)<=i:=by omega
 have i3:(i:Int)<t.places.n:=by omega
 have i4:(0:Int)<=i:=by omega
 rw[hres.out]
 generalize regsL ns d.saved=L at *
 generalize plc ps (i:Int)=pr at *
 obtain⟨u0,u1,u2⟩:=pr
 dsimp only at p0 p1 p2 hQ
 have hlen2:=Lib.hid hlen
 generalize t.places.n=pn at *
 generalize t.places.c=pc at *
 clear h ho hN hres ea ha hlen hfew hall
 go_enter Tryz.func27,Tryz.ntmps27
 go_wp2_with (go_at_call 47;refine hS.mono ?_;clear hS;rintro e W1 ⟨⟨sa,sn,sc⟩,rfl,hr,hb1⟩)
 have hrI:=IntsR.at_ (s:=⟨sa,sn,sc⟩) (qj hr (Nat.zero_le _))
 have hsn:=hrI.1
 dsimp only at hsn
 subst hsn
 replace hrI:=Lib.hid hrI
 clear hr
 go_loopw [6,7] (fun k v wr=>∃j:Nat,j<=L.length/\k = .int .i64 j/\Below W1.heap.size W1 wr/\Hid (∀s,s∈L.take j->survP ps s i=false)) (fun k _ _=>L.length-(intOf k).toNat)
 case atStart=>exact⟨0,Nat.zero_le _,rfl,Below.refl _ _,Lib.hid (by simp)⟩
 case round=>
  obtain⟨j,hj,rfl,hb,hno⟩:=hrel
  have hbw:Below w.heap.size w wr:=hb1.trans (hb.mono hb1.size)
  by_cases hlt:j<L.length
  ·obtain⟨s,hs⟩:∃s,L[j]?=some s:=⟨L[j],List.getElem?_eq_getElem hlt⟩
   obtain⟨sb,so,h1,c1⟩:=(hrI.out.below hb).2.2 j s hs
   dsimp only at h1
   subst h1
   obtain⟨hsN,K⟩:=hQ.out j s hs
   obtain⟨m,rfl⟩:∃m:Nat,s=m:=⟨s.toNat,by have:=hsN.1;omega⟩
   obtain⟨v0,v1,v2,hv,q0,q1,q2⟩:=hpl.out m hsN
   rw[hv] at K
   dsimp only at K
   have j1:(j:Int)<L.length:=by omega
   have m1:m<pn:=by have:=hsN.2;have:=hlen2.out;omega
   have m2:(m:Int)<pn:=by omega
   have m0:(0:Int)<=m:=by omega
   have d9:=cell_below hbw c9
   have e0:=cell_below hbw p0
   have e1:=cell_below hbw p1
   have e2:=cell_below hbw p2
   have f0:=cell_below hbw q0
   have f1:=cell_below hbw q1
   have f2:=cell_below hbw q2
   have hnx:Hid (survP ps m i=false->∀s,s∈L.take (j+1)->survP ps s i=false):=Lib.hid fun h0 s hs2=>by
    rw[List.take_add_one,hs] at hs2
    rcases List.mem_append.1 hs2 with h|h
    ·exact hno.out s h
    ·have h':s=(m:Int):=by simpa using h
     rw[h'];exact h0
   have hyes:Hid (survP ps m i=true->L.any (fun s=>survP ps s i)=true):=Lib.hid fun h0=>List.any_eq_true.2 ⟨_,List.mem_of_getElem? hs,h0⟩
   have hi:IntKind.i64.wrap ((j:Int)+1)=j+1:=IntWalk.i64_in _ (by omega)
   clear hs hsN hv hno c9 p0 p1 p2 q0 q1 q2
   generalize survP ps (m:Int) i=z at *
   go_wp2_with fail
   go_region_held3 (fun w'=>w'.cell? ⟨T,9,none⟩=some (.slice (some ⟨b,o,none⟩) pn pc)/\w'.cell? ⟨b,o+i*3,none⟩=some (.int .i64 u0)/\w'.cell? ⟨b,o+i*3+1,none⟩=some (.int .i64 u1)/\w'.cell? ⟨b,o+i*3+2,none⟩=some (.int .i64 u2)/\w'.cell? ⟨b,o+m*3,none⟩=some (.int .i64 v0)/\w'.cell? ⟨b,o+m*3+1,none⟩=some (.int .i64 v1)/\w'.cell? ⟨b,o+m*3+2,none⟩=some (.int .i64 v2)/\w'.cell? ⟨sb,so+j,none⟩=some (.int .i64 m))
    (go_keep)
    ((go_at_call 48;refine(K _ hbw.drew).mono ?_;clear K;rintro e W2 ⟨rfl,hb2⟩;have k0:=cell_below hb2 (show wr.drew.cell? _=_ from d9);have k1:=cell_below hb2 (show wr.drew.cell? _=_ from e0);have k2:=cell_below hb2 (show wr.drew.cell? _=_ from e1);have k3:=cell_below hb2 (show wr.drew.cell? _=_ from e2);have k4:=cell_below hb2 (show wr.drew.cell? _=_ from f0);have k5:=cell_below hb2 (show wr.drew.cell? _=_ from f1);have k6:=cell_below hb2 (show wr.drew.cell? _=_ from f2);have k7:=cell_below hb2 (show wr.drew.cell? _=_ from c1)))
   all_goals
    cases z with
    |true=>
     go_wp2_with fail
     go_ret
     exact⟨qg (hyes.out (by simp)).symm,hbw.drew.trans (hb2.mono hbw.size)⟩
    |false=>
     go_wp2_with fail
     exact⟨⟨j+1,by omega,by go_num,hb.drew.trans (hb2.mono hb.size),Lib.hid (hnx.out (by simp))⟩,by simp[intOf];omega⟩
  ·obtain rfl:j=L.length:=by omega
   have hfin:Hid (L.any (fun s=>survP ps s i)=false):=Lib.hid (List.any_eq_false.2 fun s hs=>by
    have:=hno.out s (by rw[List.take_length];exact hs)
    rw[this];simp)
   clear hno
   go_wp2_with fail
   go_ret
   exact⟨qg hfin.out.symm,hbw⟩
end Go.Proofs.YtamhpmbjccjchaaGreatDoor
