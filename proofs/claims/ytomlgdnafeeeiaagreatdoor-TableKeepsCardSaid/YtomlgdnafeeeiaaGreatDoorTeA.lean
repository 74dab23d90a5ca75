
import Derived.Test.YtomlgdnafeeeiaaGreatDoorRefTwo
import Derived.Test.YtomlgdnafeeeiaaGreatDoorTcIP
set_option maxHeartbeats 3200000
set_option maxRecDepth 100000
/-
 The reference's Saved,Within,Survives,Roots.
-/
namespace Go.Proofs.YtomlgdnafeeeiaaGreatDoor
open Proofs.Tryz
open Go.RowKit
theorem qjR(T:Nat)(t:TV)(d:qz)(ns:List ByteArray)(ps:List Plc)(cls:List (List Int))(w:World)(h:jy w T t d ns ps cls)(hsb:d.saved.length<=100000) :
 Calls prog 91 #[.pointer (some ⟨T,0,none⟩)] w (yT w (jV ns d.saved)):=by
 have K:=qaf T t ns t.m.saved d.saved w h.tab h.names h.nbig h.saved hsb
 have c3:=qd.cell h.tab (j:=6) (v:=.slice t.m.saved.a t.m.saved.n t.m.saved.c) rfl
 clear h
 go_enter func91,ntmps91
 go_wp2_with (go_at_call 53;refine K.mono ?_;clear K;rintro e W1 ⟨s,rfl,hr,hb⟩;replace hr:=vH hr)
 go_ret
 exact⟨s,rfl,hr.out,hb⟩
theorem qjS(T:Nat)(t:TV)(w:World)(h:TabAt w T t) :
 Calls prog 37 #[.pointer (some ⟨T,0,none⟩)] w fun e w'=>e = .returned (.int .i64 t.m.regs.n)/\w=w':=by
 have c3:=qd.cell h (j:=1) (v:=.slice t.m.regs.a t.m.regs.n t.m.regs.c) rfl
 clear h
 go_enter func37,ntmps37
 go_wp2_with fail
 go_ret
 exact⟨rfl,rfl⟩
theorem qib(p q:Plc)(w:World)(hp:xT p)(hq:xT q) :
 Calls prog 92 #[.agg #[.int .i64 p.1,.int .i64 p.2.1,.int .i64 p.2.2],.agg #[.int .i64 q.1,.int .i64 q.2.1,.int .i64 q.2.2]] w fun e w'=>
  e = .returned (.bool (xM p q))/\BX w w':=by
 obtain⟨p1,p2,p3⟩:=p
 obtain⟨q1,q2,q3⟩:=q
 obtain⟨a1,a2,a3,a4⟩:=hp
 obtain⟨b1,b2,b3,b4⟩:=hq
 dsimp only at a1 a2 a3 a4 b1 b2 b3 b4 ⊢
 have s1:IntKind.i64.wrap (q2+q3)=q2+q3:=vI _ (by omega)
 have s2:IntKind.i64.wrap (p2+p3)=p2+p3:=vI _ (by omega)
 have g1:¬ p3<1:=by omega
 have hB:Hid (BX w ((w.alloc (.cells #[.int .i64 p1,.int .i64 p2,.int .i64 p3] 87)).alloc (.cells #[.int .i64 q1,.int .i64 q2,.int .i64 q3] 87))):=vH (qi.alloc (by simp) _)
 by_cases h:p1=q1
 ·subst h
  by_cases hA:q2<=p2
  ·by_cases hC:p2+p3<=q2+q3
   ·have hr:Hid (xM (p1,p2,p3) (p1,q2,q3)=true):=vH (by unfold xM;simp[hA,hC])
    go_enter func92,ntmps92
    go_wp2_with fail
    go_ret
    exact⟨qq hr.out.symm,hB.out⟩
   ·have hr:Hid (xM (p1,p2,p3) (p1,q2,q3)=false):=vH (by unfold xM;simp[hC])
    go_enter func92,ntmps92
    go_wp2_with fail
    go_ret
    exact⟨qq hr.out.symm,hB.out⟩
  ·have hr:Hid (xM (p1,p2,p3) (p1,q2,q3)=false):=vH (by unfold xM;simp[hA])
   go_enter func92,ntmps92
   go_wp2_with fail
   go_ret
   exact⟨qq hr.out.symm,hB.out⟩
 ·have hr:Hid (xM (p1,p2,p3) (q1,q2,q3)=false):=vH (by unfold xM;simp[h])
  have h2:(p1==q1)=false:=by simpa using h
  have h3:decide (p1=q1)=false:=by simpa using h
  go_enter func92,ntmps92
  go_wp2_with fail
  go_ret
  exact⟨qq hr.out.symm,hB.out⟩
def qci(ns:List ByteArray)(ps:List Plc)(saved:List ByteArray)(a:Int):Bool:=decide (0<=a)&&(qh ns saved).any fun s=>jr ps s a.toNat
theorem qic{ps:List Plc}{a s:Int}(ha:Num ps a):jr ps s a.toNat=xM (plc ps a) (plc ps s):=by
 have h1:=ha.1
 have h2:=ha.2
 unfold jr
 rw[vT (show a.toNat<ps.length by omega),Bool.true_and]
 rfl
theorem qid{ns:List ByteArray}{ps:List Plc}{saved:List ByteArray}{a:Int}(h:a<0∨(ps.length:Int)<=a):qci ns ps saved a=false:=by
 unfold qci
 by_cases h0:0<=a
 ·rw[List.any_eq_false.2,Bool.and_false]
  intro x _
  unfold jr
  rw[vF (by omega)]
  simp
 ·rw[vF h0];rfl
theorem qeM(T:Nat)(t:TV)(d:qz)(ns:List ByteArray)(ps:List Plc)(cls:List (List Int))(a:Int)(w:World)(h:jy w T t d ns ps cls)(hsb:d.saved.length<=100000)(hall:∀x,x∈d.saved->0<=qv ns x) :
 Calls prog 42 #[.pointer (some ⟨T,0,none⟩),.int .i64 a] w fun e w'=>e = .returned (.bool (qci ns ps d.saved a))/\BX w w':=by
 have c9:=qd.cell h.tab (j:=9) (v:=.slice t.places.a t.places.n t.places.c) rfl
 have hlen:=h.places.len
 have ea:t.cv.places=t.places:=rfl
 rw[ea] at hlen
 by_cases ho:a<0∨(ps.length:Int)<=a
 ·rw[qid ho]
  clear h ea
  rcases(by omega:a<0∨0<=a) with h0|h0
  ·go_enter func42,ntmps42
   go_wp2_with fail
   go_ret
   exact⟨rfl,kB _ _⟩
  ·have h1:¬ a<0:=by omega
   have h2:(t.places.n:Int)<=a:=by omega
   clear ho
   go_enter func42,ntmps42
   go_wp2_with fail
   go_ret
   exact⟨rfl,kB _ _⟩
 have hN:Num ps a:=⟨by omega,by omega⟩
 obtain⟨i,rfl⟩:∃i:Nat,a=i:=⟨a.toNat,by omega⟩
 have hS:=qjR T t d ns ps cls w h hsb
 rw[Yz hall] at hS
 obtain⟨b,o,ha,p0,p1,p2⟩:=h.places.at_ _ _ hN.get
 have hQ:Hid (∀k s,(qh ns d.saved)[k]?=some s->Num ps s/\∀W,BX w W->Calls prog 92 #[.agg #[.int .i64 (plc ps i).1,.int .i64 (plc ps i).2.1,.int .i64 (plc ps i).2.2],.agg #[.int .i64 (plc ps s).1,.int .i64 (plc ps s).2.1,.int .i64 (plc ps s).2.2]] W fun e w'=>e = .returned (.bool (jr ps s i))/\BX W w'):=vH fun k s hk=>by
  have hs:Num ps s:=by
   obtain⟨x,hx,rfl⟩:=List.mem_map.1 (vM hk)
   have h1:=hall x hx
   have h2:=zO ns x
   have h3:=h.len
   exact⟨h1,by omega⟩
  refine⟨hs,fun W _=>?_⟩
  have:=qib (plc ps i) (plc ps s) W (hN.plc_ok h.places) (hs.plc_ok h.places)
  rw[←qic hN] at this
  exact this
 have hpl:Hid (∀s:Nat,Num ps s->∃x0 x1 x2:Int,plc ps s=(x0,x1,x2)/\w.cell? ⟨b,o+s*3,none⟩=some (.int .i64 x0)/\w.cell? ⟨b,o+s*3+1,none⟩=some (.int .i64 x1)/\w.cell? ⟨b,o+s*3+2,none⟩=some (.int .i64 x2)):=vH fun s hs=>by
  obtain⟨b',o',ha',q0,q1,q2⟩:=h.places.at_ _ _ hs.get
  rw[ha] at ha'
  cases ha'
  simp only[Int.toNat_natCast] at q0 q1 q2
  exact⟨_,_,_,rfl,q0,q1,q2⟩
 rw[ea] at ha
 rw[ha] at c9
 have hfew:=h.few
 have hsv:(qh ns d.saved).length<=100000:=by have:=hsb;simpa[qh] using this
 have hres:Hid (qci ns ps d.saved i=(qh ns d.saved).any fun s=>jr ps s i):=vH (by unfold qci;simp)
 simp only[Int.toNat_natCast] at p0 p1 p2
 have i0:¬ (i:Int)<0:=by omega
 have i1:i<t.places.n:=by have:=hN.2;omega
 have i2:¬ (t.places.n:Int)<=i:=by omega
 have i3:(i:Int)<t.places.n:=by omega
 have i4:(0:Int)<=i:=by omega
 rw[hres.out]
 generalize qh ns d.saved=L at *
 generalize plc ps (i:Int)=pr at *
 obtain⟨u0,u1,u2⟩:=pr
 dsimp only at p0 p1 p2 hQ
 have hlen2:=vH hlen
 generalize t.places.n=pn at *
 generalize t.places.c=pc at *
 clear h ho hN hres ea ha hlen hfew hall
 go_enter func42,ntmps42
 go_wp2_with (go_at_call 91;refine hS.mono ?_;clear hS;rintro e W1 ⟨⟨sa,sn,sc⟩,rfl,hr,hb1⟩)
 have hrI:=qN.at_ (s:=⟨sa,sn,sc⟩) (qm hr (vO _))
 have hsn:=hrI.1
 dsimp only at hsn
 subst hsn
 replace hrI:=vH hrI
 clear hr
 go_loopw [6,7] (fun k v wr=>∃j:Nat,j<=L.length/\k = .int .i64 j/\BX W1 wr/\Hid (∀s,s∈L.take j->jr ps s i=false)) (fun k _ _=>L.length-(intOf k).toNat)
 case atStart=>exact⟨0,vO _,rfl,kB _ _,vH (by simp)⟩
 case round=>
  obtain⟨j,hj,rfl,hb,hno⟩:=hrel
  have hbw:BX w wr:=hb1.trans (hb.mono hb1.size)
  by_cases hlt:j<L.length
  ·obtain⟨s,hs⟩:∃s,L[j]?=some s:=⟨L[j],vE hlt⟩
   obtain⟨sb,so,h1,c1⟩:=(hrI.out.below hb).2.2 j s hs
   dsimp only at h1
   subst h1
   obtain⟨hsN,K⟩:=hQ.out j s hs
   obtain⟨m,rfl⟩:∃m:Nat,s=m:=⟨s.toNat,by have:=hsN.1;omega⟩
   obtain⟨v0,v1,v2,hv,q0,q1,q2⟩:=hpl.out m hsN
   rw[hv] at K
   dsimp only at K
   have j1:(j:Int)<L.length:=by omega
   have m1:m<pn:=by have:=hsN.2;have:=hlen2.out;omega
   have m2:(m:Int)<pn:=by omega
   have m0:(0:Int)<=m:=by omega
   have d9:=qb hbw c9
   have e0:=qb hbw p0
   have e1:=qb hbw p1
   have e2:=qb hbw p2
   have f0:=qb hbw q0
   have f1:=qb hbw q1
   have f2:=qb hbw q2
   have hnx:Hid (jr ps m i=false->∀s,s∈L.take (j+1)->jr ps s i=false):=vH fun h0 s hs2=>by
    rw[vX,hs] at hs2
    rcases vC.1 hs2 with h|h
    ·exact hno.out s h
    ·have h':s=(m:Int):=by simpa using h
     rw[h'];exact h0
   have hyes:Hid (jr ps m i=true->L.any (fun s=>jr ps s i)=true):=vH fun h0=>vU.2 ⟨_,vM hs,h0⟩
   have hi:IntKind.i64.wrap ((j:Int)+1)=j+1:=vI _ (by omega)
   clear hs hsN hv hno c9 p0 p1 p2 q0 q1 q2
   generalize jr ps (m:Int) i=z at *
   go_wp2_with fail
   go_region_held3 (fun w'=>w'.cell? ⟨T,9,none⟩=some (.slice (some ⟨b,o,none⟩) pn pc)/\w'.cell? ⟨b,o+i*3,none⟩=some (.int .i64 u0)/\w'.cell? ⟨b,o+i*3+1,none⟩=some (.int .i64 u1)/\w'.cell? ⟨b,o+i*3+2,none⟩=some (.int .i64 u2)/\w'.cell? ⟨b,o+m*3,none⟩=some (.int .i64 v0)/\w'.cell? ⟨b,o+m*3+1,none⟩=some (.int .i64 v1)/\w'.cell? ⟨b,o+m*3+2,none⟩=some (.int .i64 v2)/\w'.cell? ⟨sb,so+j,none⟩=some (.int .i64 m))
    (go_keep)
    ((go_at_call 92;refine(K _ hbw.drew).mono ?_;clear K;rintro e W2 ⟨rfl,hb2⟩;have k0:=qb hb2 (show wr.drew.cell? _=_ from d9);have k1:=qb hb2 (show wr.drew.cell? _=_ from e0);have k2:=qb hb2 (show wr.drew.cell? _=_ from e1);have k3:=qb hb2 (show wr.drew.cell? _=_ from e2);have k4:=qb hb2 (show wr.drew.cell? _=_ from f0);have k5:=qb hb2 (show wr.drew.cell? _=_ from f1);have k6:=qb hb2 (show wr.drew.cell? _=_ from f2);have k7:=qb hb2 (show wr.drew.cell? _=_ from c1)))
   all_goals
    cases z with
    |true=>
     go_wp2_with fail
     go_ret
     exact⟨qq (hyes.out (by simp)).symm,hbw.drew.trans (hb2.mono hbw.size)⟩
    |false=>
     go_wp2_with fail
     exact⟨⟨j+1,by omega,by go_num,hb.drew.trans (hb2.mono hb.size),vH (hnx.out (by simp))⟩,by simp[intOf];omega⟩
  ·obtain rfl:j=L.length:=by omega
   have hfin:Hid (L.any (fun s=>jr ps s i)=false):=vH (List.any_eq_false.2 fun s hs=>by
    have:=hno.out s (by rw[List.take_length];exact hs)
    rw[this];simp)
   clear hno
   go_wp2_with fail
   go_ret
   exact⟨qq hfin.out.symm,hbw⟩
end Go.Proofs.YtomlgdnafeeeiaaGreatDoor
