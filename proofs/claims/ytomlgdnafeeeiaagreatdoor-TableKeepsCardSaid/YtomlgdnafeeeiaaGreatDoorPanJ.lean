
import Derived.Test.YtomlgdnafeeeiaaGreatDoorPan
import Derived.Test.YtomlgdnafeeeiaaGreatDoorMdOne
set_option maxHeartbeats 4000000
set_option maxRecDepth 100000
/-
 geom's add where a register does not fit into the one around it,or laps with one ahead of it.
-/
namespace Go.Proofs.YtomlgdnafeeeiaaGreatDoor
open Proofs.Tryz
open Go.RowKit
theorem qhi(bs bp:Nat)(root aAt aW pAt pW wd at_:Int)(nm:ByteArray)(sv:Value)(w:World)(c0:w.cell? ⟨bs,5,none⟩=some (.int .i64 root))(c1:w.cell? ⟨bs,6,none⟩=some (.int .i64 aAt))(c2:w.cell? ⟨bs,7,none⟩=some (.int .i64 aW))(c3:w.cell? ⟨bp,0,none⟩=some (.int .i64 root))(c4:w.cell? ⟨bp,1,none⟩=some (.int .i64 pAt))(c5:w.cell? ⟨bp,2,none⟩=some (.int .i64 pW))
 (h1:0<=aAt) (h2:aAt<=500) (h3:0<=at_) (h4:at_<=500) (h5:1<=wd) (h6:wd<=1000) (h7:0<=pAt) (h8:pAt<=1000) (h9:1<=pW) (h10:pW<=1000) :
 Calls prog 197 #[.agg #[.string nm,.int .i64 wd,.int .i64 at_,sv],.pointer (some ⟨bs,0,none⟩),.pointer (some ⟨bp,0,none⟩)] w fun e w'=>e = .returned (.bool (jN (aAt+at_) wd pAt pW))/\BX w w':=by
 have C1:=fun W=>Xl root aAt aW wd at_ nm sv W h1 (by omega) h3 (by omega)
 have C2:=fun W=>qcu root (aAt+at_) wd pAt pW W (by omega) (by omega) h5 h6 h7 h8 h9 h10
 obtain⟨lb,hlb⟩:∃lb,jN (aAt+at_) wd pAt pW=lb:=⟨_,rfl⟩
 rw[hlb] at C2 ⊢
 have lbs:=kW _ _ c0
 have lbp:=kW _ _ c3
 dsimp only at lbs lbp
 have nbs:=World.new_ne w _ c0
 have nbp:=World.new_ne w _ c3
 clear hlb
 go_enter func197,ntmps197
 go_wp2
 go_region_held3 (fun w'=>w'.cell? ⟨bs,5,none⟩=some (.int .i64 root)/\w'.cell? ⟨bs,6,none⟩=some (.int .i64 aAt)/\w'.cell? ⟨bs,7,none⟩=some (.int .i64 aW)/\w'.cell? ⟨bp,0,none⟩=some (.int .i64 root)/\w'.cell? ⟨bp,1,none⟩=some (.int .i64 pAt)/\w'.cell? ⟨bp,2,none⟩=some (.int .i64 pW)/\w'.cell? ⟨w.heap.size,0,none⟩=some (.string nm)/\w'.cell? ⟨w.heap.size,1,none⟩=some (.int .i64 wd)/\w'.cell? ⟨w.heap.size,2,none⟩=some (.int .i64 at_)/\w'.cell? ⟨w.heap.size,3,none⟩=some (sv))
  (go_keep)
  ((first
    |(go_at_call 173;refine(C1 _).mono ?_;clear C1;rintro e W1 ⟨rfl,hb⟩;have k0:W1.cell? ⟨bs,5,none⟩=some (.int .i64 root):=qs hb;have k1:W1.cell? ⟨bs,6,none⟩=some (.int .i64 aAt):=qs hb;have k2:W1.cell? ⟨bs,7,none⟩=some (.int .i64 aW):=qs hb;have k3:W1.cell? ⟨bp,0,none⟩=some (.int .i64 root):=qs hb;have k4:W1.cell? ⟨bp,1,none⟩=some (.int .i64 pAt):=qs hb;have k5:W1.cell? ⟨bp,2,none⟩=some (.int .i64 pW):=qs hb;have k6:W1.cell? ⟨w.heap.size,0,none⟩=some (.string nm):=qs hb;have k7:W1.cell? ⟨w.heap.size,1,none⟩=some (.int .i64 wd):=qs hb;have k8:W1.cell? ⟨w.heap.size,2,none⟩=some (.int .i64 at_):=qs hb;have k9:W1.cell? ⟨w.heap.size,3,none⟩=some (sv):=qs hb)
    |(go_at_call 78;refine(C2 _).mono ?_;clear C2;rintro e W2 ⟨rfl,hb2⟩;have m0:W2.cell? ⟨bs,5,none⟩=some (.int .i64 root):=qs hb2;have m1:W2.cell? ⟨bs,6,none⟩=some (.int .i64 aAt):=qs hb2;have m2:W2.cell? ⟨bs,7,none⟩=some (.int .i64 aW):=qs hb2;have m3:W2.cell? ⟨bp,0,none⟩=some (.int .i64 root):=qs hb2;have m4:W2.cell? ⟨bp,1,none⟩=some (.int .i64 pAt):=qs hb2;have m5:W2.cell? ⟨bp,2,none⟩=some (.int .i64 pW):=qs hb2;have m6:W2.cell? ⟨w.heap.size,0,none⟩=some (.string nm):=qs hb2;have m7:W2.cell? ⟨w.heap.size,1,none⟩=some (.int .i64 wd):=qs hb2;have m8:W2.cell? ⟨w.heap.size,2,none⟩=some (.int .i64 at_):=qs hb2;have m9:W2.cell? ⟨w.heap.size,3,none⟩=some (sv):=qs hb2)))
 go_wp2
 go_ret
 exact⟨rfl,((qi.drew).trans (hb.mono (by simp))).trans (hb2.mono (by have:=hb.size;simp at this;omega))⟩
theorem qbp(bs bp b off n cap:Nat)(root aAt aW pAt pW:Int)(l:List zt)(w:World)(hn:l.length=n)(hsz:n<=4611686018427387904)(hl:QZ w b off l)
 (c0:w.cell? ⟨bs,5,none⟩=some (.int .i64 root)) (c1:w.cell? ⟨bs,6,none⟩=some (.int .i64 aAt)) (c2:w.cell? ⟨bs,7,none⟩=some (.int .i64 aW))
 (c3:w.cell? ⟨bp,0,none⟩=some (.int .i64 root)) (c4:w.cell? ⟨bp,1,none⟩=some (.int .i64 pAt)) (c5:w.cell? ⟨bp,2,none⟩=some (.int .i64 pW))
 (h1:0<=aAt) (h2:aAt<=500) (h7:0<=pAt) (h8:pAt<=1000) (h9:1<=pW) (h10:pW<=1000) (hr:∀r,r∈l->r.small) :
 Calls prog 203 #[.slice (some ⟨b,off,none⟩) n cap,.func (.func 197) #[] #[.pointer (some ⟨bs,0,none⟩),.pointer (some ⟨bp,0,none⟩)]] w fun e w'=>
  e = .returned (.int .i64 (zM (fun r:zt=>jN (aAt+r.at_) r.wd pAt pW) l))/\BX w w':=by
 go_enter func203,ntmps203
 go_wp2
 go_loopw [8] (fun i wr=>∃k:Nat,k<=n/\i = .int .i64 k/\BX w wr/\∀ (j:Nat),j<k->∀r,l[j]?=some r->jN (aAt+r.at_) r.wd pAt pW=false) (fun i _=>n-(intOf i).toNat)
 case atStart=>exact⟨0,vO _,rfl,kB _ _,fun j hj=>absurd hj (Nat.not_lt_zero _)⟩
 case round=>
  obtain⟨k,hk,rfl,hB,hno⟩:=hrel
  replace hno:=vH hno
  have k0:(0:Int)<=k:=vN _
  by_cases hlt:k<n
  ·obtain⟨r,hr1⟩:∃r,l[k]?=some r:=⟨l[k],by rw[vE (by omega)]⟩
   obtain⟨hs1,hs2,hs3,hs4⟩:=hr r (vM hr1)
   obtain⟨d0,d1,d2,d3⟩:=(hl k r hr1).below hB
   have k1:(k:Int)<n:=by omega
   have C:=qhi bs bp root aAt aW pAt pW r.wd r.at_ r.name r.sv wr (qb hB c0) (qb hB c1) (qb hB c2) (qb hB c3) (qb hB c4) (qb hB c5) h1 h2 hs1 hs2 hs3 hs4 h7 h8 h9 h10
   cases hlp:jN (aAt+r.at_) r.wd pAt pW with
   |true=>
    rw[hlp] at C
    have hidx:=vH (qau (p:=fun r:zt=>jN (aAt+r.at_) r.wd pAt pW) (fun j hj b hb=>hno.out j hj b hb) hr1 hlp)
    clear c0 c1 c2 c3 c4 c5 hr1 hl hr hlp
    go_wp2_with (go_at_call 197;refine C.mono ?_;clear C;rintro e W1 ⟨rfl,hb⟩)
    go_ret
    exact⟨by rw[hidx.out];rfl,hB.trans (hb.mono hB.size)⟩
   |false=>
    rw[hlp] at C
    have hno2:=vH (show ∀ (j:Nat),j<k+1->∀r,l[j]?=some r->jN (aAt+r.at_) r.wd pAt pW=false from fun j hj r2 h2=>by
     by_cases h:j=k
     ·rw[h,hr1] at h2;cases h2;exact hlp
     ·exact hno.out j (by omega) r2 h2)
    clear c0 c1 c2 c3 c4 c5 hr1 hl hr hlp
    go_wp2_with (go_at_call 197;refine C.mono ?_;clear C;rintro e W1 ⟨rfl,hb⟩)
    exact⟨⟨k+1,by omega,by go_num,hB.trans (hb.mono hB.size),hno2.out⟩,by simp[intOf];omega⟩
  ·have hidx:=vH (Yq (p:=fun r:zt=>jN (aAt+r.at_) r.wd pAt pW) (l:=l) (fun j b hb=>hno.out j (by have:=(vS.1 hb).1;omega) b hb))
   clear hr hl
   go_wp2_with fail
   go_ret
   exact⟨by rw[hidx.out];rfl,hB⟩
theorem Yt(bs bp:Nat)(root aAt aW pAt pW:Int)(av:Value)(l:List zt)(w:World)(hsz:l.length<=4611686018427387904)(hl:jD w av l)
 (c0:w.cell? ⟨bs,5,none⟩=some (.int .i64 root)) (c1:w.cell? ⟨bs,6,none⟩=some (.int .i64 aAt)) (c2:w.cell? ⟨bs,7,none⟩=some (.int .i64 aW))
 (c3:w.cell? ⟨bp,0,none⟩=some (.int .i64 root)) (c4:w.cell? ⟨bp,1,none⟩=some (.int .i64 pAt)) (c5:w.cell? ⟨bp,2,none⟩=some (.int .i64 pW))
 (h1:0<=aAt) (h2:aAt<=500) (h7:0<=pAt) (h8:pAt<=1000) (h9:1<=pW) (h10:pW<=1000) (hr:∀r,r∈l->r.small) :
 Calls prog 196 #[av,.func (.func 197) #[] #[.pointer (some ⟨bs,0,none⟩),.pointer (some ⟨bp,0,none⟩)]] w fun e w'=>
  e = .returned (.bool (l.any fun r=>jN (aAt+r.at_) r.wd pAt pW))/\BX w w':=by
 obtain⟨i,hi⟩:∃i,zM (fun r:zt=>jN (aAt+r.at_) r.wd pAt pW) l=i:=⟨_,rfl⟩
 have C:Calls prog 203 #[av,.func (.func 197) #[] #[.pointer (some ⟨bs,0,none⟩),.pointer (some ⟨bp,0,none⟩)]] w fun e w'=>e = .returned (.int .i64 i)/\BX w w':=by
  rw[←hi]
  rcases hl with⟨⟨av,rfl⟩,rfl⟩|⟨b,off,cap,rfl,hl⟩
  ·exact(Ja _ _ w).mono fun e w' ⟨he,hw⟩=>⟨he,hw ▸ kB _ _⟩
  ·exact qbp bs bp b off l.length cap root aAt aW pAt pW l w rfl hsz hl c0 c1 c2 c3 c4 c5 h1 h2 h7 h8 h9 h10 hr
 have hany:(l.any fun r=>jN (aAt+r.at_) r.wd pAt pW)=decide (0<=i):=by
  rw[←hi]
  rcases xh (fun r:zt=>jN (aAt+r.at_) r.wd pAt pW) l with⟨h,hno⟩|⟨k,hk,h,hp⟩
  ·rw[h,vF (by decide)]
   exact List.any_eq_false.2 fun x hx=>by simp[hno x hx]
  ·rw[h,vT (by omega)]
   exact vU.2 ⟨l[k],List.getElem_mem hk,hp⟩
 rw[hany]
 clear hany hi hl c0 c1 c2 c3 c4 c5 hr
 go_enter func196,ntmps196
 go_wp2_with (go_at_call 203;refine C.mono ?_;clear C;rintro e W1 ⟨rfl,hb⟩)
 go_ret
 exact⟨qq (by simp),hb⟩
theorem qiF(nm:ByteArray)(wd at_ deep root aAt aW:Int)(sv av:Value)(l:List zt)(w:World)(hsz:l.length<=4611686018427387904)(hl:jD w av l)
 (h1:0<=aAt) (h2:aAt<=500) (h3:0<=at_) (h4:at_<=500) (h9:1<=wd) (h10:wd<=1000) (hr:∀r,r∈l->r.small) (lb:Bool) (hlb:(l.any fun r=>jN (aAt+r.at_) r.wd (aAt+at_) wd)=lb) :
 Calls prog 172 #[.agg #[.string nm,.int .i64 wd,.int .i64 at_,sv,.int .i64 deep,.int .i64 root,.int .i64 aAt,.int .i64 aW,av]] w fun e w'=>
  e = .returned (.bool lb)/\BX w w':=by
 have C1:=fun W=>Xl root aAt aW wd at_ nm sv W h1 (by omega) h3 (by omega)
 have C2:∀W W1,BX w W->BX W W1->W=w.alloc (.cells #[.string nm,.int .i64 wd,.int .i64 at_,sv,.int .i64 deep,.int .i64 root,.int .i64 aAt,.int .i64 aW,av] 175) ->
  (W1.alloc (.cells #[.int .i64 root,.int .i64 (aAt+at_),.int .i64 wd] 87)).cell? ⟨w.heap.size,8,none⟩=some av /\
  Calls prog 196 #[av,.func (.func 197) #[] #[.pointer (some ⟨w.heap.size,0,none⟩),.pointer (some ⟨W1.heap.size,0,none⟩)]]
   (W1.alloc (.cells #[.int .i64 root,.int .i64 (aAt+at_),.int .i64 wd] 87)) fun e w'=>e = .returned (.bool lb)/\Below (W1.alloc (.cells #[.int .i64 root,.int .i64 (aAt+at_),.int .i64 wd] 87)).heap.size (W1.alloc (.cells #[.int .i64 root,.int .i64 (aAt+at_),.int .i64 wd] 87)) w':=by
  intro W W1 hW hb e
  have hW1:=hb.alloc hb.size (.cells #[.int .i64 root,.int .i64 (aAt+at_),.int .i64 wd] 87)
  have hs:qd W w.heap.size 175 #[.string nm,.int .i64 wd,.int .i64 at_,sv,.int .i64 deep,.int .i64 root,.int .i64 aAt,.int .i64 aW,av]:=by rw[e];exact qd.new _ _ _
  have hs1:=hs.below hW1 hs.lt
  have hp:=qd.new W1 87 #[.int .i64 root,.int .i64 (aAt+at_),.int .i64 wd]
  refine⟨hs1.cell rfl,?_⟩
  rw[←hlb]
  exact Yt _ _ root aAt aW (aAt+at_) wd av l _ hsz ((hl.below hW).below hW1) (hs1.cell rfl) (hs1.cell rfl) (hs1.cell rfl) (hp.cell rfl) (hp.cell rfl) (hp.cell rfl) h1 h2 (by omega) (by omega) h9 h10 hr
 clear hl hr hlb
 have hmf:∀ (fn:Fn) (first cap:Array Value) (w:World),(Instr.makeFunc fn first cap).run prog w = .ok (.func fn first cap) w:=fun _ _ _ _=>rfl
 go_enter func172,ntmps172
 go_wp2_with (first
  |(go_at_call 173;refine(C1 _).mono ?_;clear C1;rintro e W1 ⟨rfl,hb⟩;obtain⟨hav,C3⟩:=C2 _ W1 (qi) hb rfl;clear C2;obtain⟨hc,hf⟩:=yR hb)
  |(go_at_call 196;refine C3.mono ?_;clear C3;rintro e W2 ⟨rfl,hb2⟩))
 go_ret
 exact⟨rfl,(qi.trans ((hb.alloc hb.size _).mono (by simp))).trans (hb2.mono (by have:=hb.size;simp at this ⊢;omega))⟩
theorem qfq(nm:ByteArray)(wd at_ deep root aAt aW:Int)(sv av:Value)(w:World)(h1:1<=wd)(h2:wd<=64)(h:at_<0∨(0<=at_/\aW-wd<at_))(h5 : -1000<=aW)(h6:aW<=1000) :
 Calls prog 171 #[.agg #[.string nm,.int .i64 wd,.int .i64 at_,sv,.int .i64 deep,.int .i64 root,.int .i64 aAt,.int .i64 aW,av]] w fun e w'=>
  e = .returned (.bool false)/\BX w w':=by
 rcases h with h|⟨h',h⟩
 ·have i1:¬ 0<=at_:=by omega
  go_enter func171,ntmps171
  go_wp2
  go_ret
  exact⟨rfl,qi⟩
 ·have i2:¬ at_<=aW-wd:=by omega
  have hw:IntKind.i64.wrap (aW-wd)=aW-wd:=vI _ (by omega)
  go_enter func171,ntmps171
  go_wp2
  go_ret
  exact⟨rfl,qi⟩
theorem qhj(base T:Nat)(ns:List ByteArray)(ps:List (Int×Int×Int))(nm:ByteArray)(wd at_ deep root aAt aW:Int)(sv av:Value)(w:World)(hE:Env w)(hN:xo nm)(hW:js nm)(hno:nm∉ns)(hk:ns.length<200)(hT:Qe base T ns ps w)(hd:deep<=6)
 (h1:1<=wd) (h2:wd<=64) (hw:at_<0∨(0<=at_/\aW-wd<at_)) (h5 : -1000<=aW) (h6:aW<=1000) :
 Calls prog 129 #[.pointer (some ⟨T,0,none⟩),.agg #[.string nm,.int .i64 wd,.int .i64 at_,sv,.int .i64 deep,.int .i64 root,.int .i64 aAt,.int .i64 aW,av]] w fun e w'=>
  e = .panicked (jQ 6)/\BX w w':=by
 obtain⟨nV,pV,hTc,hn,hp⟩:=hT
 obtain⟨k,hkn⟩:∃k,ns.length=k:=⟨_,rfl⟩
 rw[hkn] at hn hk
 have hkn:=vH hkn
 obtain⟨na,ncap,rfl⟩:=qx hn
 obtain⟨w0,hw0⟩:∃w0,w0=w.alloc (.cells #[.string nm,.int .i64 wd,.int .i64 at_,sv,.int .i64 deep,.int .i64 root,.int .i64 aAt,.int .i64 aW,av] 175):=⟨_,rfl⟩
 have hb0:BX w w0:=by rw[hw0];exact qi
 have hs0:qd w0 w.heap.size 175 #[.string nm,.int .i64 wd,.int .i64 at_,sv,.int .i64 deep,.int .i64 root,.int .i64 aAt,.int .i64 aW,av]:=by rw[hw0];exact qd.new _ _ _
 have hTc0:=hTc.below hb0 hTc.lt
 have hk2:(((k:Nat):Int)==200)=false:=by simp;omega
 have hd':¬ 6<deep:=by omega
 have C1:∀W,BX w0 W->Calls prog 169 #[.string nm] W fun e w'=>e = .returned (.bool true)/\BX W w':=fun W hb=>jF nm W ((hE.below hb0).below hb) hN hW
 have C2:∀W,BX w0 W->Calls prog 170 #[.slice na k ncap,.string nm] W fun e w'=>e = .returned (.bool false)/\W=w':=fun W hb=>
  QM base k _ ns nm W hkn.out (by omega) (qe (qe hn hb0) hb) hno
 have C3:=fun W=>qfq nm wd at_ deep root aAt aW sv av W h1 h2 hw h5 h6
 have hread:∀W,BX w0 W->(W.cell? ⟨w.heap.size,0,none⟩=some (.string nm)/\W.cell? ⟨w.heap.size,1,none⟩=some (.int .i64 wd)/\W.cell? ⟨w.heap.size,2,none⟩=some (.int .i64 at_)/\W.cell? ⟨w.heap.size,3,none⟩=some sv /\
  W.cell? ⟨w.heap.size,4,none⟩=some (.int .i64 deep)/\W.cell? ⟨w.heap.size,5,none⟩=some (.int .i64 root)/\W.cell? ⟨w.heap.size,6,none⟩=some (.int .i64 aAt)/\W.cell? ⟨w.heap.size,7,none⟩=some (.int .i64 aW)/\W.cell? ⟨w.heap.size,8,none⟩=some av /\
  W.cell? ⟨T,0,none⟩=some (.slice na k ncap)):=fun W hb=>by
  have a:=hs0.below hb hs0.lt
  have b:=hTc0.below hb hTc0.lt
  exact⟨a.cell rfl,a.cell rfl,a.cell rfl,a.cell rfl,a.cell rfl,a.cell rfl,a.cell rfl,a.cell rfl,a.cell rfl,b.cell rfl⟩
 have hR0:=hread w0 (kB _ _)
 rw[hw0] at hR0
 obtain⟨r0,r1,r2,r3,r4,r5,r6,r7,r8,r9⟩:=hR0
 clear hw
 go_enter func129,ntmps129
 go_wp2_with fail
 rw[←hw0]
 clear r0 r1 r2 r3 r4 r5 r6 r7 r8 r9 hw0
 obtain⟨r0,r1,r2,r3,r4,r5,r6,r7,r8,r9⟩:=hread w0 (kB _ _)
 go_region_held3 (fun w'=>w'.cell? ⟨w.heap.size,0,none⟩=some (.string nm)/\w'.cell? ⟨w.heap.size,1,none⟩=some (.int .i64 wd)/\w'.cell? ⟨w.heap.size,2,none⟩=some (.int .i64 at_)/\w'.cell? ⟨w.heap.size,3,none⟩=some (sv)/\w'.cell? ⟨w.heap.size,4,none⟩=some (.int .i64 deep)/\w'.cell? ⟨w.heap.size,5,none⟩=some (.int .i64 root)/\w'.cell? ⟨w.heap.size,6,none⟩=some (.int .i64 aAt)/\w'.cell? ⟨w.heap.size,7,none⟩=some (.int .i64 aW)/\w'.cell? ⟨w.heap.size,8,none⟩=some (av)/\w'.cell? ⟨T,0,none⟩=some (.slice na k ncap))
  (go_keep)
  ((first
    |(go_at_call 169;refine(C1 _ ((kB _ _).drew)).mono ?_;clear C1;rintro e W1 ⟨rfl,hb⟩;have hB1:BX w0 W1:=((kB _ _).drew).trans hb;have hR1:=hread W1 hB1)
    |(go_at_call 170;refine(C2 _ hB1).mono ?_;clear C2;rintro e W2 ⟨rfl,rfl⟩)))
 clear r0 r1 r2 r3 r4 r5 r6 r7 r8 r9
 go_wp2_with (go_at_call 171;refine(C3 _).mono ?_;clear C3;rintro e W3 ⟨rfl,hb3⟩;have hB3:=hB1.trans (hb3.mono hB1.size))
 exact⟨rfl,rfl,hb0.trans (hB3.mono hb0.size)⟩
theorem qiG(base T:Nat)(ns:List ByteArray)(ps:List (Int×Int×Int))(nm:ByteArray)(wd at_ deep root aAt aW:Int)(sv av:Value)(l:List zt)(w:World)(hE:Env w)(hN:xo nm)(hW:js nm)(hno:nm∉ns)(hk:ns.length<200)(hT:Qe base T ns ps w)(hd:deep<=6)
 (hsz:l.length<=4611686018427387904) (hl:jD w av l) (h1:0<=aAt) (h2:aAt<=500) (h3:0<=at_) (h4:at_<=500) (h9:1<=wd) (h10:wd<=64) (h5:aW<=1000) (hf:at_+wd<=aW)
 (hr:∀r,r∈l->r.small) (hlap:(l.any fun r=>jN (aAt+r.at_) r.wd (aAt+at_) wd)=true) :
 Calls prog 129 #[.pointer (some ⟨T,0,none⟩),.agg #[.string nm,.int .i64 wd,.int .i64 at_,sv,.int .i64 deep,.int .i64 root,.int .i64 aAt,.int .i64 aW,av]] w fun e w'=>
  e = .panicked (jQ 7)/\BX w w':=by
 obtain⟨nV,pV,hTc,hn,hp⟩:=hT
 obtain⟨k,hkn⟩:∃k,ns.length=k:=⟨_,rfl⟩
 rw[hkn] at hn hk
 have hkn:=vH hkn
 obtain⟨na,ncap,rfl⟩:=qx hn
 obtain⟨w0,hw0⟩:∃w0,w0=w.alloc (.cells #[.string nm,.int .i64 wd,.int .i64 at_,sv,.int .i64 deep,.int .i64 root,.int .i64 aAt,.int .i64 aW,av] 175):=⟨_,rfl⟩
 have hb0:BX w w0:=by rw[hw0];exact qi
 have hs0:qd w0 w.heap.size 175 #[.string nm,.int .i64 wd,.int .i64 at_,sv,.int .i64 deep,.int .i64 root,.int .i64 aAt,.int .i64 aW,av]:=by rw[hw0];exact qd.new _ _ _
 have hTc0:=hTc.below hb0 hTc.lt
 have hk2:(((k:Nat):Int)==200)=false:=by simp;omega
 have hd':¬ 6<deep:=by omega
 have C1:∀W,BX w0 W->Calls prog 169 #[.string nm] W fun e w'=>e = .returned (.bool true)/\BX W w':=fun W hb=>jF nm W ((hE.below hb0).below hb) hN hW
 have C2:∀W,BX w0 W->Calls prog 170 #[.slice na k ncap,.string nm] W fun e w'=>e = .returned (.bool false)/\W=w':=fun W hb=>
  QM base k _ ns nm W hkn.out (by omega) (qe (qe hn hb0) hb) hno
 have C3:=fun W=>qds nm wd at_ deep root aAt aW sv av W h9 h10 h3 (by omega) h5 hf
 have C4:∀W,BX w0 W->Calls prog 172 #[.agg #[.string nm,.int .i64 wd,.int .i64 at_,sv,.int .i64 deep,.int .i64 root,.int .i64 aAt,.int .i64 aW,av]] W fun e w'=>e = .returned (.bool true)/\BX W w':=fun W hb=>
  qiF nm wd at_ deep root aAt aW sv av l W hsz ((hl.below hb0).below hb) h1 h2 h3 h4 h9 (by omega) hr true hlap
 have hread:∀W,BX w0 W->(W.cell? ⟨w.heap.size,0,none⟩=some (.string nm)/\W.cell? ⟨w.heap.size,1,none⟩=some (.int .i64 wd)/\W.cell? ⟨w.heap.size,2,none⟩=some (.int .i64 at_)/\W.cell? ⟨w.heap.size,3,none⟩=some sv /\
  W.cell? ⟨w.heap.size,4,none⟩=some (.int .i64 deep)/\W.cell? ⟨w.heap.size,5,none⟩=some (.int .i64 root)/\W.cell? ⟨w.heap.size,6,none⟩=some (.int .i64 aAt)/\W.cell? ⟨w.heap.size,7,none⟩=some (.int .i64 aW)/\W.cell? ⟨w.heap.size,8,none⟩=some av /\
  W.cell? ⟨T,0,none⟩=some (.slice na k ncap)):=fun W hb=>by
  have a:=hs0.below hb hs0.lt
  have b:=hTc0.below hb hTc0.lt
  exact⟨a.cell rfl,a.cell rfl,a.cell rfl,a.cell rfl,a.cell rfl,a.cell rfl,a.cell rfl,a.cell rfl,a.cell rfl,b.cell rfl⟩
 have hR0:=hread w0 (kB _ _)
 rw[hw0] at hR0
 obtain⟨r0,r1,r2,r3,r4,r5,r6,r7,r8,r9⟩:=hR0
 go_enter func129,ntmps129
 go_wp2_with fail
 rw[←hw0]
 clear r0 r1 r2 r3 r4 r5 r6 r7 r8 r9 hw0
 obtain⟨r0,r1,r2,r3,r4,r5,r6,r7,r8,r9⟩:=hread w0 (kB _ _)
 go_region_held3 (fun w'=>w'.cell? ⟨w.heap.size,0,none⟩=some (.string nm)/\w'.cell? ⟨w.heap.size,1,none⟩=some (.int .i64 wd)/\w'.cell? ⟨w.heap.size,2,none⟩=some (.int .i64 at_)/\w'.cell? ⟨w.heap.size,3,none⟩=some (sv)/\w'.cell? ⟨w.heap.size,4,none⟩=some (.int .i64 deep)/\w'.cell? ⟨w.heap.size,5,none⟩=some (.int .i64 root)/\w'.cell? ⟨w.heap.size,6,none⟩=some (.int .i64 aAt)/\w'.cell? ⟨w.heap.size,7,none⟩=some (.int .i64 aW)/\w'.cell? ⟨w.heap.size,8,none⟩=some (av)/\w'.cell? ⟨T,0,none⟩=some (.slice na k ncap))
  (go_keep)
  ((first
    |(go_at_call 169;refine(C1 _ ((kB _ _).drew)).mono ?_;clear C1;rintro e W1 ⟨rfl,hb⟩;have hB1:BX w0 W1:=((kB _ _).drew).trans hb;have hR1:=hread W1 hB1)
    |(go_at_call 170;refine(C2 _ hB1).mono ?_;clear C2;rintro e W2 ⟨rfl,rfl⟩)))
 clear r0 r1 r2 r3 r4 r5 r6 r7 r8 r9
 clear hl hr hlap
 go_wp2_with (first
  |(go_at_call 171;refine(C3 _).mono ?_;clear C3;rintro e W3 ⟨rfl,hb3⟩;have hB3:=hB1.trans (hb3.mono hB1.size);have hR3:=hread W3 hB3;clear hR1)
  |(go_at_call 172;refine(C4 _ hB3).mono ?_;clear C4;rintro e W4 ⟨rfl,hb4⟩;have hB4:=hB3.trans (hb4.mono hB3.size)))
 exact⟨rfl,rfl,hb0.trans (hB4.mono hb0.size)⟩
end Go.Proofs.YtomlgdnafeeeiaaGreatDoor
