
import Derived.Test.YtomlgdnafeeeiaaGreatDoorPan
import Derived.StillTailTactics
set_option maxHeartbeats 4000000
set_option maxRecDepth 100000
/-
 geom's down at any tree;Places with a bad register at any depth.
-/
namespace Go.Proofs.YtomlgdnafeeeiaaGreatDoor
open Proofs.Tryz
open Go.RowKit Go.Shelf
section
attribute [local go_sem] Oper.semAt_some
def qkZ(x:qA):Prop:=0<=x.aAt/\x.aAt<=500/\0<=x.at_/\x.at_<=500/\0<=x.deep/\x.deep<=500
structure qeR(Ts:List Nat)(n₀:Nat)(J:List qA->World->Prop)(pre1 S:List qA)(N:Nat)(deep root pAt pW:Int)(sv:Value)(b' o' n:Nat)(Bs Bp:Nat)(cs cp:Array Value)(W:World)(k:Nat)(rest:qg)(D:List qA)(wr:World):Prop where
 len:k+rest.length=n
 total:rest.total<=N
 holds:qB n₀ wr b' (o'+k*4) rest
 said:D++qV deep root pAt pW sv k rest=S
 j:J (pre1++D) wr
 s:qd wr Bs 175 cs
 p:qd wr Bp 87 cp
 free:Qw Ts n₀ wr
 so:¬ zg Ts wr Bs
 po:¬ zg Ts wr Bp
 keeps:qR Ts W wr
def qdG(Ts:List Nat)(n₀:Nat)(J:List qA->World->Prop)(pre1 S:List qA)(N:Nat)(deep root pAt pW:Int)(sv:Value)(b' o' n:Nat)(Bs Bp:Nat)(cs cp:Array Value)(W:World)(k:Nat)(wr:World):Prop:=
 ∃rest D,qeR Ts n₀ J pre1 S N deep root pAt pW sv b' o' n Bs Bp cs cp W k rest D wr
theorem qbQ(Ts:List Nat)(n₀ l:Nat)(J:List qA->World->Prop)(E:List qA)(hcalm:∀x,x∈E->qkZ x)
 (hst:∀pre A B,J pre A->BX A B->J pre B)
 (hY:∀pre x A,J pre A->pre++[x] <+: E->YieldAt Fence.wide 0 prog l #[x.val] A fun e B=>e = .returned (.bool true)/\J (pre++[x]) B/\qR Ts A B) :
 ∀ (N:Nat) (nm:ByteArray) (wd at_:Int) (sv:Value) (deep root aAt aW:Int) (av:Value) (subs:qg) (pre:List qA) (W:World),subs.total<N->qM n₀ W sv subs->Qw Ts n₀ W->J pre W ->
  pre++(⟨nm,wd,at_,sv,deep,root,aAt,aW,av⟩::qV (deep+1) root (aAt+at_) wd sv 0 subs) <+: E ->
  Calls prog 168 #[.agg #[.string nm,.int .i64 wd,.int .i64 at_,sv,.int .i64 deep,.int .i64 root,.int .i64 aAt,.int .i64 aW,av],.func (.yield l) #[] #[]] W fun e B=>
   e = .returned (.bool true)/\J (pre++(⟨nm,wd,at_,sv,deep,root,aAt,aW,av⟩::qV (deep+1) root (aAt+at_) wd sv 0 subs)) B/\qR Ts W B:=by
 intro N
 induction N with
 | zero=>intro nm wd at_ sv deep root aAt aW av subs pre W h;exact absurd h (Nat.not_lt_zero _)
 |succ N ih=>
  intro nm wd at_ sv deep root aAt aW av subs pre W hN hsv hfr hj hE
  obtain⟨h1,h1',h2,h2',h4,h5⟩:=hcalm ⟨nm,wd,at_,sv,deep,root,aAt,aW,av⟩ (hE.subset (by simp))
  dsimp only at h1 h1' h2 h2' h4 h5
  have ihH:=vH ih
  clear ih
  have hb0:BX W (W.alloc (.cells #[.string nm,.int .i64 wd,.int .i64 at_,sv,.int .i64 deep,.int .i64 root,.int .i64 aAt,.int .i64 aW,av] 175)):=qi
  have hs0:=qd.new W 175 #[.string nm,.int .i64 wd,.int .i64 at_,sv,.int .i64 deep,.int .i64 root,.int .i64 aAt,.int .i64 aW,av]
  have hfr0:=hfr.below hb0
  have hso0:=zi hfr.ok hb0 (vL W.heap.size)
  have hY0:=YieldAt.mono (R':=fun e B=>e = .returned (.bool true)/\J (pre++[⟨nm,wd,at_,sv,deep,root,aAt,aW,av⟩]) B/\qR Ts W B/\qd B W.heap.size 175 #[.string nm,.int .i64 wd,.int .i64 at_,sv,.int .i64 deep,.int .i64 root,.int .i64 aAt,.int .i64 aW,av]/\Qw Ts n₀ B/\¬ zg Ts B W.heap.size/\qM n₀ B sv subs)
   (xN (m':=0) (hY pre ⟨nm,wd,at_,sv,deep,root,aAt,aW,av⟩ _ (hst _ _ _ hj hb0) (by
     refine List.IsPrefix.trans ?_ hE
     exact⟨qV (deep+1) root (aAt+at_) wd sv 0 subs,by simp⟩)))
   (fun e B ⟨he,hj1,hk⟩=>⟨he,hj1,(qR.of_below hb0).trans hk,hk.cells hfr0.ok hs0 hso0,hfr0.keeps hk,hk.own hfr0.ok _ (by simp) hso0,qM.of (hfr0.cells hk) (qM.of (zu hb0) hsv)⟩)
  obtain⟨fn,tmps,assign,body,hy,hR⟩:=hY0
  unfold qA.val at hy
  dsimp only at hy
  have C1:=fun B=>Xl root aAt aW wd at_ nm sv B h1 (by omega) h2 (by omega)
  have hst2:=vH hst
  have hY2:=vH hY
  clear hst hY hj hsv hfr
  refine(callsIn_wide (n:=1)).1 ?_
  refine callsIn_of_wp func168 rfl trivial ?_ rfl
  simp only[ntmps168,List.size_toArray,List.length_cons,List.length_nil,Nat.reduceAdd,Nat.reduceSub,Array.replicate_succ,Array.replicate_zero,List.push_toArray,List.append_toArray,List.nil_append,List.cons_append]
  gi_wp2_with (first
   |(refine hR.mono ?_;clear hR;rintro e W1 ⟨rfl,hj1,hk1,hs1,hfr1,hso1,hsv1⟩;have d0:=hs1.cell (j:=0) (v:=.string nm) rfl;have d1:=hs1.cell (j:=1) (v:=.int .i64 wd) rfl;have d2:=hs1.cell (j:=2) (v:=.int .i64 at_) rfl;have d3:=hs1.cell (j:=3) (v:=sv) rfl;have d5:=hs1.cell (j:=5) (v:=.int .i64 root) rfl;have d6:=hs1.cell (j:=6) (v:=.int .i64 aAt) rfl;have d7:=hs1.cell (j:=7) (v:=.int .i64 aW) rfl)
   |(refine⟨trivial,?_⟩;gi_at_call 173;refine(callsIn_wide.2 (C1 _)).mono ?_;clear C1;rintro e W2 ⟨rfl,hb2⟩;have g3:=fun o=>qk o (qb hb2 d3);clear d0 d1 d2 d3 d5 d6 d7;rcases hsv1 with⟨⟨a0,rfl⟩,rfl⟩|⟨b',o',c',rfl,hlc,hc200,hh1⟩))
  ·refine wpIn_loop_rounds 1 ?_
   rw[roundsIn_succ]
   gi_wp2_with fail
   go_ret
   have hB3:=hb2.alloc hb2.size (.cells #[.int .i64 root,.int .i64 (aAt+at_),.int .i64 wd] 87)
   exact⟨rfl,hst2.out _ _ _ hj1 hB3,hk1.trans (qR.of_below hB3)⟩
  ·have hB3:=hb2.alloc hb2.size (.cells #[.int .i64 root,.int .i64 (aAt+at_),.int .i64 wd] 87)
   have hp3:=qd.new W2 87 #[.int .i64 root,.int .i64 (aAt+at_),.int .i64 wd]
   have hs3:=hs1.below hB3 hs1.lt
   have hfr3:=hfr1.below hB3
   have hso3:=fun h=>hso1 ((zF hfr1.ok hB3 _).1 h)
   have hpo3:=zi hfr1.ok hB3 hb2.size
   have hh3:=qB.of (n₀:=n₀) (zu hB3) hh1
   have hj3:=hst2.out _ _ _ hj1 hB3
   have hk3:=hk1.trans (qR.of_below hB3)
   clear g3 hb2 hs1 hfr1 hso1 hh1 hj1 hk1 hs0 hfr0 hso0 hy hb0 hB3
   generalize W2.alloc (.cells #[.int .i64 root,.int .i64 (aAt+at_),.int .i64 wd] 87)=W3 at hp3 hs3 hfr3 hso3 hpo3 hh3 hj3 hk3 ⊢
   refine wpIn_wide.2 ?_
   go_loopw [21] (fun i wr=>∃k:Nat,i = .int .i64 k/\qdG Ts n₀ J (pre++[⟨nm,wd,at_,.slice (some ⟨b',o',none⟩) subs.length c',deep,root,aAt,aW,av⟩]) (qV (deep+1) root (aAt+at_) wd (.slice (some ⟨b',o',none⟩) subs.length c') 0 subs) N (deep+1) root (aAt+at_) wd (.slice (some ⟨b',o',none⟩) subs.length c') b' o' subs.length W.heap.size W2.heap.size #[.string nm,.int .i64 wd,.int .i64 at_,.slice (some ⟨b',o',none⟩) subs.length c',.int .i64 deep,.int .i64 root,.int .i64 aAt,.int .i64 aW,av] #[.int .i64 root,.int .i64 (aAt+at_),.int .i64 wd] W k wr) (fun i _=>subs.length-(intOf i).toNat)
   case atStart=>
    exact⟨0,rfl,subs,[],⟨by simp,by omega,by simpa using hh3,by simp,by simpa using hj3,hs3,hp3,hfr3,hso3,hpo3,hk3⟩⟩
   case round=>
    obtain⟨k,rfl,rest,D,inv⟩:=hrel
    clear hp3 hs3 hfr3 hso3 hpo3 hh3 hj3 hk3
    cases rest with
    |nil=>
     have hlen:=inv.len
     have hsaid:=inv.said
     simp only[qV,List.append_nil] at hsaid
     have hkl:¬ k<subs.length:=by simp only[qg.length] at hlen;omega
     have hA:=vH (And.intro inv.j inv.keeps)
     have hS:=vH hsaid
     clear inv hlen hsaid
     go_wp2_with fail
     gi_wp2_with fail
     go_ret
     refine⟨rfl,?_,hA.out.2⟩
     have:=hA.out.1
     rw[hS.out] at this
     simpa using this
    |cons nm2 wd2 at2 sv2 subs2 rest2=>
     have hlen:=inv.len
     simp only[qg.length] at hlen
     have hkl:k<subs.length:=by omega
     obtain⟨hbn,⟨e0,e1,e2,e3⟩,hrest2,hsl2⟩:=inv.holds
     obtain⟨qa,qn,qc,rfl⟩:∃a n c,sv2 = .slice a n c:=by
      rcases hsl2 with⟨⟨_,h⟩,_⟩|⟨b2,o2,c2,h,_⟩
      ·exact⟨_,_,_,h⟩
      ·exact⟨_,_,_,h⟩
     have htot:=inv.total
     simp only[qg.total] at htot
     have hsaid:=inv.said
     simp only[qV,QF] at hsaid
     have hbr:BX wr (wr.alloc (.cells #[.string nm2,.int .i64 wd2,.int .i64 at2,(.slice qa qn qc)] 40)):=qi
     have hreg:=qd.new wr 40 #[.string nm2,.int .i64 wd2,.int .i64 at2,(.slice qa qn qc)]
     have C:∀V,Below (wr.alloc (.cells #[.string nm2,.int .i64 wd2,.int .i64 at2,(.slice qa qn qc)] 40)).heap.size (wr.alloc (.cells #[.string nm2,.int .i64 wd2,.int .i64 at2,(.slice qa qn qc)] 40)) V ->
      Calls prog 168 #[.agg #[.string nm2,.int .i64 wd2,.int .i64 at2,(.slice qa qn qc),.int .i64 (deep+1),.int .i64 root,.int .i64 (aAt+at_),.int .i64 wd,.slice (some ⟨b',o',none⟩) k c'],.func (.yield l) #[] #[]] V fun e B=>
       e = .returned (.bool true)/\qdG Ts n₀ J (pre++[⟨nm,wd,at_,.slice (some ⟨b',o',none⟩) subs.length c',deep,root,aAt,aW,av⟩]) (qV (deep+1) root (aAt+at_) wd (.slice (some ⟨b',o',none⟩) subs.length c') 0 subs) N (deep+1) root (aAt+at_) wd (.slice (some ⟨b',o',none⟩) subs.length c') b' o' subs.length W.heap.size W2.heap.size #[.string nm,.int .i64 wd,.int .i64 at_,.slice (some ⟨b',o',none⟩) subs.length c',.int .i64 deep,.int .i64 root,.int .i64 aAt,.int .i64 aW,av] #[.int .i64 root,.int .i64 (aAt+at_),.int .i64 wd] W (k+1) B /\
        (B.cell? ⟨wr.heap.size,0,none⟩=some (.string nm2)/\B.cell? ⟨wr.heap.size,1,none⟩=some (.int .i64 wd2)/\B.cell? ⟨wr.heap.size,2,none⟩=some (.int .i64 at2)/\B.cell? ⟨wr.heap.size,3,none⟩=some (.slice qa qn qc)/\B.cell? ⟨W.heap.size,3,none⟩=some (.slice (some ⟨b',o',none⟩) subs.length c')/\B.cell? ⟨W.heap.size,4,none⟩=some (.int .i64 deep)/\B.cell? ⟨W2.heap.size,0,none⟩=some (.int .i64 root)/\B.cell? ⟨W2.heap.size,1,none⟩=some (.int .i64 (aAt+at_))/\B.cell? ⟨W2.heap.size,2,none⟩=some (.int .i64 wd)):=fun V hV=>by
      have hbV:=hbr.trans (hV.mono hbr.size)
      have hfrV:=inv.free.below hbV
      have hregV:=hreg.below hV hreg.lt
      refine(ihH.out nm2 wd2 at2 (.slice qa qn qc) (deep+1) root (aAt+at_) wd (.slice (some ⟨b',o',none⟩) k c') subs2 (pre++[⟨nm,wd,at_,.slice (some ⟨b',o',none⟩) subs.length c',deep,root,aAt,aW,av⟩]++D) V (by omega) (qM.of (zu hbV) hsl2) hfrV (hst2.out _ _ _ inv.j hbV) ?_).mono fun e B ⟨he,hjB,hkB⟩=>?_
      ·refine List.IsPrefix.trans ?_ hE
       refine⟨qV (deep+1) root (aAt+at_) wd (.slice (some ⟨b',o',none⟩) subs.length c') (k+1) rest2,?_⟩
       rw[←hsaid];simp
      ·have hkV:=(qR.of_below (Ts:=Ts) hbV).trans hkB
       have hsB:=hkV.cells inv.free.ok inv.s inv.so
       have hpB:=hkV.cells inv.free.ok inv.p inv.po
       have hrB:=hkB.cells hfrV.ok hregV (zi inv.free.ok hbV (vL _))
       refine⟨he,⟨rest2,D++(⟨nm2,wd2,at2,.slice qa qn qc,deep+1,root,aAt+at_,wd,.slice (some ⟨b',o',none⟩) k c'⟩::qV (deep+1+1) root (aAt+at_+at2) wd2 (.slice qa qn qc) 0 subs2),
        ⟨by omega,by omega,?_,?_,?_,hsB,hpB,inv.free.keeps hkV,hkV.own inv.free.ok _ inv.s.lt inv.so,hkV.own inv.free.ok _ inv.p.lt inv.po,inv.keeps.trans hkV⟩⟩,hrB.cell rfl,hrB.cell rfl,hrB.cell rfl,hrB.cell rfl,hsB.cell rfl,hsB.cell rfl,hpB.cell rfl,hpB.cell rfl,hpB.cell rfl⟩
       ·have:=qB.of (n₀:=n₀) (inv.free.cells hkV) hrest2
        rw[show o'+(k+1)*4=o'+k*4+4 by omega];exact this
       ·rw[←hsaid];simp
       ·simpa using hjB
     have a3:=inv.s.cell (j:=3) (v:=.slice (some ⟨b',o',none⟩) subs.length c') rfl
     have a4:=inv.s.cell (j:=4) (v:=.int .i64 deep) rfl
     have p0:=inv.p.cell (j:=0) (v:=.int .i64 root) rfl
     have p1:=inv.p.cell (j:=1) (v:=.int .i64 (aAt+at_)) rfl
     have p2:=inv.p.cell (j:=2) (v:=.int .i64 wd) rfl
     have n1:=World.new_ne wr _ a3
     have n2:=World.new_ne wr _ p0
     have k0:(0:Int)<=(k:Int):=vN _
     have k1:(k:Int)<=(c':Int):=by omega
     have k2:(k:Int)<(subs.length:Int):=by omega
     have hV0:(wr.alloc (.cells #[.string nm2,.int .i64 wd2,.int .i64 at2,(.slice qa qn qc)] 40)).cell? ⟨wr.heap.size,0,none⟩=some (.string nm2)/\(wr.alloc (.cells #[.string nm2,.int .i64 wd2,.int .i64 at2,(.slice qa qn qc)] 40)).cell? ⟨wr.heap.size,1,none⟩=some (.int .i64 wd2)/\(wr.alloc (.cells #[.string nm2,.int .i64 wd2,.int .i64 at2,(.slice qa qn qc)] 40)).cell? ⟨wr.heap.size,2,none⟩=some (.int .i64 at2)/\(wr.alloc (.cells #[.string nm2,.int .i64 wd2,.int .i64 at2,(.slice qa qn qc)] 40)).cell? ⟨wr.heap.size,3,none⟩=some (.slice qa qn qc)/\(wr.alloc (.cells #[.string nm2,.int .i64 wd2,.int .i64 at2,(.slice qa qn qc)] 40)).cell? ⟨W.heap.size,3,none⟩=some (.slice (some ⟨b',o',none⟩) subs.length c')/\(wr.alloc (.cells #[.string nm2,.int .i64 wd2,.int .i64 at2,(.slice qa qn qc)] 40)).cell? ⟨W.heap.size,4,none⟩=some (.int .i64 deep)/\(wr.alloc (.cells #[.string nm2,.int .i64 wd2,.int .i64 at2,(.slice qa qn qc)] 40)).cell? ⟨W2.heap.size,0,none⟩=some (.int .i64 root)/\(wr.alloc (.cells #[.string nm2,.int .i64 wd2,.int .i64 at2,(.slice qa qn qc)] 40)).cell? ⟨W2.heap.size,1,none⟩=some (.int .i64 (aAt+at_))/\(wr.alloc (.cells #[.string nm2,.int .i64 wd2,.int .i64 at2,(.slice qa qn qc)] 40)).cell? ⟨W2.heap.size,2,none⟩=some (.int .i64 wd):=⟨hreg.cell rfl,hreg.cell rfl,hreg.cell rfl,hreg.cell rfl,qk _ a3,qk _ a4,qk _ p0,qk _ p1,qk _ p2⟩
     have hwd:IntKind.i64.wrap (deep+1)=deep+1:=vI _ (by omega)
     clear inv hrest2 hsl2 hreg hbr
     have hsaid:=vH hsaid
     have hlen:=vH hlen
     go_wp2
     clear a3 a4 p0 p1 p2 e0 e1 e2 e3 n1 n2
     generalize wr.alloc (.cells #[.string nm2,.int .i64 wd2,.int .i64 at2,(.slice qa qn qc)] 40)=V0 at C hV0 ⊢
     obtain⟨f0,f1,f2,f3,f4,f5,f6,f7,f8⟩:=hV0
     go_region_held3 (fun w'=>w'.cell? ⟨wr.heap.size,0,none⟩=some (.string nm2)/\w'.cell? ⟨wr.heap.size,1,none⟩=some (.int .i64 wd2)/\w'.cell? ⟨wr.heap.size,2,none⟩=some (.int .i64 at2)/\w'.cell? ⟨wr.heap.size,3,none⟩=some (.slice qa qn qc)/\w'.cell? ⟨W.heap.size,3,none⟩=some (.slice (some ⟨b',o',none⟩) subs.length c')/\w'.cell? ⟨W.heap.size,4,none⟩=some (.int .i64 deep)/\w'.cell? ⟨W2.heap.size,0,none⟩=some (.int .i64 root)/\w'.cell? ⟨W2.heap.size,1,none⟩=some (.int .i64 (aAt+at_))/\w'.cell? ⟨W2.heap.size,2,none⟩=some (.int .i64 wd))
      (go_keep)
      ((go_at_call 168;refine(C _ ((kB _ _).drew)).mono ?_;clear C;rintro e B ⟨rfl,hD,hcs⟩))
     clear hwd
     go_wp2_with fail
     gi_wp2_with fail
     exact⟨⟨k+1,by go_num,hD⟩,by simp[intOf];omega⟩
theorem Zu{α:Type}{X Y A B:List α}{x:α}(h:X++Y=A++x::B):(∃A3,A=X++A3/\Y=A3++x::B)∨∃B3,X=A++x::B3:=by
 rcases List.append_eq_append_iff.1 h with⟨a',h1,h2⟩|⟨c',h1,h2⟩
 ·exact .inl ⟨a',h1,h2⟩
 ·cases c' with
  | nil=>exact .inl ⟨[],by rw[h1];simp,by simpa using h2.symm⟩
  |cons y c''=>
   rw[List.cons_append] at h2
   obtain⟨rfl,_⟩:=List.cons.inj h2
   exact .inr ⟨c'',h1⟩
def qdH(Ts:List Nat)(n₀:Nat)(J:List qA->World->Prop)(E:List qA)(x0:qA)(pre1 S:List qA)(N:Nat)(deep root pAt pW:Int)(sv:Value)(b' o' n:Nat)(Bs Bp:Nat)(cs cp:Array Value)(W:World)(k:Nat)(wr:World):Prop:=
 ∃rest D A B,qV deep root pAt pW sv k rest=A++x0::B/\pre1++D++A=E/\qeR Ts n₀ J pre1 S N deep root pAt pW sv b' o' n Bs Bp cs cp W k rest D wr
theorem qfi(Ts:List Nat)(n₀ l:Nat)(J:List qA->World->Prop)(E:List qA)(x0:qA)(chain:List PanicEntry)(R:World->Prop)(hcalm:∀x,x∈E->qkZ x)
 (hst:∀pre A B,J pre A->BX A B->J pre B)
 (hY:∀pre x A,J pre A->pre++[x] <+: E->YieldAt Fence.wide 0 prog l #[x.val] A fun e B=>e = .returned (.bool true)/\J (pre++[x]) B/\qR Ts A B)
 (hX:∀A,J E A->YieldAt Fence.wide 0 prog l #[x0.val] A fun e B=>e = .panicked chain/\R B) :
 ∀ (N:Nat) (nm:ByteArray) (wd at_:Int) (sv:Value) (deep root aAt aW:Int) (av:Value) (subs:qg) (pre:List qA) (W:World),subs.total<N->qM n₀ W sv subs->Qw Ts n₀ W->J pre W ->
  (∃A B,(⟨nm,wd,at_,sv,deep,root,aAt,aW,av⟩::qV (deep+1) root (aAt+at_) wd sv 0 subs)=A++x0::B/\pre++A=E) ->
  Calls prog 168 #[.agg #[.string nm,.int .i64 wd,.int .i64 at_,sv,.int .i64 deep,.int .i64 root,.int .i64 aAt,.int .i64 aW,av],.func (.yield l) #[] #[]] W fun e B=>
   e = .panicked chain/\R B:=by
 intro N
 induction N with
 | zero=>intro nm wd at_ sv deep root aAt aW av subs pre W h;exact absurd h (Nat.not_lt_zero _)
 |succ N ih=>
  intro nm wd at_ sv deep root aAt aW av subs pre W hN hsv hfr hj hE
  obtain⟨A1,B1,hAB,hpA⟩:=hE
  cases A1 with
  |nil=>
   rw[List.nil_append] at hAB
   obtain⟨hx0,_⟩:=List.cons.inj hAB
   rw[List.append_nil] at hpA
   have hY0:=hX _ (hst _ _ _ (hpA ▸ hj) ((kB _ W).alloc (vL _) (.cells #[.string nm,.int .i64 wd,.int .i64 at_,sv,.int .i64 deep,.int .i64 root,.int .i64 aAt,.int .i64 aW,av] 175)))
   rw[←hx0] at hY0
   exact qdB l nm wd at_ deep root aAt aW sv av chain R W hY0
  | cons y A2=>
  rw[List.cons_append] at hAB
  obtain⟨rfl,hS⟩:=List.cons.inj hAB
  have hE:pre++[⟨nm,wd,at_,sv,deep,root,aAt,aW,av⟩] <+: E:=⟨A2,by rw[←hpA];simp⟩
  have ihH:=vH ih
  clear ih hAB
  have hgood:=vH (qbQ Ts n₀ l J E hcalm hst hY)
  have hpA2:pre++[⟨nm,wd,at_,sv,deep,root,aAt,aW,av⟩]++A2=E:=by rw[←hpA];simp
  have hpA:=vH hpA2
  clear hpA2
  obtain⟨h1,h1',h2,h2',h4,h5⟩:=hcalm ⟨nm,wd,at_,sv,deep,root,aAt,aW,av⟩ (hE.subset (by simp))
  dsimp only at h1 h1' h2 h2' h4 h5
  have hb0:BX W (W.alloc (.cells #[.string nm,.int .i64 wd,.int .i64 at_,sv,.int .i64 deep,.int .i64 root,.int .i64 aAt,.int .i64 aW,av] 175)):=qi
  have hs0:=qd.new W 175 #[.string nm,.int .i64 wd,.int .i64 at_,sv,.int .i64 deep,.int .i64 root,.int .i64 aAt,.int .i64 aW,av]
  have hfr0:=hfr.below hb0
  have hso0:=zi hfr.ok hb0 (vL W.heap.size)
  have hY0:=YieldAt.mono (R':=fun e B=>e = .returned (.bool true)/\J (pre++[⟨nm,wd,at_,sv,deep,root,aAt,aW,av⟩]) B/\qR Ts W B/\qd B W.heap.size 175 #[.string nm,.int .i64 wd,.int .i64 at_,sv,.int .i64 deep,.int .i64 root,.int .i64 aAt,.int .i64 aW,av]/\Qw Ts n₀ B/\¬ zg Ts B W.heap.size/\qM n₀ B sv subs)
   (xN (m':=0) (hY pre ⟨nm,wd,at_,sv,deep,root,aAt,aW,av⟩ _ (hst _ _ _ hj hb0) hE))
   (fun e B ⟨he,hj1,hk⟩=>⟨he,hj1,(qR.of_below hb0).trans hk,hk.cells hfr0.ok hs0 hso0,hfr0.keeps hk,hk.own hfr0.ok _ (by simp) hso0,qM.of (hfr0.cells hk) (qM.of (zu hb0) hsv)⟩)
  obtain⟨fn,tmps,assign,body,hy,hR⟩:=hY0
  unfold qA.val at hy
  dsimp only at hy
  have C1:=fun B=>Xl root aAt aW wd at_ nm sv B h1 (by omega) h2 (by omega)
  have hst2:=vH hst
  have hS2:=vH hS
  clear hst hY hX hj hsv hfr hS
  refine(callsIn_wide (n:=1)).1 ?_
  refine callsIn_of_wp func168 rfl trivial ?_ rfl
  simp only[ntmps168,List.size_toArray,List.length_cons,List.length_nil,Nat.reduceAdd,Nat.reduceSub,Array.replicate_succ,Array.replicate_zero,List.push_toArray,List.append_toArray,List.nil_append,List.cons_append]
  gi_wp2_with (first
   |(refine hR.mono ?_;clear hR;rintro e W1 ⟨rfl,hj1,hk1,hs1,hfr1,hso1,hsv1⟩;have d0:=hs1.cell (j:=0) (v:=.string nm) rfl;have d1:=hs1.cell (j:=1) (v:=.int .i64 wd) rfl;have d2:=hs1.cell (j:=2) (v:=.int .i64 at_) rfl;have d3:=hs1.cell (j:=3) (v:=sv) rfl;have d5:=hs1.cell (j:=5) (v:=.int .i64 root) rfl;have d6:=hs1.cell (j:=6) (v:=.int .i64 aAt) rfl;have d7:=hs1.cell (j:=7) (v:=.int .i64 aW) rfl)
   |(refine⟨trivial,?_⟩;gi_at_call 173;refine(callsIn_wide.2 (C1 _)).mono ?_;clear C1;rintro e W2 ⟨rfl,hb2⟩;have g3:=fun o=>qk o (qb hb2 d3);clear d0 d1 d2 d3 d5 d6 d7;rcases hsv1 with⟨⟨a0,rfl⟩,rfl⟩|⟨b',o',c',rfl,hlc,hc200,hh1⟩))
  ·exact absurd hS2.out (by simp[qV])
  ·have hB3:=hb2.alloc hb2.size (.cells #[.int .i64 root,.int .i64 (aAt+at_),.int .i64 wd] 87)
   have hp3:=qd.new W2 87 #[.int .i64 root,.int .i64 (aAt+at_),.int .i64 wd]
   have hs3:=hs1.below hB3 hs1.lt
   have hfr3:=hfr1.below hB3
   have hso3:=fun h=>hso1 ((zF hfr1.ok hB3 _).1 h)
   have hpo3:=zi hfr1.ok hB3 hb2.size
   have hh3:=qB.of (n₀:=n₀) (zu hB3) hh1
   have hj3:=hst2.out _ _ _ hj1 hB3
   have hk3:=hk1.trans (qR.of_below hB3)
   clear g3 hb2 hs1 hfr1 hso1 hh1 hj1 hk1 hs0 hfr0 hso0 hy hb0 hB3
   generalize W2.alloc (.cells #[.int .i64 root,.int .i64 (aAt+at_),.int .i64 wd] 87)=W3 at hp3 hs3 hfr3 hso3 hpo3 hh3 hj3 hk3 ⊢
   refine wpIn_wide.2 ?_
   go_loopw [21] (fun i wr=>∃k:Nat,i = .int .i64 k/\qdH Ts n₀ J E x0 (pre++[⟨nm,wd,at_,.slice (some ⟨b',o',none⟩) subs.length c',deep,root,aAt,aW,av⟩]) (qV (deep+1) root (aAt+at_) wd (.slice (some ⟨b',o',none⟩) subs.length c') 0 subs) N (deep+1) root (aAt+at_) wd (.slice (some ⟨b',o',none⟩) subs.length c') b' o' subs.length W.heap.size W2.heap.size #[.string nm,.int .i64 wd,.int .i64 at_,.slice (some ⟨b',o',none⟩) subs.length c',.int .i64 deep,.int .i64 root,.int .i64 aAt,.int .i64 aW,av] #[.int .i64 root,.int .i64 (aAt+at_),.int .i64 wd] W k wr) (fun i _=>subs.length-(intOf i).toNat)
   case atStart=>
    exact⟨0,rfl,subs,[],A2,B1,hS2.out,by rw[List.append_nil];exact hpA.out,⟨by simp,by omega,by simpa using hh3,by simp,by simpa using hj3,hs3,hp3,hfr3,hso3,hpo3,hk3⟩⟩
   case round=>
    obtain⟨k,rfl,rest,D,A3,B3,hrs,hpD,inv⟩:=hrel
    clear hp3 hs3 hfr3 hso3 hpo3 hh3 hj3 hk3
    cases rest with
    |nil=>
     exact absurd hrs (by simp[qV])
    |cons nm2 wd2 at2 sv2 subs2 rest2=>
     have hlen:=inv.len
     simp only[qg.length] at hlen
     have hkl:k<subs.length:=by omega
     obtain⟨hbn,⟨e0,e1,e2,e3⟩,hrest2,hsl2⟩:=inv.holds
     obtain⟨qa,qn,qc,rfl⟩:∃a n c,sv2 = .slice a n c:=by
      rcases hsl2 with⟨⟨_,h⟩,_⟩|⟨b2,o2,c2,h,_⟩
      ·exact⟨_,_,_,h⟩
      ·exact⟨_,_,_,h⟩
     have htot:=inv.total
     simp only[qg.total] at htot
     have hsaid:=inv.said
     simp only[qV,QF] at hsaid
     have hbr:BX wr (wr.alloc (.cells #[.string nm2,.int .i64 wd2,.int .i64 at2,(.slice qa qn qc)] 40)):=qi
     have hreg:=qd.new wr 40 #[.string nm2,.int .i64 wd2,.int .i64 at2,(.slice qa qn qc)]
     have a3:=inv.s.cell (j:=3) (v:=.slice (some ⟨b',o',none⟩) subs.length c') rfl
     have a4:=inv.s.cell (j:=4) (v:=.int .i64 deep) rfl
     have p0:=inv.p.cell (j:=0) (v:=.int .i64 root) rfl
     have p1:=inv.p.cell (j:=1) (v:=.int .i64 (aAt+at_)) rfl
     have p2:=inv.p.cell (j:=2) (v:=.int .i64 wd) rfl
     have n1:=World.new_ne wr _ a3
     have n2:=World.new_ne wr _ p0
     have k0:(0:Int)<=(k:Int):=vN _
     have k1:(k:Int)<=(c':Int):=by omega
     have k2:(k:Int)<(subs.length:Int):=by omega
     have hV0:(wr.alloc (.cells #[.string nm2,.int .i64 wd2,.int .i64 at2,(.slice qa qn qc)] 40)).cell? ⟨wr.heap.size,0,none⟩=some (.string nm2)/\(wr.alloc (.cells #[.string nm2,.int .i64 wd2,.int .i64 at2,(.slice qa qn qc)] 40)).cell? ⟨wr.heap.size,1,none⟩=some (.int .i64 wd2)/\(wr.alloc (.cells #[.string nm2,.int .i64 wd2,.int .i64 at2,(.slice qa qn qc)] 40)).cell? ⟨wr.heap.size,2,none⟩=some (.int .i64 at2)/\(wr.alloc (.cells #[.string nm2,.int .i64 wd2,.int .i64 at2,(.slice qa qn qc)] 40)).cell? ⟨wr.heap.size,3,none⟩=some (.slice qa qn qc)/\(wr.alloc (.cells #[.string nm2,.int .i64 wd2,.int .i64 at2,(.slice qa qn qc)] 40)).cell? ⟨W.heap.size,3,none⟩=some (.slice (some ⟨b',o',none⟩) subs.length c')/\(wr.alloc (.cells #[.string nm2,.int .i64 wd2,.int .i64 at2,(.slice qa qn qc)] 40)).cell? ⟨W.heap.size,4,none⟩=some (.int .i64 deep)/\(wr.alloc (.cells #[.string nm2,.int .i64 wd2,.int .i64 at2,(.slice qa qn qc)] 40)).cell? ⟨W2.heap.size,0,none⟩=some (.int .i64 root)/\(wr.alloc (.cells #[.string nm2,.int .i64 wd2,.int .i64 at2,(.slice qa qn qc)] 40)).cell? ⟨W2.heap.size,1,none⟩=some (.int .i64 (aAt+at_))/\(wr.alloc (.cells #[.string nm2,.int .i64 wd2,.int .i64 at2,(.slice qa qn qc)] 40)).cell? ⟨W2.heap.size,2,none⟩=some (.int .i64 wd):=⟨hreg.cell rfl,hreg.cell rfl,hreg.cell rfl,hreg.cell rfl,qk _ a3,qk _ a4,qk _ p0,qk _ p1,qk _ p2⟩
     have hwd:IntKind.i64.wrap (deep+1)=deep+1:=vI _ (by omega)
     simp only[qV,QF] at hrs
     rw[←List.cons_append] at hrs
     rcases Zu hrs with⟨A4,hA4,hY4⟩|⟨B4,hB4⟩
     ·have C:∀V,Below (wr.alloc (.cells #[.string nm2,.int .i64 wd2,.int .i64 at2,(.slice qa qn qc)] 40)).heap.size (wr.alloc (.cells #[.string nm2,.int .i64 wd2,.int .i64 at2,(.slice qa qn qc)] 40)) V ->
       Calls prog 168 #[.agg #[.string nm2,.int .i64 wd2,.int .i64 at2,(.slice qa qn qc),.int .i64 (deep+1),.int .i64 root,.int .i64 (aAt+at_),.int .i64 wd,.slice (some ⟨b',o',none⟩) k c'],.func (.yield l) #[] #[]] V fun e B=>
        e = .returned (.bool true)/\qdH Ts n₀ J E x0 (pre++[⟨nm,wd,at_,.slice (some ⟨b',o',none⟩) subs.length c',deep,root,aAt,aW,av⟩]) (qV (deep+1) root (aAt+at_) wd (.slice (some ⟨b',o',none⟩) subs.length c') 0 subs) N (deep+1) root (aAt+at_) wd (.slice (some ⟨b',o',none⟩) subs.length c') b' o' subs.length W.heap.size W2.heap.size #[.string nm,.int .i64 wd,.int .i64 at_,.slice (some ⟨b',o',none⟩) subs.length c',.int .i64 deep,.int .i64 root,.int .i64 aAt,.int .i64 aW,av] #[.int .i64 root,.int .i64 (aAt+at_),.int .i64 wd] W (k+1) B /\
         (B.cell? ⟨wr.heap.size,0,none⟩=some (.string nm2)/\B.cell? ⟨wr.heap.size,1,none⟩=some (.int .i64 wd2)/\B.cell? ⟨wr.heap.size,2,none⟩=some (.int .i64 at2)/\B.cell? ⟨wr.heap.size,3,none⟩=some (.slice qa qn qc)/\B.cell? ⟨W.heap.size,3,none⟩=some (.slice (some ⟨b',o',none⟩) subs.length c')/\B.cell? ⟨W.heap.size,4,none⟩=some (.int .i64 deep)/\B.cell? ⟨W2.heap.size,0,none⟩=some (.int .i64 root)/\B.cell? ⟨W2.heap.size,1,none⟩=some (.int .i64 (aAt+at_))/\B.cell? ⟨W2.heap.size,2,none⟩=some (.int .i64 wd)):=fun V hV=>by
       have hbV:=hbr.trans (hV.mono hbr.size)
       have hfrV:=inv.free.below hbV
       have hregV:=hreg.below hV hreg.lt
       refine(hgood.out (subs2.total+1) nm2 wd2 at2 (.slice qa qn qc) (deep+1) root (aAt+at_) wd (.slice (some ⟨b',o',none⟩) k c') subs2 (pre++[⟨nm,wd,at_,.slice (some ⟨b',o',none⟩) subs.length c',deep,root,aAt,aW,av⟩]++D) V (Nat.lt_succ_self _) (qM.of (zu hbV) hsl2) hfrV (hst2.out _ _ _ inv.j hbV) ?_).mono fun e B ⟨he,hjB,hkB⟩=>?_
       ·refine⟨A4,?_⟩
        rw[←hpD,hA4];simp
       ·have hkV:=(qR.of_below (Ts:=Ts) hbV).trans hkB
        have hsB:=hkV.cells inv.free.ok inv.s inv.so
        have hpB:=hkV.cells inv.free.ok inv.p inv.po
        have hrB:=hkB.cells hfrV.ok hregV (zi inv.free.ok hbV (vL _))
        refine⟨he,⟨rest2,D++(⟨nm2,wd2,at2,.slice qa qn qc,deep+1,root,aAt+at_,wd,.slice (some ⟨b',o',none⟩) k c'⟩::qV (deep+1+1) root (aAt+at_+at2) wd2 (.slice qa qn qc) 0 subs2),A4,B3,hY4,by rw[←hpD,hA4];simp,
         ⟨by omega,by omega,?_,?_,?_,hsB,hpB,inv.free.keeps hkV,hkV.own inv.free.ok _ inv.s.lt inv.so,hkV.own inv.free.ok _ inv.p.lt inv.po,inv.keeps.trans hkV⟩⟩,hrB.cell rfl,hrB.cell rfl,hrB.cell rfl,hrB.cell rfl,hsB.cell rfl,hsB.cell rfl,hpB.cell rfl,hpB.cell rfl,hpB.cell rfl⟩
        ·have:=qB.of (n₀:=n₀) (inv.free.cells hkV) hrest2
         rw[show o'+(k+1)*4=o'+k*4+4 by omega];exact this
        ·rw[←hsaid];simp
        ·simpa using hjB
      clear inv hrest2 hsl2 hreg hbr
      have hsaid:=vH hsaid
      have hlen:=vH hlen
      go_wp2
      clear a3 a4 p0 p1 p2 e0 e1 e2 e3 n1 n2
      generalize wr.alloc (.cells #[.string nm2,.int .i64 wd2,.int .i64 at2,(.slice qa qn qc)] 40)=V0 at C hV0 ⊢
      obtain⟨f0,f1,f2,f3,f4,f5,f6,f7,f8⟩:=hV0
      go_region_held3 (fun w'=>w'.cell? ⟨wr.heap.size,0,none⟩=some (.string nm2)/\w'.cell? ⟨wr.heap.size,1,none⟩=some (.int .i64 wd2)/\w'.cell? ⟨wr.heap.size,2,none⟩=some (.int .i64 at2)/\w'.cell? ⟨wr.heap.size,3,none⟩=some (.slice qa qn qc)/\w'.cell? ⟨W.heap.size,3,none⟩=some (.slice (some ⟨b',o',none⟩) subs.length c')/\w'.cell? ⟨W.heap.size,4,none⟩=some (.int .i64 deep)/\w'.cell? ⟨W2.heap.size,0,none⟩=some (.int .i64 root)/\w'.cell? ⟨W2.heap.size,1,none⟩=some (.int .i64 (aAt+at_))/\w'.cell? ⟨W2.heap.size,2,none⟩=some (.int .i64 wd))
       (go_keep)
       ((go_at_call 168;refine(C _ ((kB _ _).drew)).mono ?_;clear C;rintro e B ⟨rfl,hD,hcs⟩))
      clear hwd
      go_wp2_with fail
      gi_wp2_with fail
      exact⟨⟨k+1,by go_num,hD⟩,by simp[intOf];omega⟩
     ·have C:∀V,Below (wr.alloc (.cells #[.string nm2,.int .i64 wd2,.int .i64 at2,(.slice qa qn qc)] 40)).heap.size (wr.alloc (.cells #[.string nm2,.int .i64 wd2,.int .i64 at2,(.slice qa qn qc)] 40)) V ->
       Calls prog 168 #[.agg #[.string nm2,.int .i64 wd2,.int .i64 at2,(.slice qa qn qc),.int .i64 (deep+1),.int .i64 root,.int .i64 (aAt+at_),.int .i64 wd,.slice (some ⟨b',o',none⟩) k c'],.func (.yield l) #[] #[]] V fun e B=>e = .panicked chain/\R B:=fun V hV=>by
       have hbV:=hbr.trans (hV.mono hbr.size)
       exact ihH.out nm2 wd2 at2 (.slice qa qn qc) (deep+1) root (aAt+at_) wd (.slice (some ⟨b',o',none⟩) k c') subs2 (pre++[⟨nm,wd,at_,.slice (some ⟨b',o',none⟩) subs.length c',deep,root,aAt,aW,av⟩]++D) V (by omega) (qM.of (zu hbV) hsl2) (inv.free.below hbV) (hst2.out _ _ _ inv.j hbV) ⟨A3,B4,hB4,by simpa using hpD⟩
      clear inv hrest2 hsl2 hreg hbr
      have hsaid:=vH hsaid
      have hlen:=vH hlen
      go_wp2
      clear a3 a4 p0 p1 p2 e0 e1 e2 e3 n1 n2
      generalize wr.alloc (.cells #[.string nm2,.int .i64 wd2,.int .i64 at2,(.slice qa qn qc)] 40)=V0 at C hV0 ⊢
      obtain⟨f0,f1,f2,f3,f4,f5,f6,f7,f8⟩:=hV0
      go_still_tail 12,(by kernel_rfl)
      go_wp2_with (go_at_call 168;refine(C _ ((kB _ _).drew)).mono ?_;clear C;rintro e B ⟨rfl,hRB⟩)
      exact⟨rfl,rfl,hRB⟩
end
section
attribute [local go_sem] Oper.semAt_some
structure qla(Ts:List Nat)(n₀:Nat)(J:List qA->World->Prop)(E:List qA)(x0:qA)(b' o' n:Nat)(k:Nat)(rest:qg)(D A B:List qA)(wr:World):Prop where
 len:k+rest.length=n
 holds:qB n₀ wr b' (o'+k*4) rest
 cut:qo k rest=A++x0::B
 said:D++A=E
 j:J D wr
 free:Qw Ts n₀ wr
def qgq(Ts:List Nat)(n₀:Nat)(J:List qA->World->Prop)(E:List qA)(x0:qA)(b' o' n:Nat)(k:Nat)(wr:World):Prop:=∃rest D A B,qla Ts n₀ J E x0 b' o' n k rest D A B wr
theorem qfj(m n₀ Bl b' o' c':Nat)(Ts:List Nat)(L:qg)(E B0:List qA)(x0:qA)(chain:List PanicEntry)(w:World)(hcalm:∀x,x∈E->qkZ x)(hcut:qo 0 L=E++x0::B0)
 (hBl:w.cell? ⟨Bl,0,none⟩=some (.slice (some ⟨b',o',none⟩) L.length c')) (hL:qB n₀ w b' o' L) (hl3:L.length<=4611686018427387904) (hfr:Qw Ts n₀ w) :
 qiu m prog 167 #[.pointer (some ⟨Bl,0,none⟩)] (fun x:qA=>#[x.val]) Ts (fun pre x=>pre++[x] <+: E) E x0 chain w:=by
 intro l J R W hW hst hY hX h0
 have hcl:=(hW.cell (p:=⟨Bl,0,none⟩) (kW _ _ hBl)).trans hBl
 have hfrW:=hfr.below hW
 have hLW:=qB.of (n₀:=n₀) (zu hW) hL
 have hgood:=vH (qbQ Ts n₀ l J E hcalm hst (fun pre x A hj hp=>xN (hY pre x A hj hp)))
 have hfall:=vH (qfi Ts n₀ l J E x0 chain R hcalm hst (fun pre x A hj hp=>xN (hY pre x A hj hp)) (fun A hA=>xN (hX A hA)))
 have hst2:=vH hst
 clear hY hX hst hW hBl hfr hL
 obtain⟨len,hlen⟩:∃len,L.length=len:=⟨_,rfl⟩
 rw[hlen] at hcl hl3
 refine callsIn_of_wp func167 rfl trivial ?_ rfl
 simp only[ntmps167,List.size_toArray,List.length_cons,List.length_nil,Nat.reduceAdd,Nat.reduceSub,Array.replicate_succ,Array.replicate_zero,List.push_toArray,List.append_toArray,List.nil_append,List.cons_append]
 gi_wp2
 refine wpIn_wide.2 ?_
 go_loopw [8] (fun i wr=>∃k:Nat,i = .int .i64 k/\qgq Ts n₀ J E x0 b' o' len k wr) (fun i _=>len-(intOf i).toNat)
 case atStart=>exact⟨0,rfl,L,[],E,B0,⟨by simpa using hlen,by simpa using hLW,hcut,by simp,h0,hfrW⟩⟩
 case round=>
  obtain⟨k,rfl,rest,D,A,B1,inv⟩:=hrel
  clear hLW hfrW h0 hcl hcut
  cases rest with
  |nil=>
   have hc:=inv.cut
   exact absurd hc (by simp[qo])
  |cons nm2 wd2 at2 sv2 subs2 rest2=>
   have hl2:=inv.len
   simp only[qg.length] at hl2
   have hkl:k<len:=by omega
   obtain⟨hbn,⟨e0,e1,e2,e3⟩,hrest2,hsl2⟩:=inv.holds
   obtain⟨qa,qn,qc,rfl⟩:∃a n c,sv2 = .slice a n c:=by
    rcases hsl2 with⟨⟨_,h⟩,_⟩|⟨b2,o2,c2,h,_⟩
    ·exact⟨_,_,_,h⟩
    ·exact⟨_,_,_,h⟩
   have hc:=inv.cut
   have hsaid:=inv.said
   simp only[qo] at hc
   have k0:(0:Int)<=(k:Int):=vN _
   have k2:(k:Int)<(len:Int):=by omega
   rcases Zu hc with⟨A3,hA3,hY3⟩|⟨B3,hB3⟩
   ·have C:∀V,BX wr V->Calls prog 168 #[.agg #[.string nm2,.int .i64 wd2,.int .i64 at2,.slice qa qn qc,.int .i64 1,.int .i64 k,.int .i64 0,.int .i64 wd2,.slice none 0 0],.func (.yield l) #[] #[]] V fun e B=>
     e = .returned (.bool true)/\qgq Ts n₀ J E x0 b' o' len (k+1) B:=fun V hV=>by
     have hfrV:=inv.free.below hV
     refine(hgood.out (subs2.total+1) nm2 wd2 at2 (.slice qa qn qc) 1 k 0 wd2 (.slice none 0 0) subs2 D V (Nat.lt_succ_self _) (qM.of (zu hV) hsl2) hfrV (hst2.out _ _ _ inv.j hV) ⟨A3,?_⟩).mono fun e B ⟨he,hjB,hkB⟩=>?_
     ·rw[←hsaid,hA3];simp
     ·have hkV:=(qR.of_below (Ts:=Ts) hV).trans hkB
      refine⟨he,rest2,D++(⟨nm2,wd2,at2,.slice qa qn qc,1,k,0,wd2,.slice none 0 0⟩::qV (1+1) k (0+at2) wd2 (.slice qa qn qc) 0 subs2),A3,B1,⟨by omega,?_,hY3,by rw[←hsaid,hA3];simp,hjB,inv.free.keeps hkV⟩⟩
      have:=qB.of (n₀:=n₀) (inv.free.cells hkV) hrest2
      rw[show o'+(k+1)*4=o'+k*4+4 by omega];exact this
    clear inv hrest2 hsl2 hc hA3 hY3
    have hsaid:=vH hsaid
    have hl2:=vH hl2
    go_wp2_with (go_at_call 168;refine(C _ (qi.alloc (by simp) _)).mono ?_;clear C;rintro e B ⟨rfl,hD⟩)
    gi_wp2_with fail
    exact⟨⟨k+1,by go_num,hD⟩,by simp[intOf];omega⟩
   ·have C:∀V,BX wr V->Calls prog 168 #[.agg #[.string nm2,.int .i64 wd2,.int .i64 at2,.slice qa qn qc,.int .i64 1,.int .i64 k,.int .i64 0,.int .i64 wd2,.slice none 0 0],.func (.yield l) #[] #[]] V fun e B=>
     e = .panicked chain/\R B:=fun V hV=>
     hfall.out (subs2.total+1) nm2 wd2 at2 (.slice qa qn qc) 1 k 0 wd2 (.slice none 0 0) subs2 D V (Nat.lt_succ_self _) (qM.of (zu hV) hsl2) (inv.free.below hV) (hst2.out _ _ _ inv.j hV) ⟨A,B3,hB3,hsaid⟩
    clear inv hrest2 hsl2 hc hB3 hsaid
    have hl2:=vH hl2
    go_wp2_with (go_at_call 168;refine(C _ (qi.alloc (by simp) _)).mono ?_;clear C;rintro e B ⟨rfl,hR⟩)
    exact⟨rfl,rfl,hR⟩
theorem qcE(n:Int)(b' o' c' len:Nat)(L:qg)(E B0:List qA)(x0:qA)(w:World)(hE:Env w)(hA:Zi w)(hlen:len=L.length)(hL:qB w.heap.size w b' o' L)(hl3:L.length<=4611686018427387904)
 (hcut:qo 0 L=E++x0::B0) (hcalm:∀x,x∈E->qkZ x) (hvals0:(∃a n c,x0.sv = .slice a n c)/\∃a n c,x0.av = .slice a n c)
 (hfine:∀pre x,pre++[x] <+: E->qkd w pre x)
 (hbad:∀W,BX w W->Qe w.heap.size (w.heap.size+1) (E.map (·.name)) (E.map qA.place) W ->
   Calls prog 129 #[.pointer (some ⟨w.heap.size+1,0,none⟩),x0.val] W fun e w'=>e = .panicked (jQ n)/\BX W w') :
 Calls prog 74 #[.slice (some ⟨b',o',none⟩) len c'] w (Qy w n):=by
 have hmf:∀ (fn:Fn) (first cap:Array Value) (w:World),(Instr.makeFunc fn first cap).run prog w = .ok (.func fn first cap) w:=fun _ _ _ _=>rfl
 replace hlen:=vH hlen
 refine(callsIn_wide (n:=4)).1 ?_
 refine qbm func74 rfl ?_
 simp only[ntmps74,List.size_toArray,List.length_cons,List.length_nil,Nat.reduceAdd,Nat.reduceSub,Array.replicate_succ,Array.replicate_zero,List.push_toArray,List.append_toArray,List.nil_append,List.cons_append]
 refine Qh.seq (Qh.of (n:=4) ?_)
 gi_wp2
 refine Qh.seq (Qh.of (n:=4) ?_)
 gi_wp2
 refine Qh.seq (Qh.of (n:=4) ?_)
 gi_wp2
 refine Qh.seq (Qh.seq (Qh.of (n:=4) ?_))
 gi_wp2_with (refine⟨trivial,?_⟩;gi_at_call 128;refine(callsIn_wide.2 (qgn _ _ _ _)).mono ?_;rintro e w' ⟨rfl,rfl⟩)
 generalize hW:((w.alloc (.cells #[.int .i64 0] 35)).alloc (.cells #[.slice none 0 0,.slice none 0 0] 170)).alloc (.cells #[.slice (some ⟨b',o',none⟩) len c'] 22)=We
 have hBe:BX w We:=by rw[←hW];exact(qi.alloc (by simp) _).alloc (by simp;omega) _
 have hze:We.heap.size=w.heap.size+3:=by rw[←hW];simp
 have h4e:qd We w.heap.size 35 #[.int .i64 0]:=by rw[←hW];exact((qd.new _ _ _).alloc _).alloc _
 have hTe:qd We (w.heap.size+1) 170 #[.slice none 0 0,.slice none 0 0]:=by
  rw[←hW]
  have:=qd.new (w.alloc (.cells #[.int .i64 0] 35)) 170 #[.slice none 0 0,.slice none 0 0]
  rw[vZ] at this;exact this.alloc _
 have hle:We.cell? ⟨w.heap.size+1+1,0,none⟩=some (.slice (some ⟨b',o',none⟩) len c'):=by
  rw[←hW]
  have:=zr ((w.alloc (.cells #[.int .i64 0] 35)).alloc (.cells #[.slice none 0 0,.slice none 0 0] 170)) #[.slice (some ⟨b',o',none⟩) len c'] 22 (j:=0) rfl
  simp only[vZ] at this;exact this
 clear hW
 have hTk:Qe w.heap.size (w.heap.size+1) [] [] We:=⟨_,_,hTe,kO _ _ _ _,kO _ _ _ _⟩
 have hLe:qB w.heap.size We b' o' L:=qB.of (zu hBe) hL
 have hfree:Qw [w.heap.size+1] w.heap.size We:=⟨JH hTk,by omega,fun b hb ho=>by
  rcases ho with h1|⟨t',ht,o,a,n,c,hc,ha⟩
  ·have:b=w.heap.size+1:=by simpa using h1
   omega
  ·obtain rfl:t'=w.heap.size+1:=by simpa using ht
   unfold World.cell? at hc;rw[show We.heap[w.heap.size+1]?=_ from hTe] at hc
   have hj:(#[.slice none 0 0,.slice none 0 0]:Array Value)[o]?=some (.slice (some a) n c):=hc
   match o,hj with
   | 0,hj=>simp at hj
   | 1,hj=>simp at hj
   | o+2,hj=>simp at hj⟩
 refine Qh.block_panics (ch:=jQ n) (qcA (n:=4) (fv:=f74) func74 (gf:=167) (lb:=#[.pointer (some ⟨w.heap.size+1+1,0,none⟩)]) rfl (enters_of func167 (by kernel_rfl) rfl)
  (x0:=x0) (qfj 3 w.heap.size (w.heap.size+1+1) b' o' c' [w.heap.size+1] L E B0 x0 (jQ n) We hcalm hcut (by rw[←hlen.out];exact hle) hLe hl3 hfree) (kB _ _) (by simp;omega) (fun _=>rfl)
  (JI w) (QN w _ (by omega)) ⟨hTk,hBe,h4e,by omega⟩
  (fun x a' W=>∃Bt,w.heap.size+3<=Bt/\qd W Bt 175 #[.string x.name,.int .i64 x.wd,.int .i64 x.at_,x.sv,.int .i64 x.deep,.int .i64 x.root,.int .i64 x.aAt,.int .i64 x.aW,x.av]/\a'=Jr w b' o' c' len x Bt)
  (fun _ a'=>fun _ A B row hs hg hr=>by
    obtain⟨Bt,g1,g2,g3⟩:=hs
    exact⟨Bt,g1,ja (β:=Unit) Bt _ (fun _=>_) () A B row g2 hg (fun r e=>(hr r e).2),g3⟩)
  (qlb w) ?assign ?body ?last ?done)
 case assign=>
  rintro l pre x W K hi hok hK
  obtain⟨⟨va,sn,sc,hsv⟩,aa,an,ac,hav⟩:(∃a n c,x.sv = .slice a n c)/\∃a n c,x.av = .slice a n c:=by
   rcases hok with hok|⟨_,rfl⟩
   ·exact(hfine pre x hok).vals
   ·exact hvals0
  have hz:=hi.2.2.2
  clear hok hvals0 hbad
  obtain⟨xn,xw,xa,xs,xd,xr,xaa,xaw,xav⟩:=x
  dsimp only at hsv hav
  subst hsv hav
  unfold qA.val
  dsimp only
  clear hfine
  gi_wp2
  refine hK _ _ ((KeepsOthers.alloc _ _).from _) (qR.of_below ((kB _ W).alloc (vL _) _)) ((QN w (w.heap.size+3) (by omega)).alloc _ hi) ⟨W.heap.size,by omega,qd.new W _ _,rfl⟩
 case body=>
  rintro l pre x a' W ⟨hTw,hB,h4,hz⟩ ⟨Bt,hBt,hbt,rfl⟩ hok
  have fine:=hfine pre x hok
  obtain⟨al,hal1,hal2,hal3⟩:=fine.ahead
  have C:=qir w.heap.size (w.heap.size+1) (pre.map (·.name)) (pre.map qA.place) x.name x.wd x.at_ x.deep x.root x.aAt x.aW x.sv x.av al W (hE.below hB) fine.name fine.word fine.fresh (by simp) (by simpa using fine.few) hTw (by omega) fine.deep hal1 (hal2.below hB) fine.a0 fine.a1 fine.b0 fine.b1 fine.w0 fine.w1 fine.c1 fine.fits hal3
  have C':=C.mono (R':=fun e W'=>e = .returned (.tuple #[])/\qct We.heap.size [w.heap.size+1] (JI w) (pre++[x]) W .normal { tmps:=#[],defers:=[] } W') (fun e W' ⟨he,hA⟩=>⟨he,hA.2.2.1.from _,hA.2.1,by
   have h1:=hA.1
   refine⟨?_,hB.trans hA.2.2.2,hA.2.1.cells (JH hTw) h4 (qbN hTw h4 (by omega) (by decide) (by decide)),vR hz hA.2.2.2.size⟩
   rw[kM,kM];exact h1⟩)
  clear C hal2 hal3 hfine hTw h4 hB hbad hvals0
  obtain⟨xn,xw,xa,xs,xd,xr,xaa,xaw,xav⟩:=x
  dsimp only at hbt C'
  have c0:=hbt.cell (j:=0) (v:=.string xn) rfl
  have c1:=hbt.cell (j:=1) (v:=.int .i64 xw) rfl
  have c2:=hbt.cell (j:=2) (v:=.int .i64 xa) rfl
  have c3:=hbt.cell (j:=3) (v:=xs) rfl
  have c4:=hbt.cell (j:=4) (v:=.int .i64 xd) rfl
  have c5:=hbt.cell (j:=5) (v:=.int .i64 xr) rfl
  have c6:=hbt.cell (j:=6) (v:=.int .i64 xaa) rfl
  have c7:=hbt.cell (j:=7) (v:=.int .i64 xaw) rfl
  have c8:=hbt.cell (j:=8) (v:=xav) rfl
  clear fine hbt
  unfold Jr
  dsimp only
  gi_wp2_with (refine⟨trivial,?_⟩;gi_at_call 129;refine(CallsIn.inRound l (callsIn_wide.2 C')).mono ?_;clear C';rintro e W1 ⟨rfl,hA⟩)
  exact hA
 case last=>
  rintro l a' W ⟨hTw,hB,h4,hz⟩ ⟨Bt,hBt,hbt,rfl⟩
  have C:=hbad W hB hTw
  have C':=C.mono (R':=fun e W'=>e = .panicked (jQ n)/\KeepsFrom We.heap.size W W'/\qlb w W') (fun e W' ⟨he,hb⟩=>⟨he,(jG hb).from _,hB.trans (hb.mono hB.size),h4.below hb h4.lt,vR hz hb.size⟩)
  clear C hfine hTw h4 hB hbad
  obtain⟨⟨va,sn,sc,hsv⟩,aa,an,ac,hav⟩:=hvals0
  obtain⟨xn,xw,xa,xs,xd,xr,xaa,xaw,xav⟩:=x0
  dsimp only at hbt C' hsv hav
  subst hsv hav
  unfold qA.val at C'
  dsimp only at C'
  have c0:=hbt.cell (j:=0) (v:=.string xn) rfl
  have c1:=hbt.cell (j:=1) (v:=.int .i64 xw) rfl
  have c2:=hbt.cell (j:=2) (v:=.int .i64 xa) rfl
  have c3:=hbt.cell (j:=3) (v:=.slice va sn sc) rfl
  have c4:=hbt.cell (j:=4) (v:=.int .i64 xd) rfl
  have c5:=hbt.cell (j:=5) (v:=.int .i64 xr) rfl
  have c6:=hbt.cell (j:=6) (v:=.int .i64 xaa) rfl
  have c7:=hbt.cell (j:=7) (v:=.int .i64 xaw) rfl
  have c8:=hbt.cell (j:=8) (v:=.slice aa an ac) rfl
  clear hbt
  unfold Jr
  dsimp only
  gi_wp2_with (refine⟨trivial,?_⟩;gi_at_call 129;refine(CallsIn.inRound l (callsIn_wide.2 C')).mono ?_;clear C';rintro e W1 ⟨rfl,hA⟩)
  rw[←hze];exact hA.1
 case done=>
  rintro D W hD ⟨hB,h4,hz⟩ hK
  refine⟨rfl,?_⟩
  have hDV:=qD hK
  have h4U:qd (W.putObj D (.deferred none)) w.heap.size 35 #[.int .i64 0]:=(kP (by omega)).trans h4
  have hBU:=hB.trans (belowK_b (w:=w) (vL _) W D _ (.deferred none) (by omega) hK rfl rfl)
  show LeavesInM _ _ _ _ _ _ _ _ _
  refine⟨by simp,.inl ⟨_,_,rfl,run_takeDeferred hK,?_⟩⟩
  generalize W.putObj D (.deferred none)=U at h4U hBU ⊢
  refine⟨by simp,.inr ⟨fun _=>by omega,.func 126,#[.pointer (some ⟨w.heap.size,0,none⟩)],126,#[.pointer (some ⟨w.heap.size,0,none⟩)],rfl,?_,fun _ _=>trivial,?_⟩⟩
  ·simp[invoke,go_sem]
  refine(qhd _ n ⟨w.heap.size,0,none⟩ (.int .i64 0) U (hA.below hBU) (h4U.cell rfl) (h4U.frozen 0)).mono ?_
  rintro e u' w'' ⟨rfl,hu,w1,hb1,rfl⟩
  have h4F:((w1.setCell ⟨w.heap.size,0,none⟩ (.int .i64 n))).cell? ⟨w.heap.size,0,none⟩=some (.int .i64 n):=((h4U.below hb1 h4U.lt).set (j:=0) (.int .i64 n)).cell rfl
  have hP:Qy w n (.returned (.tuple #[.slice none 0 0,.slice none 0 0,.int .i64 n])) (w1.setCell ⟨w.heap.size,0,none⟩ (.int .i64 n)):=
   ⟨rfl,(hBU.trans (hb1.mono hBU.size)).setCell (p:=⟨w.heap.size,0,none⟩) (vL _) _⟩
  have hH:=vH hP
  clear hP h4U
  simp[LeavesInM,LeavesIn,hu,results,results74,go_sem,h4F]
  exact hH.out
end
end Go.Proofs.YtomlgdnafeeeiaaGreatDoor
