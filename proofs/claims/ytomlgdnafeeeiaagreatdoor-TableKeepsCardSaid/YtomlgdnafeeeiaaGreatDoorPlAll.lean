
import Derived.Test.YtomlgdnafeeeiaaGreatDoorPanHI
import Derived.Test.YtomlgdnafeeeiaaGreatDoorPanJ
set_option maxHeartbeats 2000000
set_option maxRecDepth 100000
/-
 geom's Places of any registers within registers.
-/
namespace Go.Proofs.YtomlgdnafeeeiaaGreatDoor
open Proofs.Tryz
section
open Go.RowKit
def qj(s:ByteArray):Bool:=(decide (0<s.size/\s.size<=20)&&xe (s.data.toList.headD 0).toNat&&s.data.toList.all fun c=>qU c.toNat)&&words.all fun x=>!(s.toList==x)
theorem Qt{s:ByteArray}(h:qj s=true):xo s/\js s:=by
 unfold qj at h
 simp only[Bool.and_eq_true] at h
 exact⟨qgT h.1.1.1 h.1.1.2 h.1.2,qeY h.2⟩
def zG(deep root aAt aW:Int)(sv:Value)(i:Nat)(ahead:List zt):qg->List (qA×List zt)
 | .nil=>[]
 | .cons nm wd at_ v subs rest=>(⟨nm,wd,at_,v,deep,root,aAt,aW,QF sv i⟩,ahead)::(zG (deep+1) root (aAt+at_) wd v 0 [] subs++zG deep root aAt aW sv (i+1) (ahead++[⟨nm,wd,at_,v⟩]) rest)
def qH(i:Nat):qg->List (qA×List zt)
 | .nil=>[]
 | .cons nm wd at_ sv subs rest=>((⟨nm,wd,at_,sv,1,i,0,wd,.slice none 0 0⟩,[])::zG (1+1) i (0+at_) wd sv 0 [] subs)++qH (i+1) rest
theorem ZD:∀ (L:qg) (deep root aAt aW:Int) (sv:Value) (i:Nat) (ahead:List zt),(zG deep root aAt aW sv i ahead L).map Prod.fst=qV deep root aAt aW sv i L
 | .nil,_,_,_,_,_,_,_=>rfl
 |.cons nm wd at_ v subs rest,deep,root,aAt,aW,sv,i,ahead=>by
  simp only[zG,qV,List.map_cons,kM,ZD subs,ZD rest]
theorem zz:∀ (L:qg) (i:Nat),(qH i L).map Prod.fst=qo i L
 | .nil,_=>rfl
 |.cons nm wd at_ v subs rest,i=>by
  simp only[qH,qo,List.map_cons,kM,ZD subs,zz rest]
def zK(nm:ByteArray->Bool)(names:List ByteArray)(p:qA×List zt):Int:=
 if 6<p.1.deep then 4
 else if names.length=200 then 2
 else if nm p.1.name=false∨(names.any fun x=>eqB x p.1.name)=true then 5
 else if ¬ (1<=p.1.wd/\p.1.wd<=64/\0<=p.1.at_/\p.1.at_<=p.1.aW-p.1.wd) then 6
 else if(p.2.any fun r=>jN (p.1.aAt+r.at_) r.wd (p.1.aAt+p.1.at_) p.1.wd)=true then 7
 else 0
structure yD(p:qA×List zt):Prop where
 deep:p.1.deep<=6
 w1:1<=p.1.wd
 w2:p.1.wd<=64
 a1:0<=p.1.at_
 a2:p.1.at_<=64
structure Ctx(w:World)(p:qA×List zt):Prop where
 d1:1<=p.1.deep
 d2:p.1.deep<=7
 a1:0<=p.1.aAt
 a2:p.1.aAt<=64*(p.1.deep-1)
 w1:p.1.aW<=64∨p.1.aW=p.1.wd
 w2:1<=p.1.aW∨p.1.aW=p.1.wd
 vals:(∃a n c,p.1.sv = .slice a n c)/\∃a n c,p.1.av = .slice a n c
 ahead:jD w p.1.av p.2
 small:∀r,r∈p.2->r.small
theorem yD.of{w:World}{nm:ByteArray->Bool}{names:List ByteArray}{p:qA×List zt}(hc:Ctx w p)(h:zK nm names p=0):yD p:=by
 unfold zK at h
 by_cases h1:6<p.1.deep
 ·rw[if_pos h1] at h;cases h
 rw[if_neg h1] at h
 by_cases h2:names.length=200
 ·rw[if_pos h2] at h;cases h
 rw[if_neg h2] at h
 by_cases h3:nm p.1.name=false∨(names.any fun x=>eqB x p.1.name)=true
 ·rw[if_pos h3] at h;cases h
 rw[if_neg h3] at h
 by_cases h4:¬ (1<=p.1.wd/\p.1.wd<=64/\0<=p.1.at_/\p.1.at_<=p.1.aW-p.1.wd)
 ·rw[if_pos h4] at h;cases h
 have h5:=Classical.not_not.1 h4
 have h6:=hc.w1
 exact⟨by omega,h5.1,h5.2.1,h5.2.2.1,by omega⟩
theorem qfr{n₀:Nat}{w:World} : ∀ (L:qg) (b o:Nat) (deep root aAt aW:Int) (sv:Value) (i:Nat) (ahead:List zt),qB n₀ w b o L ->
 2<=deep->deep<=7->0<=aAt->aAt<=64*(deep-1)->1<=aW->aW<=64->(∀r,r∈ahead->r.small) ->
 (∀j,j<=L.length->jD w (QF sv (i+j)) (ahead++(QG L).take j)) ->
 ∀pre p post,zG deep root aAt aW sv i ahead L=pre++p::post->(∀q,q∈pre->yD q)->Ctx w p
 | .nil,_,_,_,_,_,_,_,_,_,_,_,_,_,_,_,_,_,_,pre,p,post,h,_=>by simp[zG] at h
 |.cons nm wd at_ v subs rest,b,o,deep,root,aAt,aW,sv,i,ahead,⟨_,_,hrest,hs⟩,hd1,hd2,ha1,ha2,hw1,hw2,hsm,hah,pre,p,post,h,hg=>by
  have hs':qM n₀ w v subs:=hs
  have h0:=hah 0 (vO _)
  simp only[Nat.add_zero,List.take_zero,List.append_nil] at h0
  simp only[zG] at h
  cases pre with
  |nil=>
   rw[List.nil_append] at h
   obtain⟨rfl,_⟩:=List.cons.inj h
   exact⟨by dsimp only;omega,hd2,ha1,ha2,.inl hw2,.inl hw1,⟨yG hs',qeZ h0⟩,h0,hsm⟩
  |cons q pre'=>
   rw[List.cons_append] at h
   obtain⟨rfl,h'⟩:=List.cons.inj h
   have hq:=hg _ (List.mem_cons_self)
   have hg':∀q,q∈pre'->yD q:=fun q hq=>hg q (List.mem_cons_of_mem _ hq)
   obtain⟨q1,q2,q3,q4,q5⟩:=hq
   dsimp only at q1 q2 q3 q4 q5
   rcases Zu h' with⟨A3,hA,hY⟩|⟨B3,hX⟩
   ·refine qfr rest b (o+4) deep root aAt aW sv (i+1) (ahead++[⟨nm,wd,at_,v⟩]) hrest hd1 hd2 ha1 ha2 hw1 hw2 (fun r hr=>?_) (fun j hj=>?_) A3 p post hY (fun q hq=>hg' q (by rw[hA];exact List.mem_append_right _ hq))
    ·rcases vC.1 hr with hr|hr
     ·exact hsm r hr
     ·obtain rfl:r=⟨nm,wd,at_,v⟩:=by simpa using hr
      exact⟨q4,by dsimp only;omega,q2,by dsimp only;omega⟩
    ·have:=hah (j+1) (by simp only[qg.length];omega)
     rw[show i+(j+1)=i+1+j by omega] at this
     simpa[QG] using this
   ·rcases hs with⟨_,rfl⟩|⟨b',o',c',_,_,_,hh⟩
    ·simp[zG] at hX
    ·exact qfr subs b' o' (deep+1) root (aAt+at_) wd v 0 [] hh (by omega) (by omega) (by omega) (by omega) q2 q3 (fun r hr=>by cases hr) (fun j hj=>by
      rw[Nat.zero_add,List.nil_append];exact qdv hs' j hj) pre' p B3 hX hg'
theorem QP{n₀:Nat}{w:World} : ∀ (L:qg) (b o i:Nat),qB n₀ w b o L->∀pre p post,qH i L=pre++p::post->(∀q,q∈pre->yD q)->Ctx w p
 | .nil,_,_,_,_,pre,p,post,h,_=>by simp[qH] at h
 |.cons nm wd at_ v subs rest,b,o,i,⟨_,_,hrest,hs⟩,pre,p,post,h,hg=>by
  have hs':qM n₀ w v subs:=hs
  simp only[qH] at h
  rcases Zu h with⟨A3,hA,hY⟩|⟨B3,hX⟩
  ·exact QP rest b (o+4) (i+1) hrest A3 p post hY (fun q hq=>hg q (by rw[hA];exact List.mem_append_right _ hq))
  ·cases pre with
   |nil=>
    rw[List.nil_append] at hX
    obtain⟨rfl,_⟩:=List.cons.inj hX
    exact⟨by dsimp only;decide,by dsimp only;decide,by dsimp only;decide,by dsimp only;decide,.inr rfl,.inr rfl,⟨yG hs',⟨_,_,_,rfl⟩⟩,.inl ⟨⟨_,rfl⟩,rfl⟩,fun r hr=>by cases hr⟩
   |cons q pre'=>
    rw[List.cons_append] at hX
    obtain⟨rfl,hX'⟩:=List.cons.inj hX
    obtain⟨q1,q2,q3,q4,q5⟩:=hg _ (List.mem_cons_self)
    dsimp only at q1 q2 q3 q4 q5
    rcases hs with⟨_,rfl⟩|⟨b',o',c',_,_,_,hh⟩
    ·simp[zG] at hX
    ·exact qfr subs b' o' (1+1) i (0+at_) wd v 0 [] hh (by decide) (by decide) (by omega) (by omega) q2 q3 (fun r hr=>by cases hr) (fun j hj=>by
      rw[Nat.zero_add,List.nil_append];exact qdv hs' j hj) pre' p B3 hX' (fun q hq=>hg q (List.mem_cons_of_mem _ hq))
def qw(nm:ByteArray->Bool)(names:List ByteArray):List (qA×List zt)->Int
 | []=>0
 | p::r=>if zK nm names p=0 then qw nm (names++[p.1.name]) r else zK nm names p
theorem Qb(nm:ByteArray->Bool):∀ (l:List (qA×List zt)) (names:List ByteArray),
 (qw nm names l=0/\∀pre p post,l=pre++p::post->zK nm (names++pre.map fun q=>q.1.name) p=0) ∨
 ∃pre p post,l=pre++p::post/\(∀pre1 q post1,pre=pre1++q::post1->zK nm (names++pre1.map fun q=>q.1.name) q=0)/\zK nm (names++pre.map fun q=>q.1.name) p≠0/\qw nm names l=zK nm (names++pre.map fun q=>q.1.name) p
 | [],_=>.inl ⟨rfl,fun pre p post h=>by simp at h⟩
 |p::r,names=>by
  by_cases h0:zK nm names p=0
  ·have e:qw nm names (p::r)=qw nm (names++[p.1.name]) r:=by
    show(if zK nm names p=0 then _ else _)=_
    rw[if_pos h0]
   rcases Qb nm r (names++[p.1.name]) with⟨h1,h2⟩|⟨pre,q,post,h1,h2,h3,h4⟩
   ·refine .inl ⟨by rw[e,h1],fun pre q post h=>?_⟩
    cases pre with
    |nil=>
     obtain⟨rfl,_⟩:=List.cons.inj h
     simpa using h0
    |cons x pre'=>
     rw[List.cons_append] at h
     obtain⟨rfl,h'⟩:=List.cons.inj h
     have:=h2 pre' q post h'
     simpa using this
   ·refine .inr ⟨p::pre,q,post,by rw[h1];rfl,fun pre1 q1 post1 h=>?_,by simpa using h3,by rw[e,h4];simp⟩
    cases pre1 with
    |nil=>
     obtain⟨rfl,_⟩:=List.cons.inj h
     simpa using h0
    |cons x pre'=>
     rw[List.cons_append] at h
     obtain⟨rfl,h'⟩:=List.cons.inj h
     have:=h2 pre' q1 post1 h'
     simpa using this
  ·refine .inr ⟨[],p,r,rfl,fun pre1 q post1 h=>by simp at h,by simpa using h0,?_⟩
   show(if zK nm names p=0 then _ else _)=_
   rw[if_neg h0];simp
end
section
open Go.RowKit
theorem xm{P:Program}{md:Region.Mode}{ops:Array Oper}{Q:Exit->Act->World->Prop}(i:Nat)(d:Option Tmp)(v:Value){oi:Oper}{fuel:Nat}{zl:Array Bool}{a:Act}{w:World}(hi:ops[i]?=some oi)(hd:oi.dst=d)
 (hs:Region.noSelect ops=true) (hf:Region.free md ops zl i=true) (hr:(Region.ready md ops zl).contains i=true)
 (hQ:∀c a w,Q (.panic c) (a.put d v) w->Q (.panic c) a w) (hy:Yields P ops oi v a)
 (h:wpAny P md ops Q fuel (zl.setIfInBounds i true) (a.put d v) w):wpAny P md ops Q (fuel+1) zl a w:=by
 subst hd;exact wpAny_take hi hs hf hr hQ hy h
def qaA(md:Region.Mode)(ops:Array Oper):List (Nat×Option Tmp)->Array Bool->Act->Bool
 | [],_,_=>true
 |i::is,zl,a=>match ops[i.1]? with
  | some oi=>decide (oi.dst=i.2)&&Region.free md ops zl i.1&&(Region.ready md ops zl).contains i.1 && !Region.wanted oi (yielded ops a.tmps)&&qaA md ops is (zl.setIfInBounds i.1 true) (a.put i.2 undef)
  | none=>false
def qiH:List (Nat×Option Tmp)->Array Bool->Array Bool
 | [],l=>l
 | i::is,l=>qiH is (l.setIfInBounds i.1 true)
def Xo:List (Nat×Option Tmp)->Act->Act
 | [],a=>a
 | i::is,a=>Xo is (a.put i.2 undef)
theorem QR{P:Program}{md:Region.Mode}{ops:Array Oper}{Q:Exit->Act->World->Prop}(fuel:Nat)(hs:Region.noSelect ops=true)(hQ:∀d c a w,Q (.panic c) (a.put d undef) w->Q (.panic c) a w){w:World} : ∀ (is:List (Nat×Option Tmp)) {zl:Array Bool} {a:Act},
 qaA md ops is zl a=true->wpAny P md ops Q fuel (qiH is zl) (Xo is a) w->wpAny P md ops Q (fuel+is.length) zl a w
 | [],_,_,_,h=>h
 |i::is,zl,a,hk,h=>by
  unfold qaA at hk
  cases hi:ops[i.1]? with
  | none=>rw[hi] at hk;cases hk
  |some oi=>
   rw[hi] at hk
   simp only[Bool.and_eq_true,Bool.not_eq_true',decide_eq_true_eq] at hk
   have hd:=hk.1.1.1.1
   refine wpAny_take hi hs hk.1.1.1.2 hk.1.1.2 (hQ _) (Or.inr ⟨hk.1.2,rfl⟩) ?_
   rw[hd]
   exact QR fuel hs hQ is hk.2 h
theorem qcK{P:Program}{md:Region.Mode}{ops:Array Oper}{Q:Exit->Act->World->Prop}{S:World->Prop}(i:Nat)(d:Option Tmp)(v:Value){oi:Oper}{fuel:Nat}{zl:Array Bool}{a:Act}{w:World}(hi:ops[i]?=some oi)(hd:oi.dst=d)
 (hs:Region.noSelect ops=true) (hf:Region.free md ops zl i=true) (hr:(Region.ready md ops zl).contains i=true)
 (hQ:∀c a w,Q (.panic c) (a.put d v) w->Q (.panic c) a w) (hy:YieldsIf P ops S oi v a) (hS:S w)
 (h:wpAnyH P md ops Q S fuel (zl.setIfInBounds i true) (a.put d v) w):wpAnyH P md ops Q S (fuel+1) zl a w:=by
 subst hd;exact wpAnyH_take hi hs hf hr hQ hy hS h
theorem tk{P:Program}{md:Region.Mode}{ops:Array Oper}{Q:Exit->Act->World->Prop}{S:World->Prop}(i:Nat)(d:Option Tmp)(v:Value){oi:Oper}{fuel:Nat}{zl:Array Bool}{a:Act}{w:World}(hi:ops[i]?=some oi)(hS:S w)
 (h:wpAnyH P md ops Q S fuel (zl.setIfInBounds i true) (a.put d v) w) (hy:∀w,S w->(execOp a.eval oi).run P w = .ok (.value v) w:=by intro _ _;go_simp)
 (hd:oi.dst=d:=by kernel_rfl) (hs:Region.noSelect ops=true:=by kernel_rfl) (hf:Region.free md ops zl i=true:=by kernel_rfl) (hr:(Region.ready md ops zl).contains i=true:=by kernel_rfl)
 (hQ:∀c a w,Q (.panic c) (a.put d v) w->Q (.panic c) a w:=by exact fun _ _ _ h=>h) (hw:Region.wanted oi (yielded ops a.tmps)=true:=by kernel_rfl):wpAnyH P md ops Q S (fuel+1) zl a w:=
 qcK i d v hi hd hs hf hr hQ (Or.inl ⟨hw,hy⟩) hS h
theorem jw{P:Program}{md:Region.Mode}{ops:Array Oper}{Q:Exit->Act->World->Prop}{S:World->Prop}(fuel:Nat)(hs:Region.noSelect ops=true)(hQ:∀d c a w,Q (.panic c) (a.put d undef) w->Q (.panic c) a w){w:World}(hS:S w):∀ (is:List (Nat×Option Tmp)) {zl:Array Bool} {a:Act},
 qaA md ops is zl a=true->wpAnyH P md ops Q S fuel (qiH is zl) (Xo is a) w->wpAnyH P md ops Q S (fuel+is.length) zl a w
 | [],_,_,_,h=>h
 |i::is,zl,a,hk,h=>by
  unfold qaA at hk
  cases hi:ops[i.1]? with
  | none=>rw[hi] at hk;cases hk
  |some oi=>
   rw[hi] at hk
   simp only[Bool.and_eq_true,Bool.not_eq_true',decide_eq_true_eq] at hk
   have hd:=hk.1.1.1.1
   refine wpAnyH_take hi hs hk.1.1.1.2 hk.1.1.2 (hQ _) (Or.inr ⟨hk.1.2,rfl⟩) hS ?_
   rw[hd]
   exact jw fuel hs hQ hS is hk.2 h
theorem qiI(T:Nat)(nm:ByteArray)(wd at_ deep root aAt aW:Int)(sv av:Value)(w:World)(hd:6<deep) :
 Calls prog 129 #[.pointer (some ⟨T,0,none⟩),.agg #[.string nm,.int .i64 wd,.int .i64 at_,sv,.int .i64 deep,.int .i64 root,.int .i64 aAt,.int .i64 aW,av]] w fun e w'=>
  e = .panicked (jQ 4)/\BX w w':=by
 go_enter func129,ntmps129
 go_wp2_with fail
 exact⟨rfl,rfl,qi⟩
theorem qfs(base T:Nat)(ns:List ByteArray)(ps:List (Int×Int×Int))(nm:ByteArray)(wd at_ deep root aAt aW:Int)(sv av:Value)(w:World)(hk:ns.length<200)(hT:Qe base T ns ps w)(hd:deep<=6)
 (K:∀W,BX w W->Calls prog 169 #[.string nm] W fun e w'=>e = .returned (.bool false)/\BX W w') :
 Calls prog 129 #[.pointer (some ⟨T,0,none⟩),.agg #[.string nm,.int .i64 wd,.int .i64 at_,sv,.int .i64 deep,.int .i64 root,.int .i64 aAt,.int .i64 aW,av]] w fun e w'=>
  e = .panicked (jQ 5)/\BX w w':=by
 obtain⟨nV,pV,hTc,hn,hp⟩:=hT
 obtain⟨k,hkn⟩:∃k,ns.length=k:=⟨_,rfl⟩
 rw[hkn] at hn hk
 have hkn:=vH hkn
 obtain⟨na,ncap,rfl⟩:=qx hn
 obtain⟨w0,hw0⟩:∃w0,w0=w.alloc (.cells #[.string nm,.int .i64 wd,.int .i64 at_,sv,.int .i64 deep,.int .i64 root,.int .i64 aAt,.int .i64 aW,av] 175):=⟨_,rfl⟩
 have hb0:BX w w0:=by rw[hw0];exact qi
 have hs0:qd w0 w.heap.size 175 #[.string nm,.int .i64 wd,.int .i64 at_,sv,.int .i64 deep,.int .i64 root,.int .i64 aAt,.int .i64 aW,av]:=by rw[hw0];exact qd.new _ _ _
 have hTc0:=hTc.below hb0 hTc.lt
 have hk2:(((k:Nat):Int)==200)=false:=by simp;omega
 have hd':¬ 6<deep:=by omega
 have C1:∀W,BX w0 W->Calls prog 169 #[.string nm] W fun e w'=>e = .returned (.bool false)/\BX W w':=fun W hb=>K W (hb0.trans (hb.mono hb0.size))
 have r0:=hs0.cell (j:=0) (v:=.string nm) rfl
 have r4:=hs0.cell (j:=4) (v:=.int .i64 deep) rfl
 have r9:=hTc0.cell (j:=0) (v:=.slice na k ncap) rfl
 rw[hw0] at r0 r4 r9
 clear K hn hp
 go_enter func129,ntmps129
 go_wp2_with fail
 rw[←hw0] at r0 r4 r9 ⊢
 clear hw0
 refine wp_region_any (by kernel_rfl) ?_
 change wpAny _ _ _ _ _ _ _ (World.drew _)
 refine xm 0 (some 18) (.pointer (some ⟨w.heap.size,0,none⟩)) rfl (by kernel_rfl) (by kernel_rfl) (by kernel_rfl) (by kernel_rfl) (fun _ _ _ h=>h) (Or.inl ⟨by kernel_rfl,fun w=>by go_simp⟩) ?_
 refine xm 1 (some 19) (.pointer (some ⟨w.heap.size,0,none⟩)) rfl (by kernel_rfl) (by kernel_rfl) (by kernel_rfl) (by kernel_rfl) (fun _ _ _ h=>h) (Or.inl ⟨by kernel_rfl,fun w=>by go_simp⟩) ?_
 refine wpAny_ready (rs:=[2]) (by kernel_rfl) (by simp) (AllReady.cons rfl (fun K hK=>?_) AllReady.nil)
 go_simp
 refine hK _ _ ?_
 clear hK K
 refine wpAny_ready (rs:=[3]) (by kernel_rfl) (by simp) (AllReady.cons rfl (fun K hK=>?_) AllReady.nil)
 go_simp
 go_at_call 169
 refine(C1 _ ((kB _ _).drew)).mono ?_
 clear C1
 rintro e W1 ⟨rfl,hb⟩
 try go_simp
 refine hK _ _ ?_
 clear hK K
 refine xm 4 (some 22) (.bool true) rfl (by kernel_rfl) (by kernel_rfl) (by kernel_rfl) (by kernel_rfl) (fun _ _ _ h=>h) (Or.inl ⟨by kernel_rfl,fun w=>by go_simp⟩) ?_
 refine xm 5 (some 23) (.bool true) rfl (by kernel_rfl) (by kernel_rfl) (by kernel_rfl) (by kernel_rfl) (fun _ _ _ h=>h) (Or.inl ⟨by kernel_rfl,fun w=>by go_simp⟩) ?_
 refine QR 2 (by kernel_rfl) (fun d _ _ _ h=>by cases d <;> exact h) [(6,some 24),(7,some 25),(8,some 26),(9,some 27),(10,some 28),(11,some 29),(12,some 30),(13,some 31)] (by kernel_rfl) ?_
 refine xm 14 (some 32) (.bool true) rfl (by kernel_rfl) (by kernel_rfl) (by kernel_rfl) (by kernel_rfl) (fun _ _ _ h=>h) (Or.inl ⟨by kernel_rfl,fun w=>by kernel_rfl⟩) ?_
 refine xm 15 (some 17) (.bool true) rfl (by kernel_rfl) (by kernel_rfl) (by kernel_rfl) (by kernel_rfl) (fun _ _ _ h=>h) (Or.inl ⟨by kernel_rfl,fun w=>by kernel_rfl⟩) ?_
 refine wpAny_done (by kernel_rfl) ?_ _
 simp only[Xo,Act.put,vK,kS,kZ]
 go_wp2_with fail
 exact⟨rfl,rfl,hb0.trans ((((kB _ _).drew).trans hb).mono hb0.size)⟩
end
section
open Go.RowKit Go.Shelf
theorem Yu{nm:ByteArray->Bool}{names:List ByteArray}{p:qA×List zt}(h:names.length=200):zK nm names p≠0:=by
 unfold zK
 by_cases h1:6<p.1.deep
 ·rw[if_pos h1];decide
 ·rw[if_neg h1,if_pos h];decide
theorem Yv{nm:ByteArray->Bool}{l:List (qA×List zt)}(h:∀pre q post,l=pre++q::post->zK nm (pre.map fun q=>q.1.name) q=0):l.length<=200:=by
 rcases Nat.lt_or_ge 200 l.length with h1|h1
 ·have hs:l=l.take 200++l[200]::l.drop 201:=by rw[←List.drop_eq_getElem_cons h1,List.take_append_drop]
  exact absurd (h _ _ _ hs) (Yu (by simp;omega))
 ·exact h1
theorem qaB{w:World}{names:List ByteArray}{pre:List (qA×List zt)}{p:qA×List zt}(hn:names=pre.map fun q=>q.1.name)(hc:Ctx w p)(h0:zK qj names p=0)(hfew:pre.length<=200)(hal:p.2.length<=200):qkd w (pre.map Prod.fst) p.1:=by
 have hR:=yD.of hc h0
 unfold zK at h0
 rw[if_neg (by have:=hR.deep;omega)] at h0
 have h2:¬ names.length=200:=fun h=>by rw[if_pos h] at h0;cases h0
 rw[if_neg h2] at h0
 by_cases h3:qj p.1.name=false∨(names.any fun x=>eqB x p.1.name)=true
 ·rw[if_pos h3] at h0;cases h0
 rw[if_neg h3] at h0
 by_cases h4:¬ (1<=p.1.wd/\p.1.wd<=64/\0<=p.1.at_/\p.1.at_<=p.1.aW-p.1.wd)
 ·rw[if_pos h4] at h0;cases h0
 rw[if_neg h4] at h0
 by_cases h5:(p.2.any fun r=>jN (p.1.aAt+r.at_) r.wd (p.1.aAt+p.1.at_) p.1.wd)=true
 ·rw[if_pos h5] at h0;cases h0
 have h3a:qj p.1.name=true:=by
  cases h:qj p.1.name
  ·exact absurd (.inl h) h3
  ·rfl
 have h3b:(names.any fun x=>eqB x p.1.name)=false:=by
  cases h:names.any fun x=>eqB x p.1.name
  ·rfl
  ·exact absurd (.inr h) h3
 have h4':=Classical.not_not.1 h4
 have hN:=Qt h3a
 have:=hc.d2;have:=hc.a2;have:=hc.w1
 refine⟨hN.1,hN.2,?_,?_,hR.deep,hc.a1,by have:=hR.deep;omega,h4'.2.2.1,by have:=hR.a2;omega,h4'.1,h4'.2.1,by have:=h4'.2.1;omega,by omega,hc.vals,p.2,hal,hc.ahead,fun r hr=>⟨hc.small r hr,?_⟩⟩
 ·intro hm
  obtain⟨q,hq,he⟩:=List.mem_map.1 hm
  obtain⟨q',hq',rfl⟩:=List.mem_map.1 hq
  have:=List.any_eq_false.1 h3b q'.1.name (by rw[hn];exact List.mem_map.2 ⟨q',hq',rfl⟩)
  exact this (by simpa[eqB] using he)
 ·rw[hn] at h2
  simp at h2 ⊢;omega
 ·have:=List.any_eq_false.1 (by simpa using h5:(p.2.any fun r=>jN (p.1.aAt+r.at_) r.wd (p.1.aAt+p.1.at_) p.1.wd)=false) r hr
  simpa using this
theorem ZE:∀ (L:qg) (deep root aAt aW:Int) (sv:Value) (i:Nat) (ahead:List zt) (n0:Nat),ahead.length<=n0->∀pre p post,zG deep root aAt aW sv i ahead L=pre++p::post->p.2.length<=n0+pre.length
 | .nil,_,_,_,_,_,_,_,_,_,pre,p,post,h=>by simp[zG] at h
 |.cons nm wd at_ v subs rest,deep,root,aAt,aW,sv,i,ahead,n0,hn,pre,p,post,h=>by
  simp only[zG] at h
  cases pre with
  |nil=>
   rw[List.nil_append] at h
   obtain⟨rfl,_⟩:=List.cons.inj h
   simpa using hn
  |cons q pre'=>
   rw[List.cons_append] at h
   obtain⟨_,h'⟩:=List.cons.inj h
   rcases Zu h' with⟨A3,hA,hY⟩|⟨B3,hX⟩
   ·have:=ZE rest deep root aAt aW sv (i+1) (ahead++[⟨nm,wd,at_,v⟩]) (n0+1) (by simp;omega) A3 p post hY
    rw[hA];simp;omega
   ·have:=ZE subs (deep+1) root (aAt+at_) wd v 0 [] 0 (by simp) pre' p B3 hX
    simp;omega
theorem yM:∀ (L:qg) (i:Nat),∀pre p post,qH i L=pre++p::post->p.2.length<=pre.length
 | .nil,_,pre,p,post,h=>by simp[qH] at h
 |.cons nm wd at_ v subs rest,i,pre,p,post,h=>by
  simp only[qH] at h
  rcases Zu h with⟨A3,hA,hY⟩|⟨B3,hX⟩
  ·have:=yM rest (i+1) A3 p post hY
   rw[hA];simp;omega
  ·cases pre with
   |nil=>
    rw[List.nil_append] at hX
    obtain⟨rfl,_⟩:=List.cons.inj hX
    simp
   |cons q pre'=>
    rw[List.cons_append] at hX
    obtain⟨_,hX'⟩:=List.cons.inj hX
    have:=ZE subs (1+1) i (0+at_) wd v 0 [] 0 (by simp) pre' p B3 hX'
    simp;omega
theorem qaC:∀ (L:qg) (deep root aAt aW:Int) (sv:Value) (i:Nat) (ahead:List zt),1<=deep->deep<=7->(∀q,q∈zG deep root aAt aW sv i ahead L->yD q)->L.small/\deep+(L.height:Int)<=7
 | .nil,deep,_,_,_,_,_,_,_,h7,_=>⟨trivial,by simp only[qg.height];omega⟩
 |.cons nm wd at_ v subs rest,deep,root,aAt,aW,sv,i,ahead,h1,h7,h=>by
  simp only[zG] at h
  obtain⟨q1,q2,q3,q4,q5⟩:=h _ List.mem_cons_self
  dsimp only at q1 q2 q3 q4 q5
  obtain⟨s1,s2⟩:=qaC subs (deep+1) root (aAt+at_) wd v 0 [] (by omega) (by omega) (fun q hq=>h q (List.mem_cons_of_mem _ (List.mem_append_left _ hq)))
  obtain⟨r1,r2⟩:=qaC rest deep root aAt aW sv (i+1) (ahead++[⟨nm,wd,at_,v⟩]) h1 h7 (fun q hq=>h q (List.mem_cons_of_mem _ (List.mem_append_right _ hq)))
  exact⟨⟨⟨q4,q5,q2,q3⟩,s1,r1⟩,by simp only[qg.height];omega⟩
theorem qbR:∀ (L:qg) (i:Nat),(∀q,q∈qH i L->yD q)->L.small/\L.height<=6/\L.length<=(qH i L).length
 | .nil,_,_=>⟨trivial,vO _,vO _⟩
 |.cons nm wd at_ v subs rest,i,h=>by
  simp only[qH] at h
  obtain⟨q1,q2,q3,q4,q5⟩:=h _ (List.mem_append_left _ List.mem_cons_self)
  dsimp only at q1 q2 q3 q4 q5
  obtain⟨s1,s2⟩:=qaC subs (1+1) i (0+at_) wd v 0 [] (by omega) (by omega) (fun q hq=>h q (List.mem_append_left _ (List.mem_cons_of_mem _ hq)))
  obtain⟨r1,r2,r3⟩:=qbR rest (i+1) (fun q hq=>h q (List.mem_append_right _ hq))
  refine⟨⟨⟨q4,q5,q2,q3⟩,s1,r1⟩,by simp only[qg.height];omega,?_⟩
  simp only[qH,qg.length,kA,List.length_cons];omega
theorem qcL{α:Type}{pre l:List α}{x:α}(h:pre++[x] <+: l):∃post,l=pre++x::post:=by
 obtain⟨t,rfl⟩:=h
 exact⟨t,by simp⟩
theorem YO{l:List (qA×List zt)}{pre:List qA}{x:qA}(h:pre++[x] <+: l.map Prod.fst):∃pre' p post',l=pre'++p::post'/\pre'.map Prod.fst=pre/\p.1=x:=by
 obtain⟨post,h⟩:=qcL h
 obtain⟨A,B,hl,hA,hB⟩:=List.map_eq_append_iff.1 h
 obtain⟨p,B',rfl,hp,_⟩:=List.map_eq_cons_iff.1 hB
 exact⟨A,p,B',hl,hA,hp⟩
theorem qft{α:Type}{R:α->Prop}{S:List α}(hstep:∀pre p post,S=pre++p::post->(∀q,q∈pre->R q)->R p):∀p,p∈S->R p:=by
 have key:∀ (n:Nat) (pre post:List α),pre.length=n->S=pre++post->∀q,q∈pre->R q:=by
  intro n
  induction n with
  | zero=>intro pre post hl _ q hq;rw[vJ.1 hl] at hq;cases hq
  |succ n ih=>
   intro pre post hl hS q hq
   rcases List.eq_nil_or_concat pre with rfl|⟨pre',x,rfl⟩
   ·cases hq
   ·have hl':pre'.length=n:=by simpa using hl
    have hS':S=pre'++x::post:=by rw[hS];simp
    have i1:=ih pre' (x::post) hl' hS'
    rw[List.concat_eq_append] at hq
    rcases vC.1 hq with hq|hq
    ·exact i1 q hq
    ·obtain rfl:q=x:=by simpa using hq
     exact hstep pre' q post hS' i1
 intro p hp
 exact key S.length S [] rfl (by simp) p hp
theorem qfu(b' o' c':Nat)(L:qg)(w:World)(hE:Env w)(hA:Zi w)(hNo:∀s W,qj s=false->BX w W->Calls prog 169 #[.string s] W fun e w'=>e = .returned (.bool false)/\BX W w')
 (hL:qB w.heap.size w b' o' L) (hl3:L.length<=4611686018427387904) :
 Calls prog 74 #[.slice (some ⟨b',o',none⟩) L.length c'] w fun e w'=>(qw qj [] (qH 0 L)=0->jh w (qo 0 L) e w')/\(qw qj [] (qH 0 L)≠0->Qy w (qw qj [] (qH 0 L)) e w'):=by
 rcases Qb qj (qH 0 L) [] with⟨h0,hgood⟩|⟨pre,p,post,hcut,hgood,hbad,he⟩
 ·have hRall:∀q,q∈qH 0 L->yD q:=qft fun pre p post h hq=>yD.of (QP L b' o' 0 hL pre p post h hq) (hgood pre p post h)
  have hR:∀pre p post,qH 0 L=pre++p::post->(∀q,q∈pre->yD q)/\Ctx w p:=fun pre p post h=>by
   have hq:∀q,q∈pre->yD q:=fun q hq=>hRall q (by rw[h];exact List.mem_append_left _ hq)
   exact⟨hq,QP L b' o' 0 hL pre p post h hq⟩
  have hfew:=Yv (nm:=qj) (l:=qH 0 L) (fun pre q post h=>by simpa using hgood pre q post h)
  obtain⟨s1,s2,s3⟩:=qbR L 0 hRall
  refine(qgR b' o' c' L w hE hL s1 (by omega) (by omega) (fun pre x hp=>?_)).mono fun e w' h=>⟨fun _=>h,fun hne=>absurd h0 hne⟩
  rw[←zz] at hp
  obtain⟨pre',p,post',hl,rfl,rfl⟩:=YO hp
  have hlen:pre'.length<=200:=by rw[hl] at hfew;simp at hfew;omega
  exact qaB (by simp) (hR _ _ _ hl).2 (hgood _ _ _ hl) hlen (by have:=yM L 0 _ _ _ hl;omega)
 ·have hRall:∀q,q∈pre->yD q:=qft fun pre1 q post1 h hq=>yD.of (QP L b' o' 0 hL pre1 q (post1++p::post) (by rw[hcut,h];simp) hq) (hgood pre1 q post1 h)
  have hRp:∀pre1 q post1,pre=pre1++q::post1->(∀r,r∈pre1->yD r)/\Ctx w q:=fun pre1 q post1 h=>by
   have hq:∀r,r∈pre1->yD r:=fun r hr=>hRall r (by rw[h];exact List.mem_append_left _ hr)
   exact⟨hq,QP L b' o' 0 hL pre1 q (post1++p::post) (by rw[hcut,h];simp) hq⟩
  have hCall:∀q,q∈pre->Ctx w q:=fun q hq=>by
   obtain⟨pre1,post1,h⟩:=List.append_of_mem hq
   exact(hRp pre1 q post1 h).2
  have hfew:=Yv (nm:=qj) (l:=pre) (fun pre1 q post1 h=>by simpa using hgood pre1 q post1 h)
  have hC:=QP L b' o' 0 hL pre p post hcut hRall
  have hcutS:qo 0 L=pre.map Prod.fst++p.1::post.map Prod.fst:=by rw[←zz,hcut];simp
  have hal:=yM L 0 _ _ _ hcut
  have hmn:(pre.map Prod.fst).map (fun x:qA=>x.name)=pre.map fun q=>q.1.name:=by simp
  rw[List.nil_append] at hbad he
  refine(qcE (qw qj [] (qH 0 L)) b' o' c' L.length L (pre.map Prod.fst) (post.map Prod.fst) p.1 w hE hA rfl hL hl3 hcutS (fun x hx=>?_) hC.vals (fun pre1 x hp=>?_) (fun W hW hT=>?_)).mono fun e w' h=>⟨fun h0=>absurd (by rw[←he];exact h0) hbad,fun _=>h⟩
  ·obtain⟨q,hq,rfl⟩:=List.mem_map.1 hx
   have c:=hCall q hq
   have r:=hRall q hq
   have:=c.d1;have:=c.d2;have:=c.a1;have:=c.a2;have:=r.a1;have:=r.a2
   exact⟨by omega,by omega,by omega,by omega,by omega,by omega⟩
  ·obtain⟨pre',q,post',hl,rfl,rfl⟩:=YO hp
   have hlen:pre'.length<=200:=by rw[hl] at hfew;simp at hfew;omega
   have hal2:=yM L 0 pre' q (post'++p::post) (by rw[hcut,hl];simp)
   exact qaB (by simp) (hRp _ _ _ hl).2 (hgood _ _ _ hl) hlen (by omega)
  ·
    have hEW:=hE.below hW
    obtain⟨av,hav⟩:∃av,av=p.1.av:=⟨_,rfl⟩
    have hahd:=hC.ahead.below hW
    rw[he]
    rw[hmn] at hT
    unfold zK at hbad ⊢
    by_cases h1:6<p.1.deep
    ·rw[if_pos h1]
     exact qiI _ _ _ _ _ _ _ _ _ _ W h1
    ·rw[if_neg h1] at hbad ⊢
     have h1':p.1.deep<=6:=by omega
     by_cases h2:(pre.map fun q=>q.1.name).length=200
     ·rw[if_pos h2]
      exact qiv _ _ _ _ _ _ _ _ _ _ _ _ _ W h2 hT h1'
     ·rw[if_neg h2] at hbad ⊢
      have h2':(pre.map fun q=>q.1.name).length<200:=by simp at h2 ⊢;omega
      by_cases h3:qj p.1.name=false∨((pre.map fun q=>q.1.name).any fun x=>eqB x p.1.name)=true
      ·rw[if_pos h3]
       by_cases h3n:qj p.1.name=false
       ·exact qfs _ _ _ _ _ _ _ _ _ _ _ _ _ W h2' hT h1' (fun V hV=>hNo _ V h3n (hW.trans (hV.mono hW.size)))
       ·have hN:=Qt (by simpa using h3n:qj p.1.name=true)
        refine qhe _ _ _ _ _ _ _ _ _ _ _ _ _ W hEW hN.1 hN.2 ?_ h2' hT h1'
        obtain⟨x,hx,hxe⟩:=vU.1 (h3.resolve_left h3n)
        have:x=p.1.name:=by simpa[eqB] using hxe
        rw[←this];exact hx
      ·rw[if_neg h3] at hbad ⊢
       have h3a:qj p.1.name=true:=by
        cases h:qj p.1.name
        ·exact absurd (.inl h) h3
        ·rfl
       have h3b:p.1.name∉(pre.map fun q=>q.1.name):=fun hm=>h3 (.inr (vU.2 ⟨_,hm,by simp[eqB]⟩))
       have hN:=Qt h3a
       by_cases h4:¬ (1<=p.1.wd/\p.1.wd<=64/\0<=p.1.at_/\p.1.at_<=p.1.aW-p.1.wd)
       ·rw[if_pos h4]
        by_cases h4a:p.1.wd<1∨64<p.1.wd
        ·exact qiw _ _ _ _ _ _ _ _ _ _ _ _ _ W hEW hN.1 hN.2 h3b h2' hT h1' (by omega)
        ·have:=hC.w1;have:=hC.w2
         exact qhj _ _ _ _ _ _ _ _ _ _ _ _ _ W hEW hN.1 hN.2 h3b h2' hT h1' (by omega) (by omega) (by omega) (by omega) (by omega)
       ·rw[if_neg h4] at hbad ⊢
        have h4':=Classical.not_not.1 h4
        by_cases h5:(p.2.any fun r=>jN (p.1.aAt+r.at_) r.wd (p.1.aAt+p.1.at_) p.1.wd)=true
        ·rw[if_pos h5]
         have:=hC.w1;have:=hC.a1;have:=hC.a2;have:=hC.d1
         exact qiG _ _ _ _ _ _ _ _ _ _ _ _ _ p.2 W hEW hN.1 hN.2 h3b h2' hT h1' (by omega) hahd hC.a1 (by omega) (by omega) (by omega) (by omega) (by omega) (by omega) (by omega) hC.small h5
        ·rw[if_neg h5] at hbad
         exact absurd rfl hbad
end
end Go.Proofs.YtomlgdnafeeeiaaGreatDoor
