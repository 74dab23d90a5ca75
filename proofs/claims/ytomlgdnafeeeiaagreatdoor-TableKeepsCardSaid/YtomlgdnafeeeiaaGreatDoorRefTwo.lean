
import Derived.Test.YtomlgdnafeeeiaaGreatDoorRefOne
import Derived.Test.YtomlgdnafeeeiaaGreatDoorMdThree
set_option maxHeartbeats 64000000
set_option maxRecDepth 100000
/-
 The reference's walk down registers,Places and classes.
-/
namespace Go.Proofs.YtomlgdnafeeeiaaGreatDoor
open Proofs.Tryz
open Go.RowKit
def xC(out:Bool)(deep root fr width:Int)(sv:Value)(i:Nat)(ahead:List zt):qg->List (qA×List zt)
 | .nil=>[]
 |.cons nm wd at_ v subs rest=>
  (⟨nm,wd,at_,v,deep,bif out then(i:Int) else root,bif out then 0 else fr,bif out then wd else width,bif out then .slice none 0 0 else QF sv i⟩,bif out then [] else ahead) ::
    (zG (deep+1) (bif out then(i:Int) else root) ((bif out then 0 else fr)+at_) wd v 0 [] subs++xC out deep root fr width sv (i+1) (ahead++[⟨nm,wd,at_,v⟩]) rest)
theorem qbZ(deep root fr width:Int)(sv:Value):∀ (L:qg) (i:Nat) (ahead:List zt),xC false deep root fr width sv i ahead L=zG deep root fr width sv i ahead L
 | .nil,_,_=>rfl
 |.cons nm wd at_ v subs rest,i,ahead=>by
  simp only[xC,zG,cond_false,qbZ deep root fr width sv rest]
theorem qaL(root fr width:Int)(sv:Value):∀ (L:qg) (i:Nat) (ahead:List zt),xC true 1 root fr width sv i ahead L=qH i L
 | .nil,_,_=>rfl
 |.cons nm wd at_ v subs rest,i,ahead=>by
  simp only[xC,qH,cond_true,qaL root fr width sv rest]
  rfl
theorem jR(nm:ByteArray->Bool):∀ (A B:List (qA×List zt)) (names:List ByteArray),qw nm names (A++B)=if qw nm names A=0 then qw nm (names++A.map fun p=>p.1.name) B else qw nm names A
 | [],B,names=>by simp[qw]
 |p::A,B,names=>by
  show(if zK nm names p=0 then qw nm (names++[p.1.name]) (A++B) else zK nm names p)=_
  have e:qw nm names (p::A)=if zK nm names p=0 then qw nm (names++[p.1.name]) A else zK nm names p:=rfl
  rw[e]
  by_cases h:zK nm names p=0
  ·rw[if_pos h,if_pos h,jR nm A B]
   simp
  ·rw[if_neg h,if_neg h,if_neg h]
theorem Zb(nm:ByteArray->Bool):∀ (A:List (qA×List zt)) (names:List ByteArray),qw nm names A=0->names.length<=200->(names++A.map fun p=>p.1.name).length<=200
 | [],names,_,h=>by simpa using h
 |p::A,names,he,h=>by
  have e:qw nm names (p::A)=if zK nm names p=0 then qw nm (names++[p.1.name]) A else zK nm names p:=rfl
  rw[e] at he
  by_cases h0:zK nm names p=0
  ·rw[if_pos h0] at he
   have hne:names.length≠200:=fun h200=>Yu (nm:=nm) (p:=p) h200 h0
   have:=Zb nm A (names++[p.1.name]) he (by simp;omega)
   simpa using this
  ·rw[if_neg h0] at he;exact absurd he h0
def Qd(G:Nat)(ns:List ByteArray)(ps:List Plc)(W:World):Prop:=
 ∃nV pV,qd W G 141 #[nV,pV,.int .i64 0]/\W.ownsRow G 9 1 nV ns.length (ns.map Value.string)/\W.ownsRow G 87 3 pV ps.length (qK ps)
def qjg(G:Nat)(x:Int)(W:World):Prop:=∃nV pV,qd W G 141 #[nV,pV,.int .i64 x]
theorem Qd.below{G:Nat}{ns:List ByteArray}{ps:List Plc}{W W':World}(h:Qd G ns ps W)(hb:BX W W'):Qd G ns ps W':=by
 obtain⟨nV,pV,h1,h2,h3⟩:=h
 exact⟨nV,pV,h1.at_below hb,qe h2 hb,qe h3 hb⟩
theorem Qd.owned{G:Nat}{ns:List ByteArray}{ps:List Plc}{W:World}(h:Qd G ns ps W){b:Nat}(hb:zg [G] W b):b=G∨(∃cur,qd W b 9 cur)∨∃cur,qd W b 87 cur:=by
 obtain⟨nV,pV,hT,hn,hp⟩:=h
 rcases hb with h1|⟨t',ht,o,a,n,c,hc,ha⟩
 ·exact .inl (by simpa using h1)
 ·obtain rfl:t'=G:=by simpa using ht
  unfold World.cell? at hc;rw[show W.heap[t']?=_ from hT] at hc
  have hj:(#[nV,pV,.int .i64 0]:Array Value)[o]?=some (.slice (some a) n c):=hc
  match o,hj with
  |0,hj=>
   have hv:nV = .slice (some a) n c:=by simpa using hj
   obtain⟨_,cur,hcur⟩:=qf hn (g:=b) (by rw[hv,←ha];rfl)
   exact .inr (.inl ⟨cur,hcur⟩)
  |1,hj=>
   have hv:pV = .slice (some a) n c:=by simpa using hj
   obtain⟨_,cur,hcur⟩:=qf hp (g:=b) (by rw[hv,←ha];rfl)
   exact .inr (.inr ⟨cur,hcur⟩)
  | 2,hj=>simp at hj
  | o+3,hj=>simp at hj
theorem Qd.ok{G:Nat}{ns:List ByteArray}{ps:List Plc}{W:World}(h:Qd G ns ps W):zp [G] W:=fun b hb=>by
 rcases h.owned hb with rfl|⟨cur,hc⟩|⟨cur,hc⟩
 ·obtain⟨_,_,hT,_,_⟩:=h;exact hT.lt
 ·exact hc.lt
 ·exact hc.lt
theorem Qd.lt{G:Nat}{ns:List ByteArray}{ps:List Plc}{W:World}(h:Qd G ns ps W):G<W.heap.size:=by
 obtain⟨_,_,hT,_,_⟩:=h;exact hT.lt
theorem qca{Ts:List Nat}{A B:World}(h:qR Ts A B)(ok:zp Ts A){base:Nat}{e:TypeId}{size:Nat}{v:Value}{k:Nat}{xs:List Value}(hr:A.ownsRow base e size v k xs)(hn:∀b,v.ownBlock=some b->¬ zg Ts A b):B.ownsRow base e size v k xs:=by
 refine⟨hr.1,?_⟩
 rcases hr.2 with h1|⟨g,cap,cur,h1,h2,h3,h4⟩
 ·exact .inl h1
 ·exact .inr ⟨g,cap,cur,h1,h2,h.keep ok g _ h3 rfl (hn g (by rw[h1];rfl)),h4⟩
theorem QS{Ts:List Nat}{A B:World}(h:qR Ts A B)(ok:zp Ts A){b:Nat}{t:TypeId}{cs:Array Value}(hc:qd A b t cs)(hn:¬ zg Ts A b):qd B b t cs:=h.keep ok b _ hc rfl hn
theorem Xs{Ts:List Nat}{A B:World}{row:Option Nat}(hg:A.grownBy B row)(hn:∀r,row=some r->¬ zg Ts A r)(ok:zp Ts A):(∀t,t∈Ts->B.heap[t]?=A.heap[t]?)/\zp Ts B/\∀b,zg Ts B b↔zg Ts A b:=by
 have hs:∀t,t∈Ts->B.heap[t]?=A.heap[t]?:=fun t ht=>hg.block t (ok.lt ht) (fun e=>hn t e.symm (.inl ht))
 exact⟨hs,fun b hb=>vW (ok b ((yj hs b).1 hb)) hg.size,yj hs⟩
def YA(out:Bool)(root fr:Int)(k:Nat)(ahead:List zt)(dps:List Plc):Prop:=
 (∀p,p∈dps->xT p)/\dps.length=k/\bif out then(∀p,p∈dps->p.1<(k:Int)) else dps=ahead.map fun r=>(root,fr+r.at_,r.wd)
theorem YA.laps{out:Bool}{root fr:Int}{k:Nat}{ahead:List zt}{dps:List Plc}(h:YA out root fr k ahead dps)(at_ wd:Int) :
 (dps.any fun q=>zR q (bif out then(k:Int) else root,(bif out then 0 else fr)+at_,wd))=((bif out then [] else ahead).any fun r=>jN ((bif out then 0 else fr)+r.at_) r.wd ((bif out then 0 else fr)+at_) wd):=by
 obtain⟨_,_,h3⟩:=h
 cases out with
 |true=>
  simp only[cond_true] at h3 ⊢
  rw[List.any_nil,List.any_eq_false]
  intro q hq
  have:=h3 q hq
  unfold zR
  rw[vF (by omega)];simp
 |false=>
  simp only[cond_false] at h3 ⊢
  subst h3
  rw[List.any_map]
  congr 1
  funext r
  simp[zR]
theorem YA.snoc{out:Bool}{root fr:Int}{k:Nat}{ahead:List zt}{dps:List Plc}(h:YA out root fr k ahead dps)(nm:ByteArray)(at_ wd:Int)(v:Value)(hok:xT (bif out then(k:Int) else root,(bif out then 0 else fr)+at_,wd)) :
 YA out root fr (k+1) (ahead++[⟨nm,wd,at_,v⟩]) (dps++[(bif out then(k:Int) else root,(bif out then 0 else fr)+at_,wd)]):=by
 obtain⟨h1,h2,h3⟩:=h
 refine⟨fun p hp=>?_,by simp[h2],?_⟩
 ·rcases vC.1 hp with hp|hp
  ·exact h1 p hp
  ·obtain rfl:=List.mem_singleton.1 hp;exact hok
 ·cases out with
  |true=>
   simp only[cond_true] at h3 ⊢
   intro p hp
   rcases vC.1 hp with hp|hp
   ·have:=h3 p hp;omega
   ·obtain rfl:=List.mem_singleton.1 hp;dsimp only;omega
  |false=>
   simp only[cond_false] at h3 ⊢
   subst h3;simp
def yA(G:Nat)(ns:List ByteArray)(ps:List Plc)(S:List (qA×List zt))(w:World)(e:Ending)(w':World):Prop:=
 e = .returned (.tuple #[])/\Below G w w'/\qR [G] w w'/\(qw qj ns S=0->Qd G (ns++S.map fun p=>p.1.name) (ps++S.map fun p=>p.1.place) w')/\(qw qj ns S≠0->qjg G (qw qj ns S) w')
structure qlc(out:Bool)(G:Nat)(w:World)(deep root fr width:Int)(sv:Value)(a:Option Addr)(L:qg)(ns:List ByteArray)(ps:List Plc)(k:Nat)(rest:qg)(ahead:List zt)(A:List (qA×List zt))(dps:List Plc)(dV:SlV)(wr:World):Prop where
 len:k+rest.length=L.length
 tot:rest.total<=L.total
 hold:rest = .nil∨∃b o,a=some ⟨b,o,none⟩/\qB G w b (o+k*4) rest
 said:xC out deep root fr width sv 0 [] L=A++xC out deep root fr width sv k ahead rest
 fine:qw qj ns A=0
 cnt:k<=A.length
 geo:Qd G (ns++A.map fun p=>p.1.name) (ps++A.map fun p=>p.1.place) wr
 row:wr.ownsRow w.heap.size 87 3 dV.v k (qK dps)
 done:YA out root fr k ahead dps
 free:∀b,dV.v.ownBlock=some b->¬ zg [G] wr b
 below:Below G w wr
 keeps:qR [G] w wr
def qgM(out:Bool)(G:Nat)(w:World)(deep root fr width:Int)(sv:Value)(a:Option Addr)(L:qg)(ns:List ByteArray)(ps:List Plc)(s3 s4 dn i:Value)(wr:World):Prop:=
 (∃ (rt f:Int),s3 = .int .i64 rt/\s4 = .int .i64 f/\(out=false->rt=root/\f=fr)) /\
 ((∃ (k:Nat) (rest:qg) (ahead:List zt) (A:List (qA×List zt)) (dps:List Plc) (dV:SlV),i = .int .i64 k/\dn = .slice dV.a dV.n dV.c/\qlc out G w deep root fr width sv a L ns ps k rest ahead A dps dV wr) ∨
  ∃ (k:Nat) (dV:SlV),k<=L.length/\i = .int .i64 k/\dn = .slice dV.a dV.n dV.c/\qw qj ns (xC out deep root fr width sv 0 [] L)≠0/\qjg G (qw qj ns (xC out deep root fr width sv 0 [] L)) wr/\Below G w wr/\qR [G] w wr)
theorem qhv{out:Bool}{deep root fr width:Int}{sv:Value}{L:qg}{k:Nat}{ahead:List zt}{A:List (qA×List zt)}{nm:ByteArray}{wd at_:Int}{v:Value}{subs rest:qg}
 (h:xC out deep root fr width sv 0 [] L=A++xC out deep root fr width sv k ahead (.cons nm wd at_ v subs rest)) :
 ∃p B,p=((⟨nm,wd,at_,v,deep,bif out then(k:Int) else root,bif out then 0 else fr,bif out then wd else width,bif out then .slice none 0 0 else QF sv k⟩,bif out then [] else ahead):qA×List zt)/\B=zG (deep+1) (bif out then(k:Int) else root) ((bif out then 0 else fr)+at_) wd v 0 [] subs /\
  xC out deep root fr width sv 0 [] L=A++p::B++xC out deep root fr width sv (k+1) (ahead++[⟨nm,wd,at_,v⟩]) rest:=by
 refine⟨_,_,rfl,rfl,?_⟩
 rw[h]
 simp[xC]
theorem qjh{ns:List ByteArray}{S A R:List (qA×List zt)}{p:qA×List zt}(h:S=A++p::R)(hA:qw qj ns A=0)(he:zK qj (ns++A.map fun p=>p.1.name) p≠0):qw qj ns S=zK qj (ns++A.map fun p=>p.1.name) p:=by
 rw[h,jR,if_pos hA]
 show(if zK qj (ns++A.map fun p=>p.1.name) p=0 then _ else _)=_
 rw[if_neg he]
theorem qji{ns:List ByteArray}{A B:List (qA×List zt)}{p:qA×List zt}(hA:qw qj ns A=0)(he:zK qj (ns++A.map fun p=>p.1.name) p=0):qw qj ns (A++p::B)=qw qj ((ns++A.map fun p=>p.1.name)++[p.1.name]) B:=by
 rw[jR,if_pos hA]
 show(if zK qj (ns++A.map fun p=>p.1.name) p=0 then _ else _)=_
 rw[if_pos he]
theorem qhw{G:Nat}{ns:List ByteArray}{ps:List Plc}{S:List (qA×List zt)}{w wr W:World}{ns2:List ByteArray}{ps2:List Plc}{x:Int}(hg:Qd G ns2 ps2 wr)(hx:qw qj ns S=x)(hx0:x≠0)(hB0:Below G w wr)(hK0:qR [G] w wr)(hb:BX wr W) :
 yA G ns ps S w (.returned (.tuple #[])) (W.setCell ⟨G,2,none⟩ (.int .i64 x)):=by
 have hlt:=hg.lt
 have hg2:=hg.below hb
 obtain⟨nV,pV,hT,_,_⟩:=hg2
 refine⟨rfl,(hB0.trans (hb.mono (by omega))).setCell (p:=⟨G,2,none⟩) (vL _) _,(hK0.trans (qR.of_below hb)).trans ?_,fun h0=>absurd (hx ▸ h0) hx0,fun _=>⟨nV,pV,?_⟩⟩
 ·exact YJ (row:=none) (B:=W) ⟨rfl,rfl,rfl,vL _,fun _ _ _=>rfl⟩ (fun r e=>by cases e) (by simp) (fun a n c e=>by cases e)
 ·have:=hT.set (j:=2) (.int .i64 x)
  rw[hx];exact this
theorem qbB{Ts:List Nat}{A W W4:World}{row:Option Nat}(hk:qR Ts A W)(okA:zp Ts A)(hg:W.grownBy W4 row)(hr:∀r,row=some r->A.heap.size<=r/\¬ zg Ts W r):qR Ts A W4:=by
 have okW:=hk.ok okA
 obtain⟨_,ok4,hiff⟩:=Xs hg (fun r e=>(hr r e).2) okW
 exact⟨vR hk.size hg.size,fun _=>ok4,fun _ b hb ho h4=>hk.own okA b hb ho ((hiff b).1 h4),
  fun _ b o hb hc ho=>(hg.block b (vW (qD hb) hk.size) (fun e=>by have:=(hr b e.symm).1;have:=qD hb;omega)).trans (hk.keep okA b o hb hc ho)⟩
structure JU(G:Nat)(w:World)(ns2:List ByteArray)(ps2:List Plc)(k:Nat)(dps:List Plc)(v:Value)(W:World):Prop where
 geo:Qd G ns2 ps2 W
 row:W.ownsRow w.heap.size 87 3 v k (qK dps)
 free:∀b,v.ownBlock=some b->¬ zg [G] W b
 below:Below G w W
 keeps:qR [G] w W
theorem JU.step{G:Nat}{w W W':World}{ns2:List ByteArray}{ps2:List Plc}{k:Nat}{dps:List Plc}{v:Value}(h:JU G w ns2 ps2 k dps v W)(hb:BX W W'):JU G w ns2 ps2 k dps v W':=
 ⟨h.geo.below hb,qe h.row hb,fun b e ho=>h.free b e ((zF h.geo.ok hb b).1 ho),h.below.trans (hb.mono (Nat.le_of_lt h.geo.lt)),h.keeps.trans (qR.of_below hb)⟩
theorem qhx{G:Nat}{w W W4:World}{ns2:List ByteArray}{ps2:List Plc}{k:Nat}{dps:List Plc}{v v':Value}{tmp:Obj}{P:Plc}(h:JU G w ns2 ps2 k dps v W)(okw:zp [G] w)(hGw:G<=w.heap.size)
 (hown:W4.ownsRow w.heap.size 87 3 v' (k+1) (qK dps++[.int .i64 P.1,.int .i64 P.2.1,.int .i64 P.2.2])) (hgrow:(W.alloc tmp).grownBy W4 v.ownBlock) (hblk:v'.ownBlock=v.ownBlock∨v'.ownBlock=some (W.alloc tmp).heap.size) :
 JU G w ns2 ps2 (k+1) (dps++[P]) v' W4:=by
 have hb1:BX W (W.alloc tmp):=qi
 have h1:=h.step hb1
 have hvb:∀r,v.ownBlock=some r->w.heap.size<=r/\¬ zg [G] (W.alloc tmp) r:=fun r e=>⟨(qf h.row e).1,h1.free r e⟩
 obtain⟨hs,ok4,hiff⟩:=Xs hgrow (fun r e=>(hvb r e).2) h1.geo.ok
 have hkp:∀ {e:TypeId} {size kk:Nat} {u:Value} {xs:List Value},(W.alloc tmp).ownsRow G e size u kk xs->(∀b,u.ownBlock=some b->zg [G] (W.alloc tmp) b)->W4.ownsRow G e size u kk xs:=fun hr ho=>by
  refine hr.kept hgrow ?_
  cases hu:Value.ownBlock _ with
  | none=>exact .inl rfl
  | some b=>exact .inr (fun e=>h1.free b (by rw[←e]) (ho b hu))
 refine⟨?_,?_,?_,?_,qbB h1.keeps okw hgrow hvb⟩
 ·obtain⟨nV,pV,hT,hn,hp⟩:=h1.geo
  refine⟨nV,pV,(hs G (by simp)).trans hT,hkp hn (fun b e=>?_),hkp hp (fun b e=>?_)⟩
  ·obtain⟨a',c',rfl⟩:=qx hn
   cases a' with
   | none=>simp[Value.ownBlock] at e
   |some a'=>
    exact .inr ⟨G,by simp,0,a',_,_,hT.cell rfl,by simpa[Value.ownBlock] using e⟩
  ·obtain⟨a',c',rfl⟩:=qx hp
   cases a' with
   | none=>simp[Value.ownBlock] at e
   |some a'=>
    exact .inr ⟨G,by simp,1,a',_,_,hT.cell rfl,by simpa[Value.ownBlock] using e⟩
 ·have e:qK (dps++[P])=qK dps++[.int .i64 P.1,.int .i64 P.2.1,.int .i64 P.2.2]:=by simp[qK]
  rw[e];exact hown
 ·intro b e ho
  rcases hblk with h2|h2
  ·exact h1.free b (by rw[←h2];exact e) ((hiff b).1 ho)
  ·rw[e] at h2
   have hb':=h1.geo.ok b ((hiff b).1 ho)
   have:=Option.some.inj h2
   omega
 ·exact h1.below.grown hgrow (vR hGw (vR h.keeps.size hb1.size)) (fun r e=>vR hGw (hvb r e).1)
theorem qd.drewS{W:World}{b:Nat}{t:TypeId}{cs:Array Value}(h:qd W b t cs):qd W.drew b t cs:=h
theorem qeh{G:Nat}{W W4:World}{row:Option Nat}{tmp:Obj}{b:Nat}{t:TypeId}{cs:Array Value}(ok:zp [G] W)(hgrow:(W.alloc tmp).grownBy W4 row)(hr:∀r,row=some r->¬ zg [G] W r)(hc:qd W b t cs)(hb:¬ zg [G] W b)(hne:some b≠row):qd W4 b t cs/\¬ zg [G] W4 b:=by
 have hb1:BX W (W.alloc tmp):=qi
 have hr1:∀r,row=some r->¬ zg [G] (W.alloc tmp) r:=fun r e h=>hr r e ((zF ok hb1 r).1 h)
 obtain⟨_,_,hiff⟩:=Xs hgrow hr1 (ok.below hb1)
 exact⟨(hc.alloc tmp).kept hgrow hne,fun h=>hb ((zF ok hb1 b).1 ((hiff b).1 h))⟩
theorem qfI{G:Nat}{w W4 W5 W7:World}{ns2:List ByteArray}{ps2:List Plc}{k1:Nat}{dps1:List Plc}{v' nV pV n' p':Value}{nm:ByteArray}{P:Plc}(h:JU G w ns2 ps2 k1 dps1 v' W4)
 (hG1:ZZ G G 0 141 9 1 #[nV,pV,.int .i64 0] n' (ns2.length+1) (ns2.map Value.string++[.string nm]) W4 W5)
 (hG2:ZZ G G 1 141 87 3 #[n',pV,.int .i64 0] p' (ps2.length+1) (qK ps2++[.int .i64 P.1,.int .i64 P.2.1,.int .i64 P.2.2]) W5 W7) :
 JU G w (ns2++[nm]) (ps2++[P]) k1 dps1 v' W7:=by
 have hk:qR [G] W4 W7:=hG1.keeps.trans hG2.keeps
 have ok:=h.geo.ok
 refine⟨⟨n',p',hG2.cells,?_,?_⟩,qca hk ok h.row h.free,fun b e=>?_,(h.below.trans hG1.below).trans hG2.below,h.keeps.trans hk⟩
 ·have:=hG2.rows _ _ _ _ _ hG1.row (by decide) (by decide)
  rw[kA,kM];exact this
 ·have:=hG2.row
  have e:qK (ps2++[P])=qK ps2++[.int .i64 P.1,.int .i64 P.2.1,.int .i64 P.2.2]:=by simp[qK]
  rw[kA,e];exact this
 ·refine hk.own ok b ?_ (h.free b e)
  obtain⟨_,cur,hc⟩:=qf h.row e
  exact hc.lt
theorem qfJ{out:Bool}{G:Nat}{w wr W7 W8:World}{deep root fr width:Int}{sv:Value}{a:Option Addr}{L:qg}{ns:List ByteArray}{ps:List Plc}{k:Nat}{rest:qg}{ahead:List zt}{A:List (qA×List zt)}{dps:List Plc}{dV dV':SlV}
 {nm:ByteArray} {wd at_:Int} {v:Value} {subs:qg} {p:qA×List zt} {B:List (qA×List zt)} {e:Ending}
 (hI:qlc out G w deep root fr width sv a L ns ps k (.cons nm wd at_ v subs rest) ahead A dps dV wr)
 (hp:p=((⟨nm,wd,at_,v,deep,bif out then(k:Int) else root,bif out then 0 else fr,bif out then wd else width,bif out then .slice none 0 0 else QF sv k⟩,bif out then [] else ahead):qA×List zt))
 (hsaid:xC out deep root fr width sv 0 [] L=A++p::B++xC out deep root fr width sv (k+1) (ahead++[⟨nm,wd,at_,v⟩]) rest)
 (he:zK qj (ns++A.map fun p=>p.1.name) p=0)
 (h7:JU G w ((ns++A.map fun p=>p.1.name)++[nm]) ((ps++A.map fun p=>p.1.place)++[(bif out then(k:Int) else root,(bif out then 0 else fr)+at_,wd)]) (k+1) (dps++[(bif out then(k:Int) else root,(bif out then 0 else fr)+at_,wd)]) dV'.v W7)
 (hok:xT (bif out then(k:Int) else root,(bif out then 0 else fr)+at_,wd))
 (h8:yA G ((ns++A.map fun p=>p.1.name)++[nm]) ((ps++A.map fun p=>p.1.place)++[(bif out then(k:Int) else root,(bif out then 0 else fr)+at_,wd)]) B W7 e W8)
 (s3 s4:Value) (h34:∃ (rt f:Int),s3 = .int .i64 rt/\s4 = .int .i64 f/\(out=false->rt=root/\f=fr)) :
 qgM out G w deep root fr width sv a L ns ps s3 s4 (.slice dV'.a dV'.n dV'.c) (.int .i64 ((k+1:Nat):Int)) W8:=by
 refine⟨h34,?_⟩
 obtain⟨_,hb8,hk8,hgood,hbad⟩:=h8
 have hpn:p.1.name=nm:=by rw[hp]
 have hpp:p.1.place=(bif out then(k:Int) else root,(bif out then 0 else fr)+at_,wd):=by rw[hp];rfl
 have hsub:=qji (B:=B) hI.fine he
 rw[hpn] at hsub
 have hkl:k+1+rest.length=L.length:=by have:=hI.len;simp only[qg.length] at this;omega
 by_cases h0:qw qj ((ns++A.map fun p=>p.1.name)++[nm]) B=0
 ·have hg:=hgood h0
  refine .inl ⟨k+1,rest,ahead++[⟨nm,wd,at_,v⟩],A++p::B,dps++[(bif out then(k:Int) else root,(bif out then 0 else fr)+at_,wd)],dV',rfl,rfl,{
   len:=hkl
   tot:=by have:=hI.tot;simp only[qg.total] at this;omega
   hold:=?_
   said:=hsaid
   fine:=by rw[hsub,h0]
   cnt:=by have:=hI.cnt;simp;omega
   geo:=?_
   row:=qca hk8 h7.geo.ok h7.row h7.free
   done:=hI.done.snoc nm at_ wd v hok
   free:=fun b e=>hk8.own h7.geo.ok b (by obtain⟨_,cur,hc⟩:=qf h7.row e;exact hc.lt) (h7.free b e)
   below:=h7.below.trans hb8
   keeps:=h7.keeps.trans hk8 }⟩
  ·rcases hI.hold with h|⟨b,o,h1,h2⟩
   ·cases h
   ·refine .inr ⟨b,o,h1,?_⟩
    have:=h2.2.2.1
    rw[show o+(k+1)*4=o+k*4+4 by omega];exact this
  ·rw[←hpn,←hpp] at hg
   simpa[List.append_assoc] using hg
 ·have hx:qw qj ns (xC out deep root fr width sv 0 [] L)=qw qj ((ns++A.map fun p=>p.1.name)++[nm]) B:=by
   rw[hsaid,jR,hsub,if_neg h0]
  refine .inr ⟨k+1,dV',by omega,rfl,rfl,by rw[hx];exact h0,by rw[hx];exact hbad h0,h7.below.trans hb8,h7.keeps.trans hk8⟩
theorem qkv(N:Nat):∀ (out:Bool) (L:qg) (a:Option Addr) (c G:Nat) (deep root fr width:Int) (sv:Value) (ns:List ByteArray) (ps:List Plc) (w:World),L.total<N->sv = .slice a L.length c->L.length<=c->L.length<=4611686018427387904 ->
 (L = .nil∨∃b o,a=some ⟨b,o,none⟩/\qB G w b o L)->Qd G ns ps w->ns.length=ps.length->ns.length<=200 ->
 (bif out then deep=1 else 2<=deep/\deep<=7/\0<=fr/\fr<=64*(deep-1)/\1<=width/\width<=64) ->
 Calls prog 98 #[.pointer (some ⟨G,0,none⟩),.slice a L.length c,.int .i64 deep,.int .i64 root,.int .i64 fr,.int .i64 width] w (yA G ns ps (xC out deep root fr width sv 0 [] L) w):=by
 induction N with
 | zero=>exact fun _ L _ _ _ _ _ _ _ _ _ _ _ h=>absurd h (Nat.not_lt_zero _)
 | succ N ih=>
 intro out L a c G deep root fr width sv ns ps w hN hsv hcap hbig hL hG hlen hfew hd
 have hd7:1<=deep/\deep<=7:=by cases out <;> simp at hd <;> omega
 have hG2:=vH hG
 have hd2:=vH hd
 have hlen2:=vH hlen
 have hfew2:=hfew
 have hstart:qgM out G w deep root fr width sv a L ns ps (.int .i64 root) (.int .i64 fr) (.slice none 0 0) (.int .i64 0) w:=
  ⟨⟨root,fr,rfl,rfl,fun _=>⟨rfl,rfl⟩⟩,.inl ⟨0,L,[],[],[],⟨none,0,0⟩,rfl,rfl,{
    len:=Nat.zero_add _
    tot:=vL _
    hold:=hL.elim (fun h=>.inl h) (fun⟨b,o,h1,h2⟩=>.inr ⟨b,o,h1,by simpa using h2⟩)
    said:=rfl
    fine:=rfl
    cnt:=vO _
    geo:=by simpa using hG
    row:=kO _ _ _ _
    done:=⟨fun p hp=>(by cases hp),rfl,by cases out <;> simp⟩
    free:=fun b hb=>by simp[SlV.v,Value.ownBlock] at hb
    below:=kB _ _
    keeps:=qR.refl _ _ }⟩⟩
 replace hstart:=vH hstart
 clear hG hL hd hlen hfew
 go_enter func98,ntmps98
 go_wp2_with fail
 go_loopw [3,4,12,13] (fun s3 s4 dn i wr=>qgM out G w deep root fr width sv a L ns ps s3 s4 dn i wr) (fun _ _ _ i _=>L.length-(intOf i).toNat)
 case atStart=>exact hstart.out
 case round=>
  obtain⟨⟨rt,f,rfl,rfl,hrt⟩,⟨k,rest,ahead,A,dps,⟨da,dn,dc⟩,rfl,rfl,hI⟩|⟨k,⟨da,dn,dc⟩,hk,rfl,rfl,hne,hbad,hB,hK⟩⟩:=hrel
  ·rcases rest with _|⟨nm,wd,at_,v,subs,rest⟩
   ·
     have hkL:k=L.length:=by have:=hI.len;simp only[qg.length] at this;omega
     have hfin:yA G ns ps (xC out deep root fr width sv 0 [] L) w (.returned (.tuple #[])) wr:=by
      have hs:=hI.said
      simp only[xC,List.append_nil] at hs
      exact⟨rfl,hI.below,hI.keeps,fun _=>by rw[hs];exact hI.geo,fun h=>absurd (by rw[hs];exact hI.fine) h⟩
     replace hfin:=vH hfin
     have hnlt:¬ k<L.length:=by omega
     clear hI hkL hrt
     go_wp2_with fail
     go_end0
     exact hfin.out
   ·obtain⟨p,B,hp,hB,hsaid⟩:=qhv hI.said
    have hI2:=vH hI
    have hkl:k<L.length:=by have:=hI.len;simp only[qg.length] at this;omega
    have hk2:(k:Int)<L.length:=by omega
    have k0:(0:Int)<=k:=vN _
    obtain⟨b,o,ha,hh⟩:=hI.hold.resolve_left (by simp)
    obtain⟨hbG,hreg,_,hsubs⟩:=hh
    obtain⟨va,vc,hv,hvc,hvl,hvs⟩:∃va vc,v = .slice va subs.length vc/\subs.length<=vc/\subs.length<=140737488355328/\(subs = .nil∨∃b o,va=some ⟨b,o,none⟩/\qB G w b o subs):=by
     rcases hsubs with⟨⟨va,rfl⟩,rfl⟩|⟨b',o',c',rfl,h1,h2,h3⟩
     ·exact⟨va,0,rfl,vL _,vO _,.inl rfl⟩
     ·exact⟨_,c',rfl,h1,h2,.inr ⟨b',o',rfl,h3⟩⟩
    have hcell:∀j x,w.cell? ⟨b,j,none⟩=some x->wr.cell? ⟨b,j,none⟩=some x:=fun j x hx=>(hI.below.cell (p:=⟨b,j,none⟩) hbG).trans hx
    have rc0:=hcell _ _ hreg.1
    have rc1:=hcell _ _ hreg.2.1
    have rc2:=hcell _ _ hreg.2.2.1
    have rc3:=hcell _ _ hreg.2.2.2
    dsimp only at rc0 rc1 rc2 rc3
    obtain⟨nV,pV,hT,hn,hpl⟩:=hI.geo
    have g2:=hT.cell (j:=2) (v:=.int .i64 0) rfl
    obtain⟨na,nc,rfl⟩:=qx hn
    obtain⟨pa,pc,rfl⟩:=qx hpl
    have hfewA:=Zb qj A ns hI.fine hfew2
    have hlenA:(ns++A.map fun p=>p.1.name).length=(ps++A.map fun p=>p.1.place).length:=by simp[hlen2.out]
    obtain⟨nsA,hnsA⟩:∃nsA,nsA=ns++A.map fun p=>p.1.name:=⟨_,rfl⟩
    obtain⟨psA,hpsA⟩:∃psA,psA=ps++A.map fun p=>p.1.place:=⟨_,rfl⟩
    rw[←hnsA] at hn hfewA hlenA hT
    rw[←hpsA] at hpl hlenA hT
    have hgeo:Qd G nsA psA wr:=by rw[hnsA,hpsA];exact hI.geo
    have hD0:JU G w nsA psA k dps (SlV.v ⟨da,dn,dc⟩) wr:=⟨hgeo,hI.row,hI.free,hI.below,hI.keeps⟩
    have hdn:dn=k:=by
     obtain⟨a',c',h⟩:=qx hI.row
     unfold SlV.v at h;injection h
    subst hdn
    have hdone:=hI.done
    obtain⟨R,hR⟩:∃R:Int,R=bif out then(dn:Int) else root:=⟨_,rfl⟩
    obtain⟨F,hF⟩:∃F:Int,F=bif out then 0 else fr:=⟨_,rfl⟩
    have hF0:0<=F/\F<=384:=by
     rw[hF]
     have:=hd2.out
     cases out <;> simp at this ⊢ <;> omega
    have hlaps:=hdone.laps at_ wd
    rw[←hR,←hF] at hlaps
    have hstop:∀ (W:World) (x:Int),BX wr W->zK qj nsA p=x->x≠0->yA G ns ps (xC out deep root fr width sv 0 [] L) w (.returned (.tuple #[])) (W.setCell ⟨G,2,none⟩ (.int .i64 x)):=fun W x hb hx hx0=>by
     refine qhw hgeo ?_ hx0 hI.below hI.keeps hb
     rw[←hx,hnsA]
     refine qjh (R:=B++xC out deep root fr width sv (dn+1) (ahead++[⟨nm,wd,at_,v⟩]) rest) (by rw[hsaid];simp) hI.fine ?_
     rw[←hnsA,hx];exact hx0
    have herr:zK qj nsA p=if 6<deep then 4 else if nsA.length=200 then 2 else if qj nm=false∨(nsA.any fun x=>eqB x nm)=true then 5 else
     if ¬ (1<=wd/\wd<=64/\0<=at_/\at_<=(bif out then wd else width)-wd) then 6 else if(dps.any fun q=>zR q (R,F+at_,wd))=true then 7 else 0:=by
     rw[hlaps,hp,hF];rfl
    obtain⟨W0,hW0⟩:∃W0,W0=wr.alloc (.cells #[.string nm,.int .i64 wd,.int .i64 at_,.slice va subs.length vc] 40):=⟨_,rfl⟩
    have hb0:BX wr W0:=by rw[hW0];exact qi
    have hr0:qd W0 wr.heap.size 40 #[.string nm,.int .i64 wd,.int .i64 at_,.slice va subs.length vc]:=by rw[hW0];exact qd.new _ _ _
    have hT0:=hT.at_below hb0
    have hGwr:=hgeo.lt
    have hws:=hI.keeps.size
    replace hW0:=vH hW0
    replace hnsA:=vH hnsA
    replace hpsA:=vH hpsA
    replace hR:=vH hR
    replace hF:=vH hF
    replace hp:=vH hp
    replace hB:=vH hB
    replace hsaid:=vH hsaid
    replace herr:=vH herr
    replace hstop:=vH hstop
    replace hlaps:=vH hlaps
    replace hdone:=vH hdone
    replace hD0:=vH hD0
    replace hn:=vH hn
    replace hpl:=vH hpl
    replace hlenA:=vH hlenA
    replace hvs:=vH hvs
    replace hrt:=vH hrt
    replace hsv:=vH hsv
    subst ha hv
    clear hI hreg hsubs hcell hgeo
    go_upto_if 37 with fail
    go_cut [3,4] from 36 to 37 (fun s3 s4 Wx=>s3 = .int .i64 R/\s4 = .int .i64 F/\Wx=W0)
    case first=>
     have hdd:=hd2.out
     cases out with
     |true=>
      simp only[cond_true] at hdd
      subst hdd
      go_wp2_with fail
      go_meet
      exact⟨by rw[hR.out];rfl,by rw[hF.out];rfl,hW0.out.symm⟩
     |false=>
      simp only[cond_false] at hdd
      have hd1:(deep==1)=false:=by simp;omega
      obtain⟨hr1,hr2⟩:=hrt.out rfl
      have hR2:Hid (rt=R):=vH (by rw[hR.out,hr1];rfl)
      have hF2:Hid (f=F):=vH (by rw[hF.out,hr2];rfl)
      clear hr1 hr2 hrt
      go_wp2_with fail
      go_meet
      exact⟨by rw[hR2.out],by rw[hF2.out],hW0.out.symm⟩
    case rest=>
     obtain⟨rfl,rfl,hwc⟩:=hcut
     subst wc
     have g0:=hT0.cell (j:=0) (v:=.slice na nsA.length nc) rfl
     have g2:=hT0.cell (j:=2) (v:=.int .i64 0) rfl
     have f2:=hT0.frozen 2
     have r0:=hr0.cell (j:=0) (v:=.string nm) rfl
     by_cases e1:6<deep
     ·have hs:=vH (hstop.out W0 4 hb0 (by rw[herr.out,if_pos e1]) (by decide))
      go_wp2_with (go_at_call 47;refine(XH nm _).mono ?_;rintro e W1 ⟨rfl,rfl⟩)
      go_end0
      exact hs.out
     ·by_cases e2:nsA.length=200
      ·have hs:=vH (hstop.out W0 2 hb0 (by rw[herr.out,if_neg e1,if_pos e2]) (by decide))
       have e2':(200:Int)<=nsA.length:=by omega
       clear e2
       go_wp2_with (go_at_call 47;refine(XH nm _).mono ?_;rintro e W1 ⟨rfl,rfl⟩)
       go_end0
       exact hs.out
      ·have e2':¬ (200:Int)<=nsA.length:=by omega
       have herr2:Hid (zK qj nsA p=if qj nm=false∨(nsA.any fun x=>eqB x nm)=true then 5 else
        if ¬ (1<=wd/\wd<=64/\0<=at_/\at_<=(bif out then wd else width)-wd) then 6 else if(dps.any fun q=>zR q (R,F+at_,wd))=true then 7 else 0):=vH (by rw[herr.out,if_neg e1,if_neg e2])
       have hstr:=qG.of_row (s:=⟨na,nsA.length,nc⟩) (qe hn.out hb0) rfl
       have KF:=fun n=>qcR ⟨na,nsA.length,nc⟩ nsA nm (W0.drewN n) (hstr.below (below_drewN (kB _ _) n)) (by dsimp only;omega)
       dsimp only at KF
       have hany:(nsA.any fun x=>eqB x nm)=decide (0<=qv nsA nm):=by
        unfold qv
        rcases xh (fun x=>eqB x nm) nsA with⟨h1,h2⟩|⟨k',hk',h1,h2⟩
        ·rw[h1,vF (by omega),List.any_eq_false];intro x hx;simp[h2 x hx]
        ·rw[h1,vT (by omega),vU];exact⟨_,List.getElem_mem hk',h2⟩
       have hrr:=zO nsA nm
       generalize qv nsA nm=rn at *
       replace hany:=vH hany
       clear herr e2 hstr
       go_upto_region 13 with(go_at_call 47;refine(XH nm _).mono ?_;rintro e W1 ⟨rfl,rfl⟩)
       go_cut [15,58] from 41 to 70 (fun _ s Wx=>s = .bool (!qj nm||decide (0<=rn))/\BX W0 Wx)
       case first=>
        cases hnb:qj nm with
        |false=>
         go_quiet (fail)
         go_wp2_with fail
         go_meet
         exact⟨by simp[hnb],below_drewN (kB _ _) _⟩
        |true=>
         by_cases h0:0<=rn
         all_goals
          go_quiet ((go_at_call 52;exact Calls.quiet_of_same ((KF _).mono fun _ _ ⟨he,hw⟩=>⟨he,hw.symm⟩)))
          go_wp2_with fail
          go_meet
          exact⟨by simp[hnb,h0],below_drewN (kB _ _) _⟩
       case rest=>
        obtain⟨rfl,hb1⟩:=hcut
        obtain⟨W1,rfl⟩:∃W1,W1=wc:=⟨_,rfl⟩
        have hb01:BX wr W1:=hb0.trans (hb1.mono hb0.size)
        have hT1:=hT0.at_below hb1
        have hr1:=hr0.at_below hb1
        clear g0 g2 f2 r0 KF
        have g2:=hT1.cell (j:=2) (v:=.int .i64 0) rfl
        have f2:=hT1.frozen 2
        cases hq:(!qj nm||decide (0<=rn)) with
        |true=>
         have hbad5:qj nm=false∨(nsA.any fun x=>eqB x nm)=true:=by
          rw[hany.out]
          simpa using hq
         have hs:=vH (hstop.out W1 5 hb01 (by rw[herr2.out,if_pos hbad5]) (by decide))
         clear hq hbad5
         go_wp2_with fail
         go_end0
         exact hs.out
        |false=>
         have hno5:¬ (qj nm=false∨(nsA.any fun x=>eqB x nm)=true):=by
          rw[hany.out]
          simp only[Bool.or_eq_false_iff,Bool.not_eq_false'] at hq
          simp[hq.1,hq.2]
         have herr3:Hid (zK qj nsA p=if ¬ (1<=wd/\wd<=64/\0<=at_/\at_<=(bif out then wd else width)-wd) then 6 else if(dps.any fun q=>zR q (R,F+at_,wd))=true then 7 else 0):=vH (by rw[herr2.out,if_neg hno5])
         have q1:=hr1.cell (j:=1) (v:=.int .i64 wd) rfl
         have q2:=hr1.cell (j:=2) (v:=.int .i64 at_) rfl
         clear hq hno5 herr2 hany hrr
         go_upto_region 15 with fail
         go_cut [74] from 75 to 115 (fun s Wx=>s = .bool (decide (¬ (1<=wd/\wd<=64/\0<=at_/\at_<=(bif out then wd else width)-wd)))/\Wx=W1)
         case first=>
          have hdd:=hd2.out
          have hfin:∀c:Bool,(c=true↔¬ (1<=wd/\wd<=64/\0<=at_/\at_<=(bif out then wd else width)-wd))->c=decide (¬ (1<=wd/\wd<=64/\0<=at_/\at_<=(bif out then wd else width)-wd)):=fun c hc=>by
           cases c with
           | true=>exact(vT (hc.1 rfl)).symm
           | false=>exact(vF (fun h=>by have:=hc.2 h;cases this)).symm
          replace hfin:=vH hfin
          cases out with
          |true=>
           simp only[cond_true] at hdd
           subst hdd
           by_cases c1:wd<1
           ·go_wp2_with fail
            go_meet
            exact⟨congrArg Value.bool (hfin.out true ⟨fun _=>by omega,fun _=>rfl⟩),rfl⟩
           ·by_cases c2:64<wd
            ·go_wp2_with fail
             go_meet
             exact⟨congrArg Value.bool (hfin.out true ⟨fun _=>by omega,fun _=>rfl⟩),rfl⟩
            ·by_cases c3:at_<0
             ·go_wp2_with fail
              go_meet
              exact⟨congrArg Value.bool (hfin.out true ⟨fun _=>by omega,fun _=>rfl⟩),rfl⟩
             ·by_cases c4:at_=0
              ·subst c4
               go_wp2_with fail
               go_meet
               exact⟨congrArg Value.bool (hfin.out false ⟨fun h=>(by cases h),fun h=>(by exfalso;apply h;simp only[cond_true];omega)⟩),rfl⟩
              ·have c4b:(at_==0)=false:=by simpa using c4
               have c4c:(at_ != 0)=true:=by simpa using c4
               go_wp2_with fail
               go_meet
               exact⟨congrArg Value.bool (hfin.out true ⟨fun _=>by simp only[cond_true];omega,fun _=>rfl⟩),rfl⟩
          |false=>
           simp only[cond_false] at hdd
           have hd1:(deep==1)=false:=by simp;omega
           have hd3:1<deep:=by omega
           have hd4:decide (1<deep)=true:=by simp;omega
           have w0:1<=width:=by omega
           have w1:width<=64:=by omega
           clear hdd
           by_cases c1:wd<1
           ·go_wp2_with fail
            go_meet
            exact⟨congrArg Value.bool (hfin.out true ⟨fun _=>by omega,fun _=>rfl⟩),rfl⟩
           ·by_cases c2:64<wd
            ·go_wp2_with fail
             go_meet
             exact⟨congrArg Value.bool (hfin.out true ⟨fun _=>by omega,fun _=>rfl⟩),rfl⟩
            ·by_cases c3:at_<0
             ·go_wp2_with fail
              go_meet
              exact⟨congrArg Value.bool (hfin.out true ⟨fun _=>by omega,fun _=>rfl⟩),rfl⟩
             ·by_cases c4:width<at_
              ·go_wp2_with fail
               go_meet
               exact⟨congrArg Value.bool (hfin.out true ⟨fun _=>by simp only[cond_false];omega,fun _=>rfl⟩),rfl⟩
              ·have c3b:0<=at_:=by omega
               have c4b:at_<=width:=by omega
               by_cases c5:width-at_<wd
               ·go_wp2_with fail
                go_meet
                exact⟨congrArg Value.bool (hfin.out true ⟨fun _=>by simp only[cond_false];omega,fun _=>rfl⟩),rfl⟩
               ·go_wp2_with fail
                go_meet
                exact⟨congrArg Value.bool (hfin.out false ⟨fun h=>(by cases h),fun h=>(by exfalso;apply h;simp only[cond_false];omega)⟩),rfl⟩
         case rest=>
          obtain⟨rfl,hwc⟩:=hcut
          subst wc
          by_cases h4:¬ (1<=wd/\wd<=64/\0<=at_/\at_<=(bif out then wd else width)-wd)
          ·have hs:=vH (hstop.out W1 6 hb01 (by rw[herr3.out,if_pos h4]) (by decide))
           have h4b:decide (¬ (1<=wd/\wd<=64/\0<=at_/\at_<=(bif out then wd else width)-wd))=true:=vT h4
           rw[h4b]
           clear h4 h4b
           go_wp2_with fail
           go_end0
           exact hs.out
          ·have h4b:decide (¬ (1<=wd/\wd<=64/\0<=at_/\at_<=(bif out then wd else width)-wd))=false:=vF h4
           have h5:=Classical.not_not.1 h4
           have herr4:Hid (zK qj nsA p=if(dps.any fun q=>zR q (R,F+at_,wd))=true then 7 else 0):=vH (by rw[herr3.out,if_neg h4])
           rw[h4b]
           have hat:at_<=64:=by
            have hdd:=hd2.out
            obtain⟨x1,x2,x3,x4⟩:=h5
            cases out <;> simp at hdd x4 <;> omega
           have hwd1:=h5.1
           have hwd2:=h5.2.1
           have hat0:=h5.2.2.1
           clear h4 h4b h5 herr3
           have hok:xT (R,F+at_,wd):=⟨by dsimp only;omega,by dsimp only;omega,hwd1,by dsimp only;omega⟩
           obtain⟨W2,hW2⟩:∃W2,W2=W1.alloc (.cells #[.int .i64 R,.int .i64 (F+at_),.int .i64 wd] 87):=⟨_,rfl⟩
           have hb2:BX W1 W2:=by rw[hW2];exact qi
           have hp2:qd W2 W1.heap.size 87 #[.int .i64 R,.int .i64 (F+at_),.int .i64 wd]:=by rw[hW2];exact qd.new _ _ _
           go_upto_region 19 with fail
           rw[←hW2]
           have hb02:BX wr W2:=hb01.trans (hb2.mono hb01.size)
           have hr2:=hr1.at_below hb2
           have hT2:=hT1.at_below hb2
           have hD2:=hD0.out.step hb02
           have hrowc:∀ (j:Nat) (q:Plc),dps[j]?=some q->∃g,da=some ⟨g,0,none⟩/\W2.cell? ⟨g,j*3,none⟩=some (.int .i64 q.1)/\W2.cell? ⟨g,j*3+1,none⟩=some (.int .i64 q.2.1)/\W2.cell? ⟨g,j*3+2,none⟩=some (.int .i64 q.2.2):=fun j q hq=>by
            have hjl:=(vS.1 hq).1
            have hdl:=hdone.out.2.1
            rcases hD2.row.2 with⟨_,h2⟩|⟨g,cap,cur,h1,_⟩
            ·omega
            ·unfold SlV.v at h1
             injection h1 with ea
             have hrow:=hD2.row
             unfold SlV.v at hrow
             dsimp only at hrow ea
             rw[ea] at hrow
             obtain⟨c0,c1,c2⟩:=jH hq
             exact⟨g,ea,qu hrow c0,qu hrow c1,qu hrow c2⟩
           replace hrowc:=vH hrowc
           replace hD2:=vH hD2
           replace hok:=vH hok
           have hdl:=hdone.out.2.1
           replace hdl:=vH hdl
           have p0:=hp2.cell (j:=0) (v:=.int .i64 R) rfl
           have p1:=hp2.cell (j:=1) (v:=.int .i64 (F+at_)) rfl
           have p2:=hp2.cell (j:=2) (v:=.int .i64 wd) rfl
           clear q1 q2 g2 f2 hW2
           obtain⟨wo,rfl⟩:∃wo:World,wo=wr:=⟨_,rfl⟩
           go_wp2_with fail
           go_loopw [17,18] (fun i _ W=>∃j:Nat,j<=dn/\i = .int .i64 j/\Hid (((dps.take j).any fun q=>zR q (R,F+at_,wd))=false)/\BX W2 W) (fun i _ _=>dn-(intOf i).toNat)
           case atStart=>exact⟨0,vO _,rfl,vH rfl,kB _ _⟩
           case round=>
            obtain⟨j,hj,rfl,hE,hBj⟩:=hrel
            have j0:(0:Int)<=j:=vN _
            by_cases hlt:j<dn
            ·obtain⟨q,hq⟩:∃q,dps[j]?=some q:=⟨dps[j]'(by have:=hdl.out;omega),vE _⟩
             obtain⟨g,hda,y0,y1,y2⟩:=hrowc.out j q hq
             have hqk:=hdone.out.1 q (vM hq)
             have j1:(j:Int)<dn:=by omega
             have s0:=qb hBj y0
             have s1:=qb hBj y1
             have s2:=qb hBj y2
             have t0:=qb hBj p0
             have t1:=qb hBj p1
             have t2:=qb hBj p2
             have hT3:=hT2.at_below hBj
             have g2:=hT3.cell (j:=2) (v:=.int .i64 0) rfl
             have KL:=fun W=>qjc q (R,F+at_,wd) W hqk hok.out
             have hbj2:=hb02.trans (hBj.mono hb02.size)
             obtain⟨x0,x1,x2⟩:=q
             dsimp only at KL s0 s1 s2
             subst hda
             clear y0 y1 y2 hqk
             cases hl:zR (x0,x1,x2) (R,F+at_,wd) with
             |true=>
              have hs:Hid (∀W,BX wr W->yA G ns ps (xC out deep root fr width sv 0 [] L) w (.returned (.tuple #[])) (W.setCell ⟨G,2,none⟩ (.int .i64 7))):=vH (fun W hW=>hstop.out W 7 (hbj2.trans (hW.mono hbj2.size)) (by
               rw[herr4.out,if_pos (yO (p:=fun q=>zR q (R,F+at_,wd)) hq hl)]) (by decide))
              rw[hl] at KL
              clear hl hq hE
              go_wp2_with fail
              go_region_held3 (fun w'=>w'.cell? ⟨g,j*3,none⟩=some (.int .i64 x0)/\w'.cell? ⟨g,j*3+1,none⟩=some (.int .i64 x1)/\w'.cell? ⟨g,j*3+2,none⟩=some (.int .i64 x2)/\w'.cell? ⟨W1.heap.size,0,none⟩=some (.int .i64 R)/\w'.cell? ⟨W1.heap.size,1,none⟩=some (.int .i64 (F+at_))/\w'.cell? ⟨W1.heap.size,2,none⟩=some (.int .i64 wd))
               (go_keep)
               ((go_at_call 51;refine(KL _).mono ?_;clear KL;rintro e W3 ⟨rfl,hb3⟩;have z0:=qb hb3 s0;have z1:=qb hb3 s1;have z2:=qb hb3 s2;have z3:=qb hb3 t0;have z4:=qb hb3 t1;have z5:=qb hb3 t2;have g3:=qb hb3 g2))
              have hb3':BX wr W3:=(kB _ _).drew.trans hb3
              have f3:=(hT3.at_below hb3').frozen 2
              go_wp2_with fail
              go_end0
              exact hs.out W3 hb3'
             |false=>
              have hE2:=vH (xR (p:=fun q=>zR q (R,F+at_,wd)) hE.out hq hl)
              rw[hl] at KL
              clear hl hq hE
              go_wp2_with fail
              go_region_held3 (fun w'=>w'.cell? ⟨g,j*3,none⟩=some (.int .i64 x0)/\w'.cell? ⟨g,j*3+1,none⟩=some (.int .i64 x1)/\w'.cell? ⟨g,j*3+2,none⟩=some (.int .i64 x2)/\w'.cell? ⟨W1.heap.size,0,none⟩=some (.int .i64 R)/\w'.cell? ⟨W1.heap.size,1,none⟩=some (.int .i64 (F+at_))/\w'.cell? ⟨W1.heap.size,2,none⟩=some (.int .i64 wd))
               (go_keep)
               ((go_at_call 51;refine(KL _).mono ?_;clear KL;rintro e W3 ⟨rfl,hb3⟩;have z0:=qb hb3 s0;have z1:=qb hb3 s1;have z2:=qb hb3 s2;have z3:=qb hb3 t0;have z4:=qb hb3 t1;have z5:=qb hb3 t2))
              go_wp2_with fail
              exact⟨⟨j+1,by omega,by go_num,hE2,hBj.trans (((kB _ _).drew.trans hb3).mono hBj.size)⟩,by simp[intOf];omega⟩
            ·have he0:Hid (zK qj nsA p=0):=vH (by rw[herr4.out,XO hE.out (by have:=hdl.out;omega)];rfl)
             have hD3:=hD2.out.step hBj
             have hr3:=hr2.at_below hBj
             have hp3:=hp2.at_below hBj
             clear hE hrowc hstop herr4
             have okw:=hG2.out.ok
             have hGw:=Nat.le_of_lt hG2.out.lt
             have hcnt:=hI2.out.cnt
             have hfewC:=Zb qj A ns hI2.out.fine hfew2
             rw[kA,vP] at hfewC
             have hdn200:dn<=200:=by omega
             have hrow3:wr.ownsRow w.heap.size 87 3 (.slice da dn dc) dn (qK dps):=hD3.row
             have hws3:=hD3.keeps.size
             have hrb:¬ zg [G] wr wo.heap.size:=zi hD0.out.geo.ok (hb02.trans (hBj.mono hb02.size)) (vL _)
             have hpb:¬ zg [G] wr W1.heap.size:=zi (hD0.out.step hb01).geo.ok (hb2.trans (hBj.mono hb2.size)) (vL _)
             have hdb:∀r,(Value.slice da dn dc).ownBlock=some r->r<wo.heap.size:=fun r e=>by
              obtain⟨_,cur,hc⟩:=qf (show wo.ownsRow w.heap.size 87 3 (.slice da dn dc) dn (qK dps) from hD0.out.row) e
              exact hc.lt
             have hW1s:=hb01.size
             have q0:=hp3.cell (j:=0) (v:=.int .i64 R) rfl
             have q1:=hp3.cell (j:=1) (v:=.int .i64 (F+at_)) rfl
             have q2:=hp3.cell (j:=2) (v:=.int .i64 wd) rfl
             obtain⟨i0,hi0,hz0,hz1,hz2⟩:=info_parts Yo
             replace hD3:=vH hD3
             clear hfewC hcnt
             go_upto_region 26 with(at_builtin;go_loud (refine wpList_append_own_at _ rfl _ _ 64 rfl w.heap.size 87 i0 _ 3 24 underlying64 hi0 hz0 hz1 hz2 rfl (by decide) _ dn (qK dps) rfl (hrow3.alloc _) ⟨wr.heap.size,0,none⟩ 1 1 [.int .i64 R,.int .i64 (F+at_),.int .i64 wd] rfl rfl (zo _ _ _ _ rfl) (by simp[Value.oneCell']) (by unfold maxLen;omega) (by omega) (by simp;omega) ?_;intro v' W4 hown4 hgrow4 _ hblk4;obtain⟨dg,dcap,rfl⟩:=ownsRow_succ hown4))
             have hD4:=qhx (P:=(R,F+at_,wd)) hD3.out okw hGw hown4 hgrow4 hblk4
             have hr4:=qeh hD3.out.geo.ok hgrow4 (fun r e=>hD3.out.free r e) hr3 hrb (fun e=>by have:=hdb _ e.symm;omega)
             have hp4:=qeh hD3.out.geo.ok hgrow4 (fun r e=>hD3.out.free r e) hp3 hpb (fun e=>by have:=hdb _ e.symm;omega)
             clear hown4 hgrow4 hblk4 hrow3 q0 q1 q2 hi0 hz0 hz1 hz2
             have ok4:=hD4.geo.ok
             obtain⟨nV4,pV4,hT4,hn4,hpl4⟩:=hD4.geo
             obtain⟨na4,nc4,rfl⟩:=qx hn4
             obtain⟨pa4,pc4,rfl⟩:=qx hpl4
             have hlenP:=hlenA.out
             have c0:=hT4.cell (j:=0) (v:=.slice na4 nsA.length nc4) rfl
             have f0:=hT4.frozen 0
             have hnr:=hT4.not_row (by decide) hn4
             have r40:=hr4.1.cell (j:=0) (v:=.string nm) rfl
             have pa0:=fun o=>qk o c0
             have par:=fun o=>qk o r40
             have hnG:=World.new_ne W4 _ c0
             have hT4':=vH hT4
             have hn4':=vH hn4
             have hG4:=hT4.lt
             replace hD4:=vH hD4
             replace hpl4:=vH hpl4
             replace hlenP:=vH hlenP
             obtain⟨i0,hi0,hz0,hz1,hz2⟩:=info_parts qcw
             go_region_law (go_loud (refine step_append_lies _ (by rfl) _ _ _ (by rfl) G 9 i0 _ 1 16 underlying25 hi0 hz0 hz1 hz2 rfl (by omega) (.slice na4 nsA.length nc4) nsA.length (nsA.map Value.string) (by rfl) ((hn4'.out.alloc _).drew) ⟨W4.heap.size,0,none⟩ 1 1 [.string nm] (by rfl) (by rfl) (World.news_of_block (cs:=#[.string nm]) (t:=9) (fr:=(0,0)) (heap_alloc_new W4 _)) (by simp[Value.oneCell']) (by omega) (by unfold maxLen;omega) (by omega) (by simp;omega) (W4.heap.size+1) (by simp) ?_;intro gg gcap W6 hown1 hgrow1 hat hlt6;have hT6:=(qd.drewS (hT4'.out.alloc _)).kept hgrow1 hnr;have f6:=hT6.frozen 0;have c6:=hT6.cell (j:=0) (v:=.slice na4 nsA.length nc4) rfl))
             all_goals
              have hgrow2:(W4.drew.alloc (.cells #[.string nm] 9)).grownBy W6 (Value.slice na4 nsA.length nc4).ownBlock:=hgrow1
              have hG1:=jc (v:=.slice na4 nsA.length nc4) hT4'.out (j:=0) rfl (by decide) (vL G) ((kB W4.heap.size W4).drew) hn4'.out hown1 hgrow2 (hat.elim (fun h=>.inl (by rw[h];rfl)) (fun h=>.inr (by rw[h];simp[Value.ownBlock])))
              clear hgrow2 hgrow1 hown1 hat hlt6 hT6 f6 c6 c0 f0 hnr r40 pa0 par hnG hi0 hz0 hz1 hz2 hn4 hn4' hT4
              generalize W6.setCell ⟨G,0,none⟩ (.slice (some ⟨gg,0,none⟩) (nsA.length+1) gcap)=W5 at hG1 ⊢
              have hT5:qd W5 G 141 #[.slice (some ⟨gg,0,none⟩) (nsA.length+1) gcap,.slice pa4 psA.length pc4,.int .i64 0]:=hG1.cells
              have hpl5:=hG1.rows _ _ _ _ _ hpl4.out (by decide) (by decide)
              have ok5:=hG1.keeps.ok ok4
              have hr5:=QS hG1.keeps ok4 hr4.1 hr4.2
              have hp5:=QS hG1.keeps ok4 hp4.1 hp4.2
              have hr5o:=hG1.keeps.own ok4 _ hr4.1.lt hr4.2
              have hp5o:=hG1.keeps.own ok4 _ hp4.1.lt hp4.2
              have c1:=hT5.cell (j:=1) (v:=.slice pa4 psA.length pc4) rfl
              have f1:=hT5.frozen 1
              have hnr5:=hT5.not_row (by decide) hpl5
              have q0:=hp5.cell (j:=0) (v:=.int .i64 R) rfl
              have q1:=hp5.cell (j:=1) (v:=.int .i64 (F+at_)) rfl
              have q2:=hp5.cell (j:=2) (v:=.int .i64 wd) rfl
              have pa1:=fun o=>qk o c1
              have hnG:=World.new_ne W5 _ c1
              have hT5':=vH hT5
              have hpl5':=vH hpl5
              have hG5:=hT5.lt
              have hps200:psA.length<=200:=by have:=hlenP.out;omega
              replace hG1:=vH hG1
              clear hT5 hpl5
              obtain⟨i0,hi0,hz0,hz1,hz2⟩:=info_parts Yo
              go_wp2_with fail
              go_region_law (refine step_append_lies _ (by rfl) _ _ _ (by rfl) G 87 i0 _ 3 24 underlying64 hi0 hz0 hz1 hz2 rfl (by omega) (.slice pa4 psA.length pc4) psA.length (qK psA) (by rfl) ((hpl5'.out.alloc _).drew) ⟨W5.heap.size,0,none⟩ 1 1 [.int .i64 R,.int .i64 (F+at_),.int .i64 wd] (by rfl) (by rfl) (World.news_of_block (cs:=#[.int .i64 R,.int .i64 (F+at_),.int .i64 wd]) (t:=87) (fr:=(0,0)) (heap_alloc_new W5 _)) (by simp[Value.oneCell']) (by omega) (by unfold maxLen;omega) (by omega) (by simp;omega) (W5.heap.size+1) (by simp) ?_;intro gg2 gcap2 W9 hown1 hgrow1 hat hlt6;have hT9:=(qd.drewS (hT5'.out.alloc _)).kept hgrow1 hnr5;have f9:=hT9.frozen 1;have c9:=hT9.cell (j:=1) (v:=.slice pa4 psA.length pc4) rfl)
              all_goals
               have hgrow2:(W5.drew.alloc (.cells #[.int .i64 R,.int .i64 (F+at_),.int .i64 wd] 87)).grownBy W9 (Value.slice pa4 psA.length pc4).ownBlock:=hgrow1
               have hG2b:=jc (v:=.slice pa4 psA.length pc4) hT5'.out (j:=1) rfl (by decide) (vL G) ((kB W5.heap.size W5).drew) hpl5'.out hown1 hgrow2 (hat.elim (fun h=>.inl (by rw[h];rfl)) (fun h=>.inr (by rw[h];simp[Value.ownBlock])))
               clear hgrow2 hgrow1 hown1 hat hlt6 hT9 f9 c9 c1 f1 hnr5 q0 q1 q2 pa1 hnG hi0 hz0 hz1 hz2
               generalize W9.setCell ⟨G,1,none⟩ (.slice (some ⟨gg2,0,none⟩) (psA.length+1) gcap2)=W7 at hG2b ⊢
               have hD7:=qfI (P:=(R,F+at_,wd)) hD4.out hG1.out hG2b
               have hr7:=QS hG2b.keeps ok5 hr5 hr5o
               have hp7:=QS hG2b.keeps ok5 hp5 hp5o
               have z1:=hr7.cell (j:=1) (v:=.int .i64 wd) rfl
               have z3:=hr7.cell (j:=3) (v:=.slice va subs.length vc) rfl
               have z4:=hp7.cell (j:=1) (v:=.int .i64 (F+at_)) rfl
               clear hG2b hr5 hp5 hr5o hp5o hr7 hp7
               have hsubT:subs.total<N:=by
                have h1:=hI2.out.tot
                simp only[qg.total] at h1
                omega
               have hd7':deep<=6:=by omega
               have KD:=ih false subs va vc G (deep+1) R (F+at_) wd (.slice va subs.length vc) (nsA++[nm]) (psA++[(R,F+at_,wd)]) W7 hsubT rfl hvc (by omega) (hvs.out.imp id fun⟨b',o',h1,h2⟩=>⟨b',o',h1,qB.of (fun b j v hb hv=>(hD7.below.cell (p:=⟨b,j,none⟩) hb).trans hv) h2⟩)
                hD7.geo (by simp[hlenP.out]) (by
                 have h9:nsA.length≠200:=fun h200=>Yu (nm:=qj) (p:=p) h200 he0.out
                 simp;omega) (by
                 simp only[cond_false]
                 have hdd:=hd2.out
                 refine⟨by omega,by omega,by omega,?_,by omega,by omega⟩
                 have hF':=hF.out
                 cases out <;> simp at hdd hF' <;> omega)
               rw[qbZ] at KD
               have hclose:∀e W8,yA G (nsA++[nm]) (psA++[(R,F+at_,wd)]) B W7 e W8->qgM out G w deep root fr width sv (some ⟨b,o,none⟩) L ns ps (.int .i64 R) (.int .i64 F) (.slice (some ⟨dg,0,none⟩) (dn+1) dcap) (.int .i64 ((dn:Int)+1)) W8:=fun e W8 h8=>by
                have hR':=hR.out
                have hF':=hF.out
                have hn':=hnsA.out
                have hp':=hpsA.out
                subst hR' hF' hn' hp'
                exact qfJ (dV':=⟨some ⟨dg,0,none⟩,dn+1,dcap⟩) hI2.out hp.out hsaid.out he0.out hD7 hok.out h8 _ _ ⟨_,_,rfl,rfl,fun h=>by subst h;exact⟨rfl,rfl⟩⟩
               have hBe:B=zG (deep+1) R (F+at_) wd (.slice va subs.length vc) 0 [] subs:=by rw[hB.out,hR.out,hF.out]
               rw[←hBe] at KD
               replace hclose:=vH hclose
               clear hBe hD7 hd7'
               go_wp2_with (go_at_call 98;go_loud (refine KD.mono ?_;clear KD;intro e W8 hpost;have hfin:=vH (hclose.out e W8 hpost);have he:=hpost.1;clear hpost;subst he))
               exact⟨hfin.out,by simp[intOf];omega⟩
  ·obtain⟨nV,pV,hT⟩:=hbad
   have c2:=hT.cell (j:=2) (v:=.int .i64 (qw qj ns (xC out deep root fr width sv 0 [] L))) rfl
   have hfin:yA G ns ps (xC out deep root fr width sv 0 [] L) w (.returned (.tuple #[])) wr:=⟨rfl,hB,hK,fun h=>absurd h hne,fun _=>⟨nV,pV,hT⟩⟩
   replace hfin:=vH hfin
   have hz:(qw qj ns (xC out deep root fr width sv 0 [] L)==0)=false:=by simpa using hne
   generalize qw qj ns (xC out deep root fr width sv 0 [] L)=x at c2 hz
   clear hT hne hB hK
   by_cases hlt:k<L.length
   all_goals
    go_wp2_with fail
    go_end0
    exact hfin.out
def qcS(w:World)(L:qg)(e:Ending)(w':World):Prop:=
 BX w w' /\
 (qw qj [] (qH 0 L)=0->∃nV pV:SlV,e = .returned (.tuple #[.slice nV.a nV.n nV.c,.slice pV.a pV.n pV.c,.int .i64 0])/\w'.ownsRow w.heap.size 9 1 nV.v ((qo 0 L).map (·.name)).length (((qo 0 L).map (·.name)).map Value.string) /\
   w'.ownsRow w.heap.size 87 3 pV.v ((qo 0 L).map qA.place).length (qK ((qo 0 L).map qA.place))) /\
 (qw qj [] (qH 0 L)≠0->e = .returned (.tuple #[.slice none 0 0,.slice none 0 0,.int .i64 (qw qj [] (qH 0 L))]))
theorem qhy(a:Option Addr)(c:Nat)(L:qg)(w:World)(hcap:L.length<=c)(hbig:L.length<=4611686018427387904)(hL:L = .nil∨∃b o,a=some ⟨b,o,none⟩/\qB w.heap.size w b o L) :
 Calls prog 48 #[.slice a L.length c] w (qcS w L):=by
 obtain⟨W0,hW0⟩:∃W0,W0=w.alloc (.cells #[.slice none 0 0,.slice none 0 0,.int .i64 0] 141):=⟨_,rfl⟩
 have hb0:BX w W0:=by rw[hW0];exact qi
 have hT0:qd W0 w.heap.size 141 #[.slice none 0 0,.slice none 0 0,.int .i64 0]:=by rw[hW0];exact qd.new _ _ _
 have hg0:Qd w.heap.size [] [] W0:=⟨_,_,hT0,kO _ _ _ _,kO _ _ _ _⟩
 have K:=qkv (L.total+1) true L a c w.heap.size 1 0 0 0 (.slice a L.length c) [] [] W0 (Nat.lt_succ_self _) rfl hcap hbig
  (hL.imp id fun⟨b,o,h1,h2⟩=>⟨b,o,h1,qB.of (fun b j v hb hv=>(hb0.cell (p:=⟨b,j,none⟩) hb).trans hv) h2⟩) hg0 rfl (vO _) rfl
 rw[qaL] at K
 have hfst:=zz L 0
 have hnames:(qH 0 L).map (fun p=>p.1.name)=(qo 0 L).map (·.name):=by rw[←hfst,List.map_map];rfl
 have hplaces:(qH 0 L).map (fun p=>p.1.place)=(qo 0 L).map qA.place:=by rw[←hfst,List.map_map];rfl
 unfold yA at K
 rw[hnames,hplaces,List.nil_append,List.nil_append] at K
 have hP:∀ (e:Ending) (W1:World),(∀n:Nat,BX w (W1.drewN n))->∀n:Nat,(qw qj [] (qH 0 L)=0->∃nV pV:SlV,e = .returned (.tuple #[.slice nV.a nV.n nV.c,.slice pV.a pV.n pV.c,.int .i64 0])/\(W1.drewN n).ownsRow w.heap.size 9 1 nV.v ((qo 0 L).map (·.name)).length (((qo 0 L).map (·.name)).map Value.string) /\
  (W1.drewN n).ownsRow w.heap.size 87 3 pV.v ((qo 0 L).map qA.place).length (qK ((qo 0 L).map qA.place)))->(qw qj [] (qH 0 L)≠0->e = .returned (.tuple #[.slice none 0 0,.slice none 0 0,.int .i64 (qw qj [] (qH 0 L))]))->qcS w L e (W1.drewN n):=fun e W1 h0 n h1 h2=>⟨h0 n,h1,h2⟩
 generalize qw qj [] (qH 0 L)=x at *
 generalize(qo 0 L).map (·.name)=ns at *
 generalize(qo 0 L).map qA.place=ps at *
 replace hP:=vH hP
 replace hW0:=vH hW0
 clear hL hfst hnames hplaces hT0 hg0
 go_enter func48,ntmps48
 go_upto_region 2 with fail
 rw[←hW0.out]
 go_wp2_with fail
 go_at_call 98
 refine K.mono ?_
 clear K
 rintro e W1 ⟨rfl,hb1,_,hgood,hbad⟩
 have hB:BX w W1:=hb0.trans hb1
 by_cases hx:x=0
 ·obtain⟨nV,pV,hT,hn,hp⟩:=hgood hx
  obtain⟨na,nc,rfl⟩:=qx hn
  obtain⟨pa,pc,rfl⟩:=qx hp
  have c0:=hT.cell (j:=0) (v:=.slice na ns.length nc) rfl
  have c1:=hT.cell (j:=1) (v:=.slice pa ps.length pc) rfl
  have c2:=hT.cell (j:=2) (v:=.int .i64 0) rfl
  have hfin:=hP.out (.returned (.tuple #[.slice na ns.length nc,.slice pa ps.length pc,.int .i64 0])) W1 (fun n=>below_drewN hB n)
  replace hfin:=fun n=>hfin n (fun _=>⟨⟨na,ns.length,nc⟩,⟨pa,ps.length,pc⟩,rfl,qe hn (below_drewN (kB _ _) n),qe hp (below_drewN (kB _ _) n)⟩) (fun h=>absurd hx h)
  replace hfin:=vH hfin
  clear hgood hbad hT hn hp hx
  go_wp2_with fail
  go_quiet (fail)
  go_wp2_with fail
  go_ret3
  exact hfin.out _
 ·obtain⟨nV,pV,hT⟩:=hbad hx
  have c2:=hT.cell (j:=2) (v:=.int .i64 x) rfl
  have hx2:(x==0)=false:=by simpa using hx
  have hx3:(x != 0)=true:=by simpa using hx
  have hfin:=hP.out (.returned (.tuple #[.slice none 0 0,.slice none 0 0,.int .i64 x])) W1 (fun n=>below_drewN hB n)
  replace hfin:=fun n=>hfin n (fun h=>absurd h hx) (fun _=>rfl)
  replace hfin:=vH hfin
  clear hgood hbad hT hx
  go_wp2_with fail
  go_quiet (fail)
  go_wp2_with fail
  go_ret3
  exact hfin.out _
structure Zc(w:World)(m:MV)(d:qz):Prop where
 kls:qS w m.classes d.classes
 ops:jP w m.ops d.ops
 args:qG w m.args d.args
 saved:qG w m.saved d.saved
 res:m.result=d.result
 sl:m.slots=d.slots
 kb:d.classes.length<=140737488355328
 ob:d.ops.length<=140737488355328
 ab:d.args.length<=140737488355328
 sb:d.saved.length<=140737488355328
 rb:∀k:qp,k∈d.classes->k.regs.length<=140737488355328
 cb:∀o:OpD,o∈d.ops->o.clob.length<=140737488355328
 ub:∀o:OpD,o∈d.ops->o.uses.length<=140737488355328
structure jn(w0 w:World)(T:Nat)(t:TV)(d:qz)(ns:List ByteArray)(ps:List Plc):Prop where
 below:BX w0 w
 base:w0.heap.size<=T
 tab:TabAt w T t
 names:w.ownsRow w0.heap.size 9 1 t.names.v ns.length (ns.map Value.string)
 places:w.ownsRow w0.heap.size 87 3 t.places.v ps.length (qK ps)
 few:ns.length<=200
 same:ps.length=ns.length
 ok:∀p,p∈ps->xT p
 inp:Zc w0 t.m d
theorem jn.step{w0 w w':World}{T:Nat}{t:TV}{d:qz}{ns:List ByteArray}{ps:List Plc}(h:jn w0 w T t d ns ps)(hb:BX w w'):jn w0 w' T t d ns ps:=
 { h with below:=h.below.trans (hb.mono h.below.size),tab:=qd.at_below h.tab hb,names:=qe h.names hb,places:=qe h.places hb }
theorem jn.grown{w0 W W7:World}{T j:Nat}{t t':TV}{d:qz}{ns:List ByteArray}{ps:List Plc}{e:TypeId}{size m:Nat}{v':Value}{ys:List Value}(h:jn w0 W T t d ns ps)(hG:ZZ w0.heap.size T j 67 e size t.cells v' m ys W W7)
 (hc:t'.cells=t.cells.setIfInBounds j v') (hm:t'.m=t.m) (hn:t'.names=t.names) (hp:t'.places=t.places) (e1:9≠e) (e2:87≠e):jn w0 W7 T t' d ns ps:=by
 refine⟨h.below.trans hG.below,h.base,?_,?_,?_,h.few,h.same,h.ok,by rw[hm];exact h.inp⟩
 ·show qd W7 T 67 t'.cells
  rw[hc];exact hG.cells
 ·rw[hn];exact yH hG h.tab h.names e1 (by decide)
 ·rw[hp];exact yH hG h.tab h.places e2 (by decide)
theorem jn.placesAt{w0 w:World}{T:Nat}{t:TV}{d:qz}{ns:List ByteArray}{ps:List Plc}(h:jn w0 w T t d ns ps):xg w t.cv ps:=by
 have hf:=h.few
 have hs:=h.same
 have hrow:=h.places
 have ea:t.cv.places=t.places:=rfl
 rcases hrow.2 with⟨h1,h2⟩|⟨g,cap,cur,h1,h2,h3,h4,_⟩
 ·unfold SlV.v at h1
  injection h1 with e1 e2 e3
  have hl:ps = []:=vJ.1 (by omega)
  subst hl
  exact⟨h.ok,by rw[ea];simp;omega,by rw[ea];omega,by rw[ea];omega,fun i p hp=>by simp at hp⟩
 ·unfold SlV.v at h1
  injection h1 with e1 e2 e3
  refine⟨h.ok,by rw[ea];omega,by rw[ea];omega,by rw[ea];omega,fun i p hp=>⟨g,0,by rw[ea];exact e1,?_⟩⟩
  rw[Nat.zero_add]
  have hv:t.places.v = .slice (some ⟨g,0,none⟩) t.places.n t.places.c:=by unfold SlV.v;rw[e1]
  rw[hv] at hrow
  obtain⟨q0,q1,q2⟩:=jH hp
  exact⟨qu hrow q0,qu hrow q1,qu hrow q2⟩
theorem jn.tabOk{w0 w:World}{T:Nat}{t:TV}{d:qz}{ns:List ByteArray}{ps:List Plc}{cls:List (List Int)}(h:jn w0 w T t d ns ps)(hl:zW w t.classes cls):jy w T t d ns ps cls where
 tab:=h.tab
 names:=qG.of_row h.names rfl
 places:=h.placesAt
 len:=h.same.symm
 few:=by have:=h.few;have:=h.same;omega
 kls:=h.inp.kls.below h.below
 ops:=h.inp.ops.below h.below
 args:=h.inp.args.below h.below
 saved:=h.inp.saved.below h.below
 res:=h.inp.res
 sl:=h.inp.sl
 kb:=h.inp.kb
 ob:=h.inp.ob
 ab:=h.inp.ab
 sb:=h.inp.sb
 rb:=h.inp.rb
 cb:=h.inp.cb
 ub:=h.inp.ub
 lists:=hl
def XI(w0:World)(T:Nat)(t:SlV->TV)(d:qz)(ns:List ByteArray)(ps:List Plc)(e:Ending)(w':World):Prop:=
 e = .returned (.int .i64 (qy qj ns ps d.classes))/\BX w0 w'/\(qy qj ns ps d.classes=0->∃cV,jn w0 w' T (t cV) d ns ps/\zC w0 w' cV (qr ns d.classes))
def qal(ns:List ByteArray)(ps:List Plc)(l:List ByteArray)(j:Nat)(x:ByteArray):Bool:=
 decide (qv ns x<0)||(qh ns (l.take j)).contains (qv ns x)||(decide (0<j)&&decide ((plc ps (qv ns x)).2.2≠(plc ps ((qh ns l).headD 0)).2.2))
theorem qfK{ns:List ByteArray}{ps:List Plc}{l:List ByteArray}{j:Nat}{x:ByteArray} : qal ns ps l j x=false↔JR ns ps l j x:=by
 unfold qal JR
 simp only[Bool.or_eq_false_iff,Bool.and_eq_false_iff,decide_eq_false_iff_not]
 constructor
 ·rintro⟨⟨h1,h2⟩,h3⟩
  exact⟨by omega,h2,fun h=>Classical.not_not.1 (h3.resolve_left (fun h4=>h4 h))⟩
 ·rintro⟨h1,h2,h3⟩
  refine⟨⟨by omega,h2⟩,?_⟩
  by_cases h:0<j
  ·exact .inr (fun h4=>h4 (h3 h))
  ·exact .inl h
theorem qfL(T:Nat)(mn rs:ByteArray)(rg op ar sv:SlV)(ka:Option Addr)(kn kc:Nat)(sl:Int)(nV pV:SlV)(d:qz)(ns:List ByteArray)(ps:List Plc)(w0 w:World)
 (hS:jn w0 w T ⟨⟨mn,rg,⟨ka,kn,kc⟩,op,ar,rs,sv,sl⟩,nV,pV,⟨none,0,0⟩⟩ d ns ps) :
 Calls prog 49 #[.pointer (some ⟨T,0,none⟩)] w (XI w0 T (fun cV=>⟨⟨mn,rg,⟨ka,kn,kc⟩,op,ar,rs,sv,sl⟩,nV,pV,cV⟩) d ns ps):=by
 have hK:=hS.inp.kls
 have hkn:=hK.1
 have hkc:=hK.2.1
 dsimp only at hkn hkc
 have c2:=qd.cell hS.tab (j:=2) (v:=.slice ka kn kc) rfl
 have hB0:=hS.below
 have hkb:=hS.inp.kb
 by_cases hlong:(64:Int)<kn
 ·have hr:Hid (qy qj ns ps d.classes=2):=vH (by unfold qy;rw[if_pos (by omega)])
  clear hK hS hkn
  go_enter func49,ntmps49
  go_wp2_with fail
  go_ret
  exact⟨qI hr.out.symm,hB0,fun h=>by rw[hr.out] at h;cases h⟩
 ·have hr:Hid (qy qj ns ps d.classes=zA qj ns ps [] d.classes):=vH (by unfold qy;rw[if_neg (by omega)])
  have hrb:=hS.inp.rb
  obtain⟨cs,hcs⟩:∃cs,cs=d.classes:=⟨_,rfl⟩
  rw[←hcs] at hK hkn hr hrb
  have hfinP:∀e W,XI w0 T (fun cV=>⟨⟨mn,rg,⟨ka,kn,kc⟩,op,ar,rs,sv,sl⟩,nV,pV,cV⟩) d ns ps e W↔(e = .returned (.int .i64 (qy qj ns ps cs))/\BX w0 W/\(qy qj ns ps cs=0->∃cV,jn w0 W T ⟨⟨mn,rg,⟨ka,kn,kc⟩,op,ar,rs,sv,sl⟩,nV,pV,cV⟩ d ns ps/\zC w0 W cV (qr ns cs))):=fun e W=>by
   rw[hcs];exact Iff.rfl
  have hkn':=vH hkn
  have hK2:=vH hK
  have hS2:=vH hS
  replace hrb:=vH hrb
  replace hfinP:=vH hfinP
  replace hcs:=vH hcs
  have kn0:(0:Int)<=kn:=vN _
  have kn64:kn<=64:=by omega
  clear hK hS hkn
  go_enter func49,ntmps49
  go_wp2_with fail
  go_loopw [3] (fun i wr=>∃ (k:Nat) (cV:SlV),k<=kn/\i = .int .i64 k/\jn w0 wr T ⟨⟨mn,rg,⟨ka,kn,kc⟩,op,ar,rs,sv,sl⟩,nV,pV,cV⟩ d ns ps/\zC w0 wr cV (qr ns (cs.take k))/\Hid (zA qj ns ps [] cs=zA qj ns ps (cs.take k) (cs.drop k))) (fun i _=>kn-(intOf i).toNat)
  case atStart=>exact⟨0,⟨none,0,0⟩,vO _,rfl,hS2.out,zC.nil _ _,vH rfl⟩
  case round=>
   obtain⟨k,cV,hk,rfl,hS,hL,hT⟩:=hrel
   have k0:(0:Int)<=k:=vN _
   have hBr:=hS.below
   have c2r:=qd.cell hS.tab (j:=2) (v:=.slice ka kn kc) rfl
   by_cases hlt:k<kn
   ·obtain⟨x,hx⟩:∃x,cs[k]?=some x:=⟨cs[k]'(by have:=hkn'.out;omega),vE _⟩
    obtain⟨b,o,hka,r,hc0,hc1,hcr⟩:=hK2.out.2.2 k x hx
    dsimp only at hka
    have hmem:=vM hx
    have hrx:=hrb.out x hmem
    obtain⟨ra,rnn,rc⟩:=r
    have hrn:=hcr.1
    have hrc:=hcr.2.1
    dsimp only at hrn hrc hc1
    subst hrn
    have k1:(k:Int)<kn:=by omega
    have e0:=qb hBr hc0
    have e1:=qb hBr hc1
    have hT2:=vH (hT.out.trans (Jf qj ns ps cs k x hx))
    obtain⟨W0,hW0⟩:∃W0,W0=wr.alloc (.cells #[.string x.name,.slice ra x.regs.length rc] 42):=⟨_,rfl⟩
    have hb0:BX wr W0:=by rw[hW0];exact qi
    have hbx:qd W0 wr.heap.size 42 #[.string x.name,.slice ra x.regs.length rc]:=by rw[hW0];exact qd.new _ _ _
    have hS0:=hS.step hb0
    have hL0:=hL.below hb0
    have hO0:=hS0.tabOk hL0.lists
    have hA0:BX w0 W0:=hBr.trans (hb0.mono hBr.size)
    have hcr0:=hcr.below hA0
    have hno:∀ (W:World) (c:Int),BX w0 W->c≠0->zT qj ns ps (cs.take k) x=c->XI w0 T (fun cV=>⟨⟨mn,rg,⟨ka,kn,kc⟩,op,ar,rs,sv,sl⟩,nV,pV,cV⟩) d ns ps (.returned (.int .i64 c)) W:=fun W c hW hc he=>by
     have h:qy qj ns ps cs=c:=by rw[hr.out,hT2.out,he,if_neg hc]
     exact(hfinP.out _ _).2 ⟨qI h.symm,hW,fun h0=>by rw[h] at h0;exact absurd h0 hc⟩
    have hidx:=ZJ (p:=fun y:qp=>eqB y.name x.name) hx (by simp[eqB])
    have KC:=QD T _ cs x.name W0 hO0.tab (by rw[hcs.out];exact hO0.kls) hO0.kbig
    have KR:=ZN T _ ns x.name W0 hO0.tab hO0.names hO0.nbig
    have hce:zT qj ns ps (cs.take k) x=if(!qj x.name||decide (0<=zM (fun y:qp=>eqB y.name x.name) (cs.take k))||decide (0<=qv ns x.name))=true then 5 else if zw ns ps x=true then 0 else 8:=rfl
    have hci:decide (0<=zM (fun y:qp=>eqB y.name x.name) (cs.take k))=decide (zM (fun y:qp=>eqB y.name x.name) cs<(k:Int)):=by
     rw[Bool.eq_iff_iff,decide_eq_true_iff,decide_eq_true_iff];exact hidx.symm
    rw[hci] at hce
    generalize zM (fun y:qp=>eqB y.name x.name) cs=ci at KC hce
    generalize qv ns x.name=rn at KR hce
    replace hce:=vH hce
    replace hno:=vH hno
    replace hW0:=vH hW0
    replace hS0:=vH hS0
    replace hL0:=vH hL0
    replace hO0:=vH hO0
    replace hcr0:=vH hcr0
    replace hx:=vH hx
    have x0:=hbx.cell (j:=0) (v:=.string x.name) rfl
    have x1:=hbx.cell (j:=1) (v:=.slice ra x.regs.length rc) rfl
    subst hka
    clear hci hidx hcr hc0 hc1 hT hS hL hmem
    go_upto_region 8 with(go_at_call 47;refine(XH x.name _).mono ?_;rintro e W1 ⟨rfl,rfl⟩)
    rw[←hW0.out]
    go_cut [5,53] from 34 to 53 (fun _ s Wx=>s = .bool (!qj x.name||decide (ci<(k:Int))||decide (0<=rn))/\Wx=W0)
    case first=>
     cases hnb:qj x.name with
     |false=>
      go_wp2_with fail
      go_meet
      exact⟨by simp[hnb],rfl⟩
     |true=>
      by_cases h1:ci<(k:Int)
      ·go_wp2_with (first|(go_at_call 99;refine KC.mono ?_;clear KC;rintro e W1 ⟨rfl,rfl⟩)|(go_at_call 24;refine KR.mono ?_;clear KR;rintro e W1 ⟨rfl,rfl⟩))
       go_meet
       exact⟨by simp[hnb,h1],rfl⟩
      ·by_cases h2:0<=rn
       all_goals
        go_wp2_with (first|(go_at_call 99;refine KC.mono ?_;clear KC;rintro e W1 ⟨rfl,rfl⟩)|(go_at_call 24;refine KR.mono ?_;clear KR;rintro e W1 ⟨rfl,rfl⟩))
        go_meet
        exact⟨by rw[hnb,vF (show ¬ ci<(k:Int) by omega)];simp[h2],rfl⟩
    case rest=>
     obtain⟨rfl,hwc⟩:=hcut
     subst wc
     clear KC KR
     cases hb5:(!qj x.name||decide (ci<(k:Int))||decide (0<=rn)) with
     |true=>
      have hfin:=vH (hno.out W0 5 hA0 (by decide) (by rw[hce.out,hb5];rfl))
      clear hb5
      go_wp2_with fail
      go_ret
      exact hfin.out
     |false=>
      have hce2:Hid (zT qj ns ps (cs.take k) x=if zw ns ps x=true then 0 else 8):=vH (by rw[hce.out,hb5];rfl)
      have hiff:=vH (Ji ns ps x)
      clear hb5 hce
      by_cases h64:(64:Int)<x.regs.length∨(x.regs.length:Int)<1
      ·have hfin:=vH (hno.out W0 8 hA0 (by decide) (by
        rw[hce2.out,if_neg]
        intro hf
        have:=(hiff.out.1 hf).1
        omega))
       have hz:x.regs.length=0∨64<x.regs.length:=by omega
       rcases hz with hz|hz
       ·have hz2:(x.regs.length:Int)<1:=by omega
        clear h64 hz
        go_wp2_with fail
        go_ret
        exact hfin.out
       ·have hz2:(64:Int)<x.regs.length:=by omega
        have hz3:¬ (x.regs.length:Int)<1:=by omega
        clear h64 hz
        go_wp2_with fail
        go_ret
        exact hfin.out
      ·have hz2:¬ (64:Int)<x.regs.length:=by omega
       have hz3:¬ (x.regs.length:Int)<1:=by omega
       have hl64:x.regs.length<=64:=by omega
       have hl1:1<=x.regs.length:=by omega
       clear h64
       obtain⟨wo,rfl⟩:∃wo:World,wo=wr:=⟨_,rfl⟩
       go_wp2_with fail
       go_loopw [6,7] (fun lv j W=>∃ (q:Nat) (s:SlV),q<=x.regs.length/\j = .int .i64 q/\lv = .slice s.a s.n s.c/\Hid (W.ownsRow W0.heap.size 3 1 s.v (qh ns (x.regs.take q)).length ((qh ns (x.regs.take q)).map (Value.int .i64)))/\Hid (∀ (j':Nat) (y:ByteArray),j'<q->x.regs[j']?=some y->JR ns ps x.regs j' y)/\BX W0 W) (fun _ j _=>x.regs.length-(intOf j).toNat)
       case atStart=>exact⟨0,⟨none,0,0⟩,vO _,rfl,rfl,vH (kO _ _ _ _),vH (fun j' y h=>absurd h (Nat.not_lt_zero _)),kB _ _⟩
       case round=>
        obtain⟨q,⟨la,ln,lc⟩,hq,rfl,rfl,hrow,hG,hBq⟩:=hrel
        have q0:(0:Int)<=q:=vN _
        have hrl:(qh ns (x.regs.take q)).length=q:=by unfold qh;rw[vP,List.length_take];omega
        have hln:ln=q:=by
         obtain⟨a',c',h⟩:=qx hrow.out
         unfold SlV.v at h;injection h with _ h2
         have h3:ln=(qh ns (x.regs.take q)).length:=h2
         omega
        subst hln
        have y0:=qb hBq x0
        have y1:=qb hBq x1
        by_cases hlq:ln<x.regs.length
        ·obtain⟨y,hy⟩:∃y,x.regs[ln]?=some y:=⟨x.regs[ln],by rw[vE hlq]⟩
         obtain⟨br,obr,hra,hcy⟩:=hcr0.out.2.2 ln y hy
         dsimp only at hra
         have ey:=qb hBq hcy
         have hOq:=hO0.out.below hBq
         have KR:=ZN T _ ns y wr hOq.tab hOq.names hOq.nbig
         have hrr:=zO ns y
         have hq1:(ln:Int)<x.regs.length:=by omega
         have hIat:=qJ.of_row hrow.out (by rw[hrl])
         have hLsn:qh ns (x.regs.take (ln+1))=qh ns (x.regs.take ln)++[qv ns y]:=by
          unfold qh
          rw[vX,hy,kM];rfl
         have hLt:qh ns (x.regs.take ln)=(qh ns x.regs).take ln:=ym ns x.regs ln
         have hgi:=qfK (ns:=ns) (ps:=ps) (l:=x.regs) (j:=ln) (x:=y)
         have hbadE:qal ns ps x.regs ln y=(decide (qv ns y<0)||(qh ns (x.regs.take ln)).contains (qv ns y)||(decide (0<ln)&&decide ((plc ps (qv ns y)).2.2≠(plc ps ((qh ns x.regs).headD 0)).2.2))):=rfl
         have hh0:0<ln->∃z,(qh ns (x.regs.take ln))[0]?=some z/\z=(qh ns x.regs).headD 0/\Num ps z:=fun h=>by
          obtain⟨y0,hy0⟩:∃y0,x.regs[0]?=some y0:=⟨x.regs[0]'(by omega),vE _⟩
          have hg0:=hG.out 0 y0 h hy0
          have hrr0:=zO ns y0
          have hlen:=hOq.len
          refine⟨qv ns y0,?_,?_,hg0.1,by omega⟩
          ·unfold qh;rw[vY,List.getElem?_take_of_lt h,hy0];rfl
          ·unfold qh
           cases hxr:x.regs with
           | nil=>rw[hxr] at hy0;cases hy0
           | cons a l=>rw[hxr] at hy0;cases hy0;rfl
         have hlen:=hOq.len
         have hPl:=hOq.places
         have c9:=qd.cell hOq.tab (j:=9) (v:=.slice pV.a pV.n pV.c) rfl
         generalize qal ns ps x.regs ln y=bad at *
         generalize qh ns (x.regs.take ln)=LL at *
         generalize(qh ns x.regs).headD 0=z0 at *
         generalize qv ns y=ry at *
         have hrow2:wr.ownsRow W0.heap.size 3 1 (.slice la ln lc) ln (LL.map (Value.int .i64)):=by
          have:=hrow.out;rw[hrl] at this;exact this
         have hIat2:qJ wr ⟨la,ln,lc⟩ LL:=hIat
         have KI:=fun n=>qjb ⟨la,ln,lc⟩ LL ry (wr.drewN n) (hIat2.below (below_drewN (kB _ _) n)) (by dsimp only;omega)
         dsimp only at KI
         subst hra
         replace hbadE:=vH hbadE
         replace hgi:=vH hgi
         replace hLsn:=vH hLsn
         replace hLt:=vH hLt
         replace hPl:=vH hPl
         replace hh0:=vH hh0
         replace hrl:=vH hrl
         replace hlen:=vH hlen
         replace hIat2:=vH hIat2
         replace hrow2:=vH hrow2
         replace hy:=vH hy
         clear hrow hIat hOq
         go_upto_region 17 with(go_at_call 24;refine KR.mono ?_;clear KR;rintro e W1 ⟨rfl,rfl⟩)
         go_cut [109] from 78 to 109 (fun s Wx=>s = .bool bad/\BX wr Wx)
         case first=>
          by_cases h1:ry<0
          ·have hb:Hid (bad=true):=vH (by rw[hbadE.out,vT h1];rfl)
           go_quiet (fail)
           go_wp2_with fail
           go_meet
           exact⟨by rw[hb.out],below_drewN (kB _ _) _⟩
          ·obtain⟨i,rfl⟩:∃i:Nat,ry=i:=⟨ry.toNat,by omega⟩
           have i0:(0:Int)<=i:=vN _
           have d1:decide ((i:Int)<0)=false:=vF h1
           cases hc:LL.contains (i:Int) with
           |true=>
            have hb:Hid (bad=true):=vH (by rw[hbadE.out,hc];simp)
            have KI2:∀n,Calls prog 54 #[.slice la ln lc,.int .i64 i] (wr.drewN n) fun e w'=>e = .returned (.bool true)/\wr.drewN n=w':=fun n=>by have:=KI n;rw[hc] at this;exact this
            clear hc KI
            go_quiet ((go_at_call 54;exact Calls.quiet_of_same ((KI2 _).mono fun _ _ ⟨he,hw⟩=>⟨he,hw.symm⟩)))
            go_wp2_with fail
            go_meet
            exact⟨by rw[hb.out],below_drewN (kB _ _) _⟩
           |false=>
            have KI2:∀n,Calls prog 54 #[.slice la ln lc,.int .i64 i] (wr.drewN n) fun e w'=>e = .returned (.bool false)/\wr.drewN n=w':=fun n=>by have:=KI n;rw[hc] at this;exact this
            by_cases h3:0<ln
            ·obtain⟨z,hz,hze,hnz⟩:=hh0.out h3
             obtain⟨b9,o9,ha9,p0,p1,p2⟩:=hPl.out.at_ i (plc ps (i:Int)) (Num.get (r:=(i:Int)) ⟨i0,by have:=hrr.2;have:=hlen.out;omega⟩)
             obtain⟨b9',o9',ha9',q0',q1',q2'⟩:=hPl.out.at_ z.toNat (plc ps z) hnz.get
             have hpl:=hPl.out.len
             obtain⟨iz,rfl⟩:∃iz:Nat,z=iz:=⟨z.toNat,by have:=hnz.1;omega⟩
             have iz0:(0:Int)<=iz:=vN _
             have ea:∀cV',TV.cv ⟨⟨mn,rg,⟨some ⟨b,o,none⟩,kn,kc⟩,op,ar,rs,sv,sl⟩,nV,pV,cV'⟩=TV.cv ⟨⟨mn,rg,⟨some ⟨b,o,none⟩,kn,kc⟩,op,ar,rs,sv,sl⟩,nV,pV,cV'⟩:=fun _=>rfl
             change pV.n=ps.length at hpl
             change pV.a=some _ at ha9 ha9'
             rw[ha9] at ha9'
             cases ha9'
             obtain⟨bl,ol,hla,hcl⟩:=hIat2.out.2.2 0 _ hz
             dsimp only at hla
             simp only[Nat.add_zero,Int.toNat_natCast] at hcl q2'
             have i1:i<pV.n:=by have:=hrr.2;have:=hlen.out;omega
             have i2:(i:Int)<pV.n:=by omega
             have iz1:iz<pV.n:=by have:=hnz.2;omega
             have iz2:(iz:Int)<pV.n:=by omega
             have d3:decide ((0:Int)<ln)=true:=vT (by omega)
             have h3i:(0:Int)<ln:=by omega
             have hb:Hid (bad=decide ((plc ps (i:Int)).2.2≠(plc ps (iz:Int)).2.2)):=vH (by rw[hbadE.out,d1,hc,vT h3,hze];rfl)
             generalize(plc ps (i:Int)).2.2=w1 at *
             generalize(plc ps (iz:Int)).2.2=w2 at *
             rw[ha9] at c9
             subst hla
             clear hc KI p0 p1 q0' q1' hz hze hnz ha9 ea
             by_cases h4:w1=w2
             ·have d4:(w1 != w2)=false:=by simpa using h4
              have hb2:Hid (bad=false):=vH (by rw[hb.out,vF (by simpa using h4)])
              clear hb
              subst h4
              go_quiet ((go_at_call 54;exact Calls.quiet_of_same ((KI2 _).mono fun _ _ ⟨he,hw⟩=>⟨he,hw.symm⟩)))
              go_wp2_with fail
              go_meet
              exact⟨by rw[hb2.out],below_drewN (kB _ _) _⟩
             ·have d4:(w1 != w2)=true:=by simpa using h4
              have d5:(w1==w2)=false:=by simpa using h4
              have hb2:Hid (bad=true):=vH (by rw[hb.out,vT h4])
              clear hb h4
              go_quiet ((go_at_call 54;exact Calls.quiet_of_same ((KI2 _).mono fun _ _ ⟨he,hw⟩=>⟨he,hw.symm⟩)))
              go_wp2_with fail
              go_meet
              exact⟨by rw[hb2.out],below_drewN (kB _ _) _⟩
            ·have hb:Hid (bad=false):=vH (by rw[hbadE.out,d1,hc,vF h3];rfl)
             have d3:decide ((0:Int)<ln)=false:=vF (by omega)
             clear hc KI
             go_quiet ((go_at_call 54;exact Calls.quiet_of_same ((KI2 _).mono fun _ _ ⟨he,hw⟩=>⟨he,hw.symm⟩)))
             go_wp2_with fail
             go_meet
             exact⟨by rw[hb.out],below_drewN (kB _ _) _⟩
         case rest=>
          obtain⟨rfl,hb1⟩:=hcut
          have hA1:BX w0 wc:=hA0.trans ((hBq.trans (hb1.mono hBq.size)).mono hA0.size)
          cases bad with
          |true=>
           have hfin:=vH (hno.out wc 8 hA1 (by decide) (by
            rw[hce2.out,if_neg]
            intro hf
            have:=(hiff.out.1 hf).2 ln y hy.out
            have:=hgi.out.2 this
            cases this))
           go_wp2_with fail
           go_ret
           exact hfin.out
          |false=>
           have hG2:Hid (∀ (j':Nat) (y:ByteArray),j'<ln+1->x.regs[j']?=some y->JR ns ps x.regs j' y):=vH (fun j' y' hj' hy'=>by
            by_cases h:j'<ln
            ·exact hG.out j' y' h hy'
            ·obtain rfl:j'=ln:=by omega
             have:=hy.out
             rw[this] at hy';cases hy'
             exact hgi.out.1 rfl)
           have hrow3:=qe hrow2.out hb1
           have hwz:=hBq.size
           have hwz1:=hb1.size
           obtain⟨i0,hi0,hz0,hz1,hz2⟩:=info_parts ji
           clear hG hgi hbadE hh0
           go_wp2_with (at_builtin;go_loud (refine wpList_append_own_at _ rfl _ _ 55 rfl W0.heap.size 3 i0 _ 1 8 underlying55 hi0 hz0 hz1 hz2 rfl (by decide) _ ln (LL.map (Value.int .i64)) rfl (hrow3.alloc _) ⟨wc.heap.size,0,none⟩ 1 1 [.int .i64 ry] rfl rfl (zo _ _ _ _ rfl) (by simp[Value.oneCell']) (by unfold maxLen;omega) (by omega) (by simp;omega) ?_;intro v' W7 hown7 hgrow _ hblk;obtain⟨g',cap',rfl⟩:=ownsRow_succ hown7))
           have hB7:BX W0 W7:=((hBq.trans (hb1.mono hBq.size)).alloc (vR hwz hwz1) _).grown hgrow (by simp;omega) (fun g hg=>(qf hrow3 hg).1)
           have hrow7:Hid (W7.ownsRow W0.heap.size 3 1 (SlV.v ⟨some ⟨g',0,none⟩,ln+1,cap'⟩) (qh ns (x.regs.take (ln+1))).length ((qh ns (x.regs.take (ln+1))).map (Value.int .i64))):=vH (by
            rw[hLsn.out,kA,hrl.out,kM];exact hown7)
           exact⟨⟨ln+1,⟨some ⟨g',0,none⟩,ln+1,cap'⟩,by omega,by go_num,rfl,hrow7,hG2,hB7⟩,by simp[intOf];omega⟩
        ·have hfine:Hid (zT qj ns ps (cs.take k) x=0):=vH (by
          rw[hce2.out,if_pos (hiff.out.2 ⟨⟨hl1,hl64⟩,fun j' y hj=>hG.out j' y (by have:=(vS.1 hj).1;omega) hj⟩)])
         have hall:x.regs.take ln=x.regs:=List.take_of_length_le (by omega)
         have hIR:qN wr ⟨la,ln,lc⟩ (qh ns x.regs):=by
          have:=hrow.out
          rw[hall] at this
          exact qm this (vO _)
         have hvn:la=none->lc=0:=fun hn=>by
          rcases hIR.2 with⟨h1,_⟩|⟨g,cap,cur,h1,_⟩
          ·unfold SlV.v at h1;injection h1
          ·unfold SlV.v at h1;injection h1 with h1;rw[hn] at h1;cases h1
         have hSq:=hS0.out.step hBq
         obtain⟨vs,hv1,hrow6,hv3⟩:=hL0.out.below hBq
         have hlk:(qr ns (cs.take k)).length=k:=by unfold qr;rw[vP,List.length_take];have:=hkn'.out;omega
         rw[hlk] at hrow6
         have hgood:Hid (zA qj ns ps [] cs=zA qj ns ps (cs.take (k+1)) (cs.drop (k+1))):=vH (by rw[hT2.out,hfine.out];rfl)
         have hlist:qr ns (cs.take (k+1))=qr ns (cs.take k)++[qh ns x.regs]:=by
          unfold qr
          rw[vX,hx.out,kM];rfl
         have hs64:(qh ns x.regs).length<=1000:=by unfold qh;rw[vP];omega
         have c10:=qd.cell hSq.tab (j:=10) (v:=.slice cV.a cV.n cV.c) rfl
         have hnr:=qd.not_row hSq.tab (by decide) hrow6
         have hbs:=hSq.below.size
         replace hlk:=vH hlk
         replace hlist:=vH hlist
         replace hv1:=vH hv1
         replace hv3:=vH hv3
         replace hvn:=vH hvn
         replace hIR:=vH hIR
         have hTq:=vH hSq.tab
         replace hSq:=vH hSq
         obtain⟨i0,hi0,hz0,hz1,hz2⟩:=info_parts qax
         have hk64:k<=64:=by omega
         clear hrow hG hfine hall
         go_wp2_with (at_builtin;go_loud (refine wpList_append_own_at _ rfl _ _ 65 rfl w0.heap.size 55 i0 _ 1 24 underlying65 hi0 hz0 hz1 hz2 rfl (by decide) _ k (vs.map SlV.v) rfl (hrow6.alloc _) ⟨wr.heap.size,0,none⟩ 1 1 [.slice la ln lc] rfl rfl (zo _ _ _ _ rfl) (by simp[Value.oneCell']) (by unfold maxLen;omega) (by omega) (by simp;omega) ?_;intro v' W7 hown7 hgrow _ hblk;obtain⟨g',cap',rfl⟩:=ownsRow_succ hown7;have hT7:=(qd.alloc hTq.out (.cells #[.slice la ln lc] 55)).kept hgrow hnr;have f7:=hT7.frozen 10;have c7:=hT7.cell (j:=10) (v:=.slice cV.a cV.n cV.c) rfl))
         have hG:=jc (v:=.slice cV.a cV.n cV.c) hTq.out (j:=10) rfl (by decide) hSq.out.base (kB _ _) hrow6 hown7 hgrow hblk
         have hSn:=hSq.out.grown (t':=⟨⟨mn,rg,⟨some ⟨b,o,none⟩,kn,kc⟩,op,ar,rs,sv,sl⟩,nV,pV,⟨some ⟨g',0,none⟩,k+1,cap'⟩⟩) hG rfl rfl rfl rfl (by decide) (by decide)
         refine⟨⟨k+1,⟨some ⟨g',0,none⟩,k+1,cap'⟩,by omega,by go_num,hSn,⟨vs++[⟨la,ln,lc⟩],?_,?_,?_⟩,hgood⟩,by simp[intOf];omega⟩
         ·rw[hlist.out,kA,kA,hv1.out];rfl
         ·rw[hlist.out,kA,hlk.out,kM];exact hG.row
         ·intro i v l hv hl
          rw[hlist.out] at hl
          by_cases hi:i<k
          ·rw[List.getElem?_append_left (by rw[hv1.out,hlk.out];exact hi)] at hv
           rw[List.getElem?_append_left (by rw[hlk.out];exact hi)] at hl
           obtain⟨h1,h2,h3⟩:=hv3.out i v l hv hl
           exact⟨h1.grown hG hTq.out (by decide) (by decide),h2,h3⟩
          ·rw[kR (by rw[hv1.out,hlk.out];omega),hv1.out,hlk.out] at hv
           rw[kR (by rw[hlk.out];omega),hlk.out] at hl
           have hi0:i-k=0:=by
            have:=(vS.1 hl).1
            simp at this;omega
           rw[hi0] at hv hl
           cases hv
           cases hl
           exact⟨qN.grown hG hTq.out hIR.out (by decide) (by decide),hs64,hvn.out⟩
   ·obtain rfl:k=kn:=by omega
    have hfin:XI w0 T (fun cV=>⟨⟨mn,rg,⟨ka,k,kc⟩,op,ar,rs,sv,sl⟩,nV,pV,cV⟩) d ns ps (.returned (.int .i64 0)) wr:=by
     have h0:qy qj ns ps cs=0:=by
      rw[hr.out,hT.out,List.drop_eq_nil_of_le (by have:=hkn'.out;omega)];rfl
     refine(hfinP.out _ _).2 ⟨qI h0.symm,hBr,fun _=>⟨cV,hS,?_⟩⟩
     rw[List.take_of_length_le (by have:=hkn'.out;omega)] at hL
     exact hL
    replace hfin:=vH hfin
    clear hS hL hK2
    go_wp2_with fail
    go_ret
    exact hfin.out
end Go.Proofs.YtomlgdnafeeeiaaGreatDoor
