/-
  The reference's walk down registers, Places and classes.
-/
import Derived.Test.YtkoloennfejaaaaGreatDoorRefOne
import Derived.Test.YtkoloennfejaaaaGreatDoorPlAll
import Derived.Test.YtkoloennfejaaaaGreatDoorMdThree
set_option maxHeartbeats 64000000
set_option maxRecDepth 100000
namespace Go.Proofs.YtkoloennfejaaaaGreatDoor
open Go.RowKit
def spotsB(out:Bool)(deep root fr width:Int)(sv:Value)(i:Nat)(ahead:List qD):RegL->List (Spot×List qD)
 | .nil=>[]
 |.cons nm wd at_ v subs rest=>
  (⟨nm,wd,at_,v,deep,bif out then(i:Int) else root,bif out then 0 else fr,bif out then wd else width,bif out then .slice none 0 0 else headOf sv i⟩,bif out then [] else ahead) ::
    (spotsInA (deep+1) (bif out then(i:Int) else root) ((bif out then 0 else fr)+at_) wd v 0 [] subs++spotsB out deep root fr width sv (i+1) (ahead++[⟨nm,wd,at_,v⟩]) rest)
theorem Yg(deep root fr width:Int)(sv:Value):∀ (L:RegL) (i:Nat) (ahead:List qD),spotsB false deep root fr width sv i ahead L=spotsInA deep root fr width sv i ahead L
 | .nil,_,_=>rfl
 |.cons nm wd at_ v subs rest,i,ahead=>by
  simp only[spotsB,spotsInA,cond_false,Yg deep root fr width sv rest]
theorem XY(root fr width:Int)(sv:Value):∀ (L:RegL) (i:Nat) (ahead:List qD),spotsB true 1 root fr width sv i ahead L=spotsOutA i L
 | .nil,_,_=>rfl
 |.cons nm wd at_ v subs rest,i,ahead=>by
  simp only[spotsB,spotsOutA,cond_true,XY root fr width sv rest]
  rfl
theorem zK(nm:ByteArray->Bool):∀ (A B:List (Spot×List qD)) (names:List ByteArray),placesErr nm names (A++B)=if placesErr nm names A=0 then placesErr nm (names++A.map fun p=>p.1.name) B else placesErr nm names A
 | [],B,names=>by simp[placesErr]
 |p::A,B,names=>by
  show(if qK nm names p=0 then placesErr nm (names++[p.1.name]) (A++B) else qK nm names p)=_
  have e:placesErr nm names (p::A)=if qK nm names p=0 then placesErr nm (names++[p.1.name]) A else qK nm names p:=rfl
  rw[e]
  by_cases h:qK nm names p=0
  ·rw[if_pos h,if_pos h,zK nm A B]
   simp
  ·rw[if_neg h,if_neg h,if_neg h]
theorem jI(nm:ByteArray->Bool):∀ (A:List (Spot×List qD)) (names:List ByteArray),placesErr nm names A=0->names.length<=200->(names++A.map fun p=>p.1.name).length<=200
 | [],names,_,h=>by simpa using h
 |p::A,names,he,h=>by
  have e:placesErr nm names (p::A)=if qK nm names p=0 then placesErr nm (names++[p.1.name]) A else qK nm names p:=rfl
  rw[e] at he
  by_cases h0:qK nm names p=0
  ·rw[if_pos h0] at he
   have hne:names.length≠200:=fun h200=>ZF (nm:=nm) (p:=p) h200 h0
   have:=jI nm A (names++[p.1.name]) he (by simp;omega)
   simpa using this
  ·rw[if_neg h0] at he;exact absurd he h0
def xQ(G:Nat)(ns:List ByteArray)(ps:List Plc)(W:World):Prop:=
 ∃nV pV,Cells W G 154 #[nV,pV,.int .i64 0]/\W.ownsRow G 9 1 nV ns.length (ns.map Value.string)/\W.ownsRow G 94 3 pV ps.length (placeCells ps)
def qff(G:Nat)(x:Int)(W:World):Prop:=∃nV pV,Cells W G 154 #[nV,pV,.int .i64 x]
theorem xQ.below{G:Nat}{ns:List ByteArray}{ps:List Plc}{W W':World}(h:xQ G ns ps W)(hb:Below W.heap.size W W'):xQ G ns ps W':=by
 obtain⟨nV,pV,h1,h2,h3⟩:=h
 exact⟨nV,pV,h1.at_below hb,qb h2 hb,qb h3 hb⟩
theorem xQ.owned{G:Nat}{ns:List ByteArray}{ps:List Plc}{W:World}(h:xQ G ns ps W){b:Nat}(hb:Owned [G] W b):b=G∨(∃cur,Cells W b 9 cur)∨∃cur,Cells W b 94 cur:=by
 obtain⟨nV,pV,hT,hn,hp⟩:=h
 rcases hb with h1|⟨t',ht,o,a,n,c,hc,ha⟩
 ·exact .inl (by simpa using h1)
 ·obtain rfl:t'=G:=by simpa using ht
  unfold World.cell? at hc;rw[show W.heap[t']?=_ from hT] at hc
  have hj:(#[nV,pV,.int .i64 0]:Array Value)[o]?=some (.slice (some a) n c):=hc
  match o,hj with
  |0,hj=>
   have hv:nV = .slice (some a) n c:=by simpa using hj
   obtain⟨_,cur,hcur⟩:=qd hn (g:=b) (by rw[hv,←ha];rfl)
   exact .inr (.inl ⟨cur,hcur⟩)
  |1,hj=>
   have hv:pV = .slice (some a) n c:=by simpa using hj
   obtain⟨_,cur,hcur⟩:=qd hp (g:=b) (by rw[hv,←ha];rfl)
   exact .inr (.inr ⟨cur,hcur⟩)
  | 2,hj=>simp at hj
  | o+3,hj=>simp at hj
theorem xQ.ok{G:Nat}{ns:List ByteArray}{ps:List Plc}{W:World}(h:xQ G ns ps W):qB [G] W:=fun b hb=>by
 rcases h.owned hb with rfl|⟨cur,hc⟩|⟨cur,hc⟩
 ·obtain⟨_,_,hT,_,_⟩:=h;exact hT.lt
 ·exact hc.lt
 ·exact hc.lt
theorem xQ.lt{G:Nat}{ns:List ByteArray}{ps:List Plc}{W:World}(h:xQ G ns ps W):G<W.heap.size:=by
 obtain⟨_,_,hT,_,_⟩:=h;exact hT.lt
theorem Yh{Ts:List Nat}{A B:World}(h:Keeps Ts A B)(ok:qB Ts A){base:Nat}{e:TypeId}{size:Nat}{v:Value}{k:Nat}{xs:List Value}(hr:A.ownsRow base e size v k xs)(hn:∀b,v.ownBlock=some b->¬ Owned Ts A b):B.ownsRow base e size v k xs:=by
 refine⟨hr.1,?_⟩
 rcases hr.2 with h1|⟨g,cap,cur,h1,h2,h3,h4⟩
 ·exact .inl h1
 ·exact .inr ⟨g,cap,cur,h1,h2,h.keep ok g _ h3 rfl (hn g (by rw[h1];rfl)),h4⟩
theorem jz{Ts:List Nat}{A B:World}(h:Keeps Ts A B)(ok:qB Ts A){b:Nat}{t:TypeId}{cs:Array Value}(hc:Cells A b t cs)(hn:¬ Owned Ts A b):Cells B b t cs:=h.keep ok b _ hc rfl hn
theorem yY{Ts:List Nat}{A B:World}{row:Option Nat}(hg:A.grownBy B row)(hn:∀r,row=some r->¬ Owned Ts A r)(ok:qB Ts A):(∀t,t∈Ts->B.heap[t]?=A.heap[t]?)/\qB Ts B/\∀b,Owned Ts B b↔Owned Ts A b:=by
 have hs:∀t,t∈Ts->B.heap[t]?=A.heap[t]?:=fun t ht=>hg.block t (ok.lt ht) (fun e=>hn t e.symm (.inl ht))
 exact⟨hs,fun b hb=>Nat.lt_of_lt_of_le (ok b ((zV hs b).1 hb)) hg.size,zV hs⟩
def ZK(out:Bool)(root fr:Int)(k:Nat)(ahead:List qD)(dps:List Plc):Prop:=
 (∀p,p∈dps->PlcOk p)/\dps.length=k/\bif out then(∀p,p∈dps->p.1<(k:Int)) else dps=ahead.map fun r=>(root,fr+r.at_,r.wd)
theorem ZK.laps{out:Bool}{root fr:Int}{k:Nat}{ahead:List qD}{dps:List Plc}(h:ZK out root fr k ahead dps)(at_ wd:Int) :
 (dps.any fun q=>lapP q (bif out then(k:Int) else root,(bif out then 0 else fr)+at_,wd))=((bif out then [] else ahead).any fun r=>lapB ((bif out then 0 else fr)+r.at_) r.wd ((bif out then 0 else fr)+at_) wd):=by
 obtain⟨_,_,h3⟩:=h
 cases out with
 |true=>
  simp only[cond_true] at h3 ⊢
  rw[List.any_nil,List.any_eq_false]
  intro q hq
  have:=h3 q hq
  unfold lapP
  rw[decide_eq_false (by omega)];simp
 |false=>
  simp only[cond_false] at h3 ⊢
  subst h3
  rw[List.any_map]
  congr 1
  funext r
  simp[lapP]
theorem ZK.snoc{out:Bool}{root fr:Int}{k:Nat}{ahead:List qD}{dps:List Plc}(h:ZK out root fr k ahead dps)(nm:ByteArray)(at_ wd:Int)(v:Value)(hok:PlcOk (bif out then(k:Int) else root,(bif out then 0 else fr)+at_,wd)) :
 ZK out root fr (k+1) (ahead++[⟨nm,wd,at_,v⟩]) (dps++[(bif out then(k:Int) else root,(bif out then 0 else fr)+at_,wd)]):=by
 obtain⟨h1,h2,h3⟩:=h
 refine⟨fun p hp=>?_,by simp[h2],?_⟩
 ·rcases List.mem_append.1 hp with hp|hp
  ·exact h1 p hp
  ·obtain rfl:=List.mem_singleton.1 hp;exact hok
 ·cases out with
  |true=>
   simp only[cond_true] at h3 ⊢
   intro p hp
   rcases List.mem_append.1 hp with hp|hp
   ·have:=h3 p hp;omega
   ·obtain rfl:=List.mem_singleton.1 hp;dsimp only;omega
  |false=>
   simp only[cond_false] at h3 ⊢
   subst h3;simp
def DownPost(G:Nat)(ns:List ByteArray)(ps:List Plc)(S:List (Spot×List qD))(w:World)(e:Ending)(w':World):Prop:=
 e = .returned (.tuple #[])/\Below G w w'/\Keeps [G] w w'/\(placesErr nameB ns S=0->xQ G (ns++S.map fun p=>p.1.name) (ps++S.map fun p=>p.1.place) w')/\(placesErr nameB ns S≠0->qff G (placesErr nameB ns S) w')
structure qgU(out:Bool)(G:Nat)(w:World)(deep root fr width:Int)(sv:Value)(a:Option Addr)(L:RegL)(ns:List ByteArray)(ps:List Plc)(k:Nat)(rest:RegL)(ahead:List qD)(A:List (Spot×List qD))(dps:List Plc)(dV:SlV)(wr:World):Prop where
 len:k+rest.length=L.length
 tot:rest.total<=L.total
 hold:rest = .nil∨∃b o,a=some ⟨b,o,none⟩/\ql G w b (o+k*4) rest
 said:spotsB out deep root fr width sv 0 [] L=A++spotsB out deep root fr width sv k ahead rest
 fine:placesErr nameB ns A=0
 cnt:k<=A.length
 geo:xQ G (ns++A.map fun p=>p.1.name) (ps++A.map fun p=>p.1.place) wr
 row:wr.ownsRow w.heap.size 94 3 dV.v k (placeCells dps)
 done:ZK out root fr k ahead dps
 free:∀b,dV.v.ownBlock=some b->¬ Owned [G] wr b
 below:Below G w wr
 keeps:Keeps [G] w wr
def DownR(out:Bool)(G:Nat)(w:World)(deep root fr width:Int)(sv:Value)(a:Option Addr)(L:RegL)(ns:List ByteArray)(ps:List Plc)(s3 s4 dn i:Value)(wr:World):Prop:=
 (∃ (rt f:Int),s3 = .int .i64 rt/\s4 = .int .i64 f/\(out=false->rt=root/\f=fr)) /\
 ((∃ (k:Nat) (rest:RegL) (ahead:List qD) (A:List (Spot×List qD)) (dps:List Plc) (dV:SlV),i = .int .i64 k/\dn = .slice dV.a dV.n dV.c/\qgU out G w deep root fr width sv a L ns ps k rest ahead A dps dV wr) ∨
  ∃ (k:Nat) (dV:SlV),k<=L.length/\i = .int .i64 k/\dn = .slice dV.a dV.n dV.c/\placesErr nameB ns (spotsB out deep root fr width sv 0 [] L)≠0/\qff G (placesErr nameB ns (spotsB out deep root fr width sv 0 [] L)) wr/\Below G w wr/\Keeps [G] w wr)
theorem qdH{out:Bool}{deep root fr width:Int}{sv:Value}{L:RegL}{k:Nat}{ahead:List qD}{A:List (Spot×List qD)}{nm:ByteArray}{wd at_:Int}{v:Value}{subs rest:RegL}
 (h:spotsB out deep root fr width sv 0 [] L=A++spotsB out deep root fr width sv k ahead (.cons nm wd at_ v subs rest)) :
 ∃p B,p=((⟨nm,wd,at_,v,deep,bif out then(k:Int) else root,bif out then 0 else fr,bif out then wd else width,bif out then .slice none 0 0 else headOf sv k⟩,bif out then [] else ahead):Spot×List qD)/\B=spotsInA (deep+1) (bif out then(k:Int) else root) ((bif out then 0 else fr)+at_) wd v 0 [] subs /\
  spotsB out deep root fr width sv 0 [] L=A++p::B++spotsB out deep root fr width sv (k+1) (ahead++[⟨nm,wd,at_,v⟩]) rest:=by
 refine⟨_,_,rfl,rfl,?_⟩
 rw[h]
 simp[spotsB]
theorem qfg{ns:List ByteArray}{S A R:List (Spot×List qD)}{p:Spot×List qD}(h:S=A++p::R)(hA:placesErr nameB ns A=0)(he:qK nameB (ns++A.map fun p=>p.1.name) p≠0):placesErr nameB ns S=qK nameB (ns++A.map fun p=>p.1.name) p:=by
 rw[h,zK,if_pos hA]
 show(if qK nameB (ns++A.map fun p=>p.1.name) p=0 then _ else _)=_
 rw[if_neg he]
theorem qfh{ns:List ByteArray}{A B:List (Spot×List qD)}{p:Spot×List qD}(hA:placesErr nameB ns A=0)(he:qK nameB (ns++A.map fun p=>p.1.name) p=0):placesErr nameB ns (A++p::B)=placesErr nameB ((ns++A.map fun p=>p.1.name)++[p.1.name]) B:=by
 rw[zK,if_pos hA]
 show(if qK nameB (ns++A.map fun p=>p.1.name) p=0 then _ else _)=_
 rw[if_pos he]
theorem qdI{G:Nat}{ns:List ByteArray}{ps:List Plc}{S:List (Spot×List qD)}{w wr W:World}{ns2:List ByteArray}{ps2:List Plc}{x:Int}(hg:xQ G ns2 ps2 wr)(hx:placesErr nameB ns S=x)(hx0:x≠0)(hB0:Below G w wr)(hK0:Keeps [G] w wr)(hb:Below wr.heap.size wr W) :
 DownPost G ns ps S w (.returned (.tuple #[])) (W.setCell ⟨G,2,none⟩ (.int .i64 x)):=by
 have hlt:=hg.lt
 have hg2:=hg.below hb
 obtain⟨nV,pV,hT,_,_⟩:=hg2
 refine⟨rfl,(hB0.trans (hb.mono (by omega))).setCell (p:=⟨G,2,none⟩) (Nat.le_refl _) _,(hK0.trans (Keeps.of_below hb)).trans ?_,fun h0=>absurd (hx ▸ h0) hx0,fun _=>⟨nV,pV,?_⟩⟩
 ·exact ZQ (row:=none) (B:=W) ⟨rfl,rfl,rfl,Nat.le_refl _,fun _ _ _=>rfl⟩ (fun r e=>by cases e) (by simp) (fun a n c e=>by cases e)
 ·have:=hT.set (j:=2) (.int .i64 x)
  rw[hx];exact this
theorem JI{Ts:List Nat}{A W W4:World}{row:Option Nat}(hk:Keeps Ts A W)(okA:qB Ts A)(hg:W.grownBy W4 row)(hr:∀r,row=some r->A.heap.size<=r/\¬ Owned Ts W r):Keeps Ts A W4:=by
 have okW:=hk.ok okA
 obtain⟨_,ok4,hiff⟩:=yY hg (fun r e=>(hr r e).2) okW
 exact⟨Nat.le_trans hk.size hg.size,fun _=>ok4,fun _ b hb ho h4=>hk.own okA b hb ho ((hiff b).1 h4),
  fun _ b o hb hc ho=>(hg.block b (Nat.lt_of_lt_of_le (qm hb) hk.size) (fun e=>by have:=(hr b e.symm).1;have:=qm hb;omega)).trans (hk.keep okA b o hb hc ho)⟩
structure Zm(G:Nat)(w:World)(ns2:List ByteArray)(ps2:List Plc)(k:Nat)(dps:List Plc)(v:Value)(W:World):Prop where
 geo:xQ G ns2 ps2 W
 row:W.ownsRow w.heap.size 94 3 v k (placeCells dps)
 free:∀b,v.ownBlock=some b->¬ Owned [G] W b
 below:Below G w W
 keeps:Keeps [G] w W
theorem Zm.step{G:Nat}{w W W':World}{ns2:List ByteArray}{ps2:List Plc}{k:Nat}{dps:List Plc}{v:Value}(h:Zm G w ns2 ps2 k dps v W)(hb:Below W.heap.size W W'):Zm G w ns2 ps2 k dps v W':=
 ⟨h.geo.below hb,qb h.row hb,fun b e ho=>h.free b e ((qI h.geo.ok hb b).1 ho),h.below.trans (hb.mono (Nat.le_of_lt h.geo.lt)),h.keeps.trans (Keeps.of_below hb)⟩
theorem qdJ{G:Nat}{w W W4:World}{ns2:List ByteArray}{ps2:List Plc}{k:Nat}{dps:List Plc}{v v':Value}{tmp:Obj}{P:Plc}(h:Zm G w ns2 ps2 k dps v W)(okw:qB [G] w)(hGw:G<=w.heap.size)
 (hown:W4.ownsRow w.heap.size 94 3 v' (k+1) (placeCells dps++[.int .i64 P.1,.int .i64 P.2.1,.int .i64 P.2.2])) (hgrow:(W.alloc tmp).grownBy W4 v.ownBlock) (hblk:v'.ownBlock=v.ownBlock∨v'.ownBlock=some (W.alloc tmp).heap.size) :
 Zm G w ns2 ps2 (k+1) (dps++[P]) v' W4:=by
 have hb1:Below W.heap.size W (W.alloc tmp):=qe
 have h1:=h.step hb1
 have hvb:∀r,v.ownBlock=some r->w.heap.size<=r/\¬ Owned [G] (W.alloc tmp) r:=fun r e=>⟨(qd h.row e).1,h1.free r e⟩
 obtain⟨hs,ok4,hiff⟩:=yY hgrow (fun r e=>(hvb r e).2) h1.geo.ok
 have hkp:∀ {e:TypeId} {size kk:Nat} {u:Value} {xs:List Value},(W.alloc tmp).ownsRow G e size u kk xs->(∀b,u.ownBlock=some b->Owned [G] (W.alloc tmp) b)->W4.ownsRow G e size u kk xs:=fun hr ho=>by
  refine hr.kept hgrow ?_
  cases hu:Value.ownBlock _ with
  | none=>exact .inl rfl
  | some b=>exact .inr (fun e=>h1.free b (by rw[←e]) (ho b hu))
 refine⟨?_,?_,?_,?_,JI h1.keeps okw hgrow hvb⟩
 ·obtain⟨nV,pV,hT,hn,hp⟩:=h1.geo
  refine⟨nV,pV,(hs G (by simp)).trans hT,hkp hn (fun b e=>?_),hkp hp (fun b e=>?_)⟩
  ·obtain⟨a',c',rfl⟩:=qk hn
   cases a' with
   | none=>simp[Value.ownBlock] at e
   |some a'=>
    exact .inr ⟨G,by simp,0,a',_,_,hT.cell rfl,by simpa[Value.ownBlock] using e⟩
  ·obtain⟨a',c',rfl⟩:=qk hp
   cases a' with
   | none=>simp[Value.ownBlock] at e
   |some a'=>
    exact .inr ⟨G,by simp,1,a',_,_,hT.cell rfl,by simpa[Value.ownBlock] using e⟩
 ·have e:placeCells (dps++[P])=placeCells dps++[.int .i64 P.1,.int .i64 P.2.1,.int .i64 P.2.2]:=by simp[placeCells]
  rw[e];exact hown
 ·intro b e ho
  rcases hblk with h2|h2
  ·exact h1.free b (by rw[←h2];exact e) ((hiff b).1 ho)
  ·rw[e] at h2
   have hb':=h1.geo.ok b ((hiff b).1 ho)
   have:=Option.some.inj h2
   omega
 ·exact h1.below.grown hgrow (Nat.le_trans hGw (Nat.le_trans h.keeps.size hb1.size)) (fun r e=>Nat.le_trans hGw (hvb r e).1)
theorem Cells.drewS{W:World}{b:Nat}{t:TypeId}{cs:Array Value}(h:Cells W b t cs):Cells W.drew b t cs:=h
theorem qaI{G:Nat}{W W4:World}{row:Option Nat}{tmp:Obj}{b:Nat}{t:TypeId}{cs:Array Value}(ok:qB [G] W)(hgrow:(W.alloc tmp).grownBy W4 row)(hr:∀r,row=some r->¬ Owned [G] W r)(hc:Cells W b t cs)(hb:¬ Owned [G] W b)(hne:some b≠row):Cells W4 b t cs/\¬ Owned [G] W4 b:=by
 have hb1:Below W.heap.size W (W.alloc tmp):=qe
 have hr1:∀r,row=some r->¬ Owned [G] (W.alloc tmp) r:=fun r e h=>hr r e ((qI ok hb1 r).1 h)
 obtain⟨_,_,hiff⟩:=yY hgrow hr1 (ok.below hb1)
 exact⟨(hc.alloc tmp).kept hgrow hne,fun h=>hb ((qI ok hb1 b).1 ((hiff b).1 h))⟩
theorem qcd{G:Nat}{w W4 W5 W7:World}{ns2:List ByteArray}{ps2:List Plc}{k1:Nat}{dps1:List Plc}{v' nV pV n' p':Value}{nm:ByteArray}{P:Plc}(h:Zm G w ns2 ps2 k1 dps1 v' W4)
 (hG1:yG G G 0 154 9 1 #[nV,pV,.int .i64 0] n' (ns2.length+1) (ns2.map Value.string++[.string nm]) W4 W5)
 (hG2:yG G G 1 154 94 3 #[n',pV,.int .i64 0] p' (ps2.length+1) (placeCells ps2++[.int .i64 P.1,.int .i64 P.2.1,.int .i64 P.2.2]) W5 W7) :
 Zm G w (ns2++[nm]) (ps2++[P]) k1 dps1 v' W7:=by
 have hk:Keeps [G] W4 W7:=hG1.keeps.trans hG2.keeps
 have ok:=h.geo.ok
 refine⟨⟨n',p',hG2.cells,?_,?_⟩,Yh hk ok h.row h.free,fun b e=>?_,(h.below.trans hG1.below).trans hG2.below,h.keeps.trans hk⟩
 ·have:=hG2.rows _ _ _ _ _ hG1.row (by decide) (by decide)
  rw[List.length_append,List.map_append];exact this
 ·have:=hG2.row
  have e:placeCells (ps2++[P])=placeCells ps2++[.int .i64 P.1,.int .i64 P.2.1,.int .i64 P.2.2]:=by simp[placeCells]
  rw[List.length_append,e];exact this
 ·refine hk.own ok b ?_ (h.free b e)
  obtain⟨_,cur,hc⟩:=qd h.row e
  exact hc.lt
theorem qce{out:Bool}{G:Nat}{w wr W7 W8:World}{deep root fr width:Int}{sv:Value}{a:Option Addr}{L:RegL}{ns:List ByteArray}{ps:List Plc}{k:Nat}{rest:RegL}{ahead:List qD}{A:List (Spot×List qD)}{dps:List Plc}{dV dV':SlV}
 {nm:ByteArray} {wd at_:Int} {v:Value} {subs:RegL} {p:Spot×List qD} {B:List (Spot×List qD)} {e:Ending}
 (hI:qgU out G w deep root fr width sv a L ns ps k (.cons nm wd at_ v subs rest) ahead A dps dV wr)
 (hp:p=((⟨nm,wd,at_,v,deep,bif out then(k:Int) else root,bif out then 0 else fr,bif out then wd else width,bif out then .slice none 0 0 else headOf sv k⟩,bif out then [] else ahead):Spot×List qD))
 (hsaid:spotsB out deep root fr width sv 0 [] L=A++p::B++spotsB out deep root fr width sv (k+1) (ahead++[⟨nm,wd,at_,v⟩]) rest)
 (he:qK nameB (ns++A.map fun p=>p.1.name) p=0)
 (h7:Zm G w ((ns++A.map fun p=>p.1.name)++[nm]) ((ps++A.map fun p=>p.1.place)++[(bif out then(k:Int) else root,(bif out then 0 else fr)+at_,wd)]) (k+1) (dps++[(bif out then(k:Int) else root,(bif out then 0 else fr)+at_,wd)]) dV'.v W7)
 (hok:PlcOk (bif out then(k:Int) else root,(bif out then 0 else fr)+at_,wd))
 (h8:DownPost G ((ns++A.map fun p=>p.1.name)++[nm]) ((ps++A.map fun p=>p.1.place)++[(bif out then(k:Int) else root,(bif out then 0 else fr)+at_,wd)]) B W7 e W8)
 (s3 s4:Value) (h34:∃ (rt f:Int),s3 = .int .i64 rt/\s4 = .int .i64 f/\(out=false->rt=root/\f=fr)) :
 DownR out G w deep root fr width sv a L ns ps s3 s4 (.slice dV'.a dV'.n dV'.c) (.int .i64 ((k+1:Nat):Int)) W8:=by
 refine⟨h34,?_⟩
 obtain⟨_,hb8,hk8,hgood,hbad⟩:=h8
 have hpn:p.1.name=nm:=by rw[hp]
 have hpp:p.1.place=(bif out then(k:Int) else root,(bif out then 0 else fr)+at_,wd):=by rw[hp];rfl
 have hsub:=qfh (B:=B) hI.fine he
 rw[hpn] at hsub
 have hkl:k+1+rest.length=L.length:=by have:=hI.len;simp only[RegL.length] at this;omega
 by_cases h0:placesErr nameB ((ns++A.map fun p=>p.1.name)++[nm]) B=0
 ·have hg:=hgood h0
  refine .inl ⟨k+1,rest,ahead++[⟨nm,wd,at_,v⟩],A++p::B,dps++[(bif out then(k:Int) else root,(bif out then 0 else fr)+at_,wd)],dV',rfl,rfl,{
   len:=hkl
   tot:=by have:=hI.tot;simp only[RegL.total] at this;omega
   hold:=?_
   said:=hsaid
   fine:=by rw[hsub,h0]
   cnt:=by have:=hI.cnt;simp;omega
   geo:=?_
   row:=Yh hk8 h7.geo.ok h7.row h7.free
   done:=hI.done.snoc nm at_ wd v hok
   free:=fun b e=>hk8.own h7.geo.ok b (by obtain⟨_,cur,hc⟩:=qd h7.row e;exact hc.lt) (h7.free b e)
   below:=h7.below.trans hb8
   keeps:=h7.keeps.trans hk8 }⟩
  ·rcases hI.hold with h|⟨b,o,h1,h2⟩
   ·cases h
   ·refine .inr ⟨b,o,h1,?_⟩
    have:=h2.2.2.1
    rw[show o+(k+1)*4=o+k*4+4 by omega];exact this
  ·rw[←hpn,←hpp] at hg
   simpa[List.append_assoc] using hg
 ·have hx:placesErr nameB ns (spotsB out deep root fr width sv 0 [] L)=placesErr nameB ((ns++A.map fun p=>p.1.name)++[nm]) B:=by
   rw[hsaid,zK,hsub,if_neg h0]
  refine .inr ⟨k+1,dV',by omega,rfl,rfl,by rw[hx];exact h0,by rw[hx];exact hbad h0,h7.below.trans hb8,h7.keeps.trans hk8⟩
theorem qgq(N:Nat):∀ (out:Bool) (L:RegL) (a:Option Addr) (c G:Nat) (deep root fr width:Int) (sv:Value) (ns:List ByteArray) (ps:List Plc) (w:World),L.total<N->sv = .slice a L.length c->L.length<=c->L.length<=4611686018427387904 ->
 (L = .nil∨∃b o,a=some ⟨b,o,none⟩/\ql G w b o L)->xQ G ns ps w->ns.length=ps.length->ns.length<=200 ->
 (bif out then deep=1 else 2<=deep/\deep<=7/\0<=fr/\fr<=64*(deep-1)/\1<=width/\width<=64) ->
 Calls Tryz.prog 129 #[.pointer (some ⟨G,0,none⟩),.slice a L.length c,.int .i64 deep,.int .i64 root,.int .i64 fr,.int .i64 width] w (DownPost G ns ps (spotsB out deep root fr width sv 0 [] L) w):=by
 induction N with
 | zero=>exact fun _ L _ _ _ _ _ _ _ _ _ _ _ h=>absurd h (Nat.not_lt_zero _)
 | succ N ih=>
 intro out L a c G deep root fr width sv ns ps w hN hsv hcap hbig hL hG hlen hfew hd
 have hd7:1<=deep/\deep<=7:=by cases out <;> simp at hd <;> omega
 have hG2:=Lib.hid hG
 have hd2:=Lib.hid hd
 have hlen2:=Lib.hid hlen
 have hfew2:=hfew
 have hstart:DownR out G w deep root fr width sv a L ns ps (.int .i64 root) (.int .i64 fr) (.slice none 0 0) (.int .i64 0) w:=
  ⟨⟨root,fr,rfl,rfl,fun _=>⟨rfl,rfl⟩⟩,.inl ⟨0,L,[],[],[],⟨none,0,0⟩,rfl,rfl,{
    len:=Nat.zero_add _
    tot:=Nat.le_refl _
    hold:=hL.elim (fun h=>.inl h) (fun⟨b,o,h1,h2⟩=>.inr ⟨b,o,h1,by simpa using h2⟩)
    said:=rfl
    fine:=rfl
    cnt:=Nat.zero_le _
    geo:=by simpa using hG
    row:=World.ownsRow_nil _ _ _ _
    done:=⟨fun p hp=>(by cases hp),rfl,by cases out <;> simp⟩
    free:=fun b hb=>by simp[SlV.v,Value.ownBlock] at hb
    below:=Below.refl _ _
    keeps:=Keeps.refl _ _ }⟩⟩
 replace hstart:=Lib.hid hstart
 clear hG hL hd hlen hfew
 go_enter Tryz.func129,Tryz.ntmps129
 go_wp2_with fail
 go_loopw [3,4,12,13] (fun s3 s4 dn i wr=>DownR out G w deep root fr width sv a L ns ps s3 s4 dn i wr) (fun _ _ _ i _=>L.length-(intOf i).toNat)
 case atStart=>exact hstart.out
 case round=>
  obtain⟨⟨rt,f,rfl,rfl,hrt⟩,⟨k,rest,ahead,A,dps,⟨da,dn,dc⟩,rfl,rfl,hI⟩|⟨k,⟨da,dn,dc⟩,hk,rfl,rfl,hne,hbad,hB,hK⟩⟩:=hrel
  ·rcases rest with _|⟨nm,wd,at_,v,subs,rest⟩
   ·
     have hkL:k=L.length:=by have:=hI.len;simp only[RegL.length] at this;omega
     have hfin:DownPost G ns ps (spotsB out deep root fr width sv 0 [] L) w (.returned (.tuple #[])) wr:=by
      have hs:=hI.said
      simp only[spotsB,List.append_nil] at hs
      exact⟨rfl,hI.below,hI.keeps,fun _=>by rw[hs];exact hI.geo,fun h=>absurd (by rw[hs];exact hI.fine) h⟩
     replace hfin:=Lib.hid hfin
     have hnlt:¬ k<L.length:=by omega
     clear hI hkL hrt
     go_wp2_with fail
     go_end0
     exact hfin.out
   ·obtain⟨p,B,hp,hB,hsaid⟩:=qdH hI.said
    have hI2:=Lib.hid hI
    have hkl:k<L.length:=by have:=hI.len;simp only[RegL.length] at this;omega
    have hk2:(k:Int)<L.length:=by omega
    have k0:(0:Int)<=k:=Int.natCast_nonneg _
    obtain⟨b,o,ha,hh⟩:=hI.hold.resolve_left (by simp)
    obtain⟨hbG,hreg,_,hsubs⟩:=hh
    obtain⟨va,vc,hv,hvc,hvl,hvs⟩:∃va vc,v = .slice va subs.length vc/\subs.length<=vc/\subs.length<=100000/\(subs = .nil∨∃b o,va=some ⟨b,o,none⟩/\ql G w b o subs):=by
     rcases hsubs with⟨⟨va,rfl⟩,rfl⟩|⟨b',o',c',rfl,h1,h2,h3⟩
     ·exact⟨va,0,rfl,Nat.le_refl _,Nat.zero_le _,.inl rfl⟩
     ·exact⟨_,c',rfl,h1,h2,.inr ⟨b',o',rfl,h3⟩⟩
    have hcell:∀j x,w.cell? ⟨b,j,none⟩=some x->wr.cell? ⟨b,j,none⟩=some x:=fun j x hx=>(hI.below.cell (p:=⟨b,j,none⟩) hbG).trans hx
    have rc0:=hcell _ _ hreg.1
    have rc1:=hcell _ _ hreg.2.1
    have rc2:=hcell _ _ hreg.2.2.1
    have rc3:=hcell _ _ hreg.2.2.2
    dsimp only at rc0 rc1 rc2 rc3
    obtain⟨nV,pV,hT,hn,hpl⟩:=hI.geo
    have g2:=hT.cell (j:=2) (v:=.int .i64 0) rfl
    obtain⟨na,nc,rfl⟩:=qk hn
    obtain⟨pa,pc,rfl⟩:=qk hpl
    have hfewA:=jI nameB A ns hI.fine hfew2
    have hlenA:(ns++A.map fun p=>p.1.name).length=(ps++A.map fun p=>p.1.place).length:=by simp[hlen2.out]
    obtain⟨nsA,hnsA⟩:∃nsA,nsA=ns++A.map fun p=>p.1.name:=⟨_,rfl⟩
    obtain⟨psA,hpsA⟩:∃psA,psA=ps++A.map fun p=>p.1.place:=⟨_,rfl⟩
    rw[←hnsA] at hn hfewA hlenA hT
    rw[←hpsA] at hpl hlenA hT
    have hgeo:xQ G nsA psA wr:=by rw[hnsA,hpsA];exact hI.geo
    have hD0:Zm G w nsA psA k dps (SlV.v ⟨da,dn,dc⟩) wr:=⟨hgeo,hI.row,hI.free,hI.below,hI.keeps⟩
    have hdn:dn=k:=by
     obtain⟨a',c',h⟩:=qk hI.row
     unfold SlV.v at h;injection h
    subst hdn
    have hdone:=hI.done
    obtain⟨R,hR⟩:∃R:Int,R=bif out then(dn:Int) else root:=⟨_,rfl⟩
    obtain⟨F,hF⟩:∃F:Int,F=bif out then 0 else fr:=⟨_,rfl⟩
    have hF0:0<=F/\F<=384:=by
     rw[hF]
     have:=hd2.out
     cases out <;> simp at this ⊢ <;> omega
    have hlaps:=hdone.laps at_ wd
    rw[←hR,←hF] at hlaps
    have hstop:∀ (W:World) (x:Int),Below wr.heap.size wr W->qK nameB nsA p=x->x≠0->DownPost G ns ps (spotsB out deep root fr width sv 0 [] L) w (.returned (.tuple #[])) (W.setCell ⟨G,2,none⟩ (.int .i64 x)):=fun W x hb hx hx0=>by
     refine qdI hgeo ?_ hx0 hI.below hI.keeps hb
     rw[←hx,hnsA]
     refine qfg (R:=B++spotsB out deep root fr width sv (dn+1) (ahead++[⟨nm,wd,at_,v⟩]) rest) (by rw[hsaid];simp) hI.fine ?_
     rw[←hnsA,hx];exact hx0
    have herr:qK nameB nsA p=if 6<deep then 4 else if nsA.length=200 then 2 else if nameB nm=false∨(nsA.any fun x=>eqB x nm)=true then 5 else
     if ¬ (1<=wd/\wd<=64/\0<=at_/\at_<=(bif out then wd else width)-wd) then 6 else if(dps.any fun q=>lapP q (R,F+at_,wd))=true then 7 else 0:=by
     rw[hlaps,hp,hF];rfl
    obtain⟨W0,hW0⟩:∃W0,W0=wr.alloc (.cells #[.string nm,.int .i64 wd,.int .i64 at_,.slice va subs.length vc] 68):=⟨_,rfl⟩
    have hb0:Below wr.heap.size wr W0:=by rw[hW0];exact qe
    have hr0:Cells W0 wr.heap.size 68 #[.string nm,.int .i64 wd,.int .i64 at_,.slice va subs.length vc]:=by rw[hW0];exact Cells.new _ _ _
    have hT0:=hT.at_below hb0
    have hGwr:=hgeo.lt
    have hws:=hI.keeps.size
    replace hW0:=Lib.hid hW0
    replace hnsA:=Lib.hid hnsA
    replace hpsA:=Lib.hid hpsA
    replace hR:=Lib.hid hR
    replace hF:=Lib.hid hF
    replace hp:=Lib.hid hp
    replace hB:=Lib.hid hB
    replace hsaid:=Lib.hid hsaid
    replace herr:=Lib.hid herr
    replace hstop:=Lib.hid hstop
    replace hlaps:=Lib.hid hlaps
    replace hdone:=Lib.hid hdone
    replace hD0:=Lib.hid hD0
    replace hn:=Lib.hid hn
    replace hpl:=Lib.hid hpl
    replace hlenA:=Lib.hid hlenA
    replace hvs:=Lib.hid hvs
    replace hrt:=Lib.hid hrt
    replace hsv:=Lib.hid hsv
    subst ha hv
    clear hI hreg hsubs hcell hgeo
    go_upto_if 37 with fail
    go_cut [3,4] from 36 to 37 (fun s3 s4 Wx=>s3 = .int .i64 R/\s4 = .int .i64 F/\Wx=W0)
    case first=>
     have hdd:=hd2.out
     cases out with
     |true=>
      simp only[cond_true] at hdd
      subst hdd
      go_wp2_with fail
      go_meet
      exact⟨by rw[hR.out];rfl,by rw[hF.out];rfl,hW0.out.symm⟩
     |false=>
      simp only[cond_false] at hdd
      have hd1:(deep==1)=false:=by simp;omega
      obtain⟨hr1,hr2⟩:=hrt.out rfl
      have hR2:Hid (rt=R):=Lib.hid (by rw[hR.out,hr1];rfl)
      have hF2:Hid (f=F):=Lib.hid (by rw[hF.out,hr2];rfl)
      clear hr1 hr2 hrt
      go_wp2_with fail
      go_meet
      exact⟨by rw[hR2.out],by rw[hF2.out],hW0.out.symm⟩
    case rest=>
     obtain⟨rfl,rfl,hwc⟩:=hcut
     subst wc
     have g0:=hT0.cell (j:=0) (v:=.slice na nsA.length nc) rfl
     have g2:=hT0.cell (j:=2) (v:=.int .i64 0) rfl
     have f2:=hT0.frozen 2
     have r0:=hr0.cell (j:=0) (v:=.string nm) rfl
     by_cases e1:6<deep
     ·have hs:=Lib.hid (hstop.out W0 4 hb0 (by rw[herr.out,if_pos e1]) (by decide))
      go_wp2_with (go_at_call 91;refine(refNamed nm _).mono ?_;rintro e W1 ⟨rfl,rfl⟩)
      go_end0
      exact hs.out
     ·by_cases e2:nsA.length=200
      ·have hs:=Lib.hid (hstop.out W0 2 hb0 (by rw[herr.out,if_neg e1,if_pos e2]) (by decide))
       have e2':(200:Int)<=nsA.length:=by omega
       clear e2
       go_wp2_with (go_at_call 91;refine(refNamed nm _).mono ?_;rintro e W1 ⟨rfl,rfl⟩)
       go_end0
       exact hs.out
      ·have e2':¬ (200:Int)<=nsA.length:=by omega
       have herr2:Hid (qK nameB nsA p=if nameB nm=false∨(nsA.any fun x=>eqB x nm)=true then 5 else
        if ¬ (1<=wd/\wd<=64/\0<=at_/\at_<=(bif out then wd else width)-wd) then 6 else if(dps.any fun q=>lapP q (R,F+at_,wd))=true then 7 else 0):=Lib.hid (by rw[herr.out,if_neg e1,if_neg e2])
       have hstr:=StrsAt.of_row (s:=⟨na,nsA.length,nc⟩) (qb hn.out hb0) rfl
       have KF:=fun n=>YO ⟨na,nsA.length,nc⟩ nsA nm (W0.drewN n) (hstr.below (below_drewN (Below.refl _ _) n)) (by dsimp only;omega)
       dsimp only at KF
       have hany:(nsA.any fun x=>eqB x nm)=decide (0<=regN nsA nm):=by
        unfold regN
        rcases idxP_cases (fun x=>eqB x nm) nsA with⟨h1,h2⟩|⟨k',hk',h1,h2⟩
        ·rw[h1,decide_eq_false (by omega),List.any_eq_false];intro x hx;simp[h2 x hx]
        ·rw[h1,decide_eq_true (by omega),List.any_eq_true];exact⟨_,List.getElem_mem hk',h2⟩
       have hrr:=qA nsA nm
       generalize regN nsA nm=rn at *
       replace hany:=Lib.hid hany
       clear herr e2 hstr
       go_upto_region 13 with(go_at_call 91;refine(refNamed nm _).mono ?_;rintro e W1 ⟨rfl,rfl⟩)
       go_cut [15,58] from 41 to 70 (fun _ s Wx=>s = .bool (!nameB nm||decide (0<=rn))/\Below W0.heap.size W0 Wx)
       case first=>
        cases hnb:nameB nm with
        |false=>
         go_quiet (fail)
         go_wp2_with fail
         go_meet
         exact⟨by simp[hnb],below_drewN (Below.refl _ _) _⟩
        |true=>
         by_cases h0:0<=rn
         all_goals
          go_quiet ((go_at_call 82;exact Calls.quiet_of_same ((KF _).mono fun _ _ ⟨he,hw⟩=>⟨he,hw.symm⟩)))
          go_wp2_with fail
          go_meet
          exact⟨by simp[hnb,h0],below_drewN (Below.refl _ _) _⟩
       case rest=>
        obtain⟨rfl,hb1⟩:=hcut
        obtain⟨W1,rfl⟩:∃W1,W1=wc:=⟨_,rfl⟩
        have hb01:Below wr.heap.size wr W1:=hb0.trans (hb1.mono hb0.size)
        have hT1:=hT0.at_below hb1
        have hr1:=hr0.at_below hb1
        clear g0 g2 f2 r0 KF
        have g2:=hT1.cell (j:=2) (v:=.int .i64 0) rfl
        have f2:=hT1.frozen 2
        cases hq:(!nameB nm||decide (0<=rn)) with
        |true=>
         have hbad5:nameB nm=false∨(nsA.any fun x=>eqB x nm)=true:=by
          rw[hany.out]
          simpa using hq
         have hs:=Lib.hid (hstop.out W1 5 hb01 (by rw[herr2.out,if_pos hbad5]) (by decide))
         clear hq hbad5
         go_wp2_with fail
         go_end0
         exact hs.out
        |false=>
         have hno5:¬ (nameB nm=false∨(nsA.any fun x=>eqB x nm)=true):=by
          rw[hany.out]
          simp only[Bool.or_eq_false_iff,Bool.not_eq_false'] at hq
          simp[hq.1,hq.2]
         have herr3:Hid (qK nameB nsA p=if ¬ (1<=wd/\wd<=64/\0<=at_/\at_<=(bif out then wd else width)-wd) then 6 else if(dps.any fun q=>lapP q (R,F+at_,wd))=true then 7 else 0):=Lib.hid (by rw[herr2.out,if_neg hno5])
         have q1:=hr1.cell (j:=1) (v:=.int .i64 wd) rfl
         have q2:=hr1.cell (j:=2) (v:=.int .i64 at_) rfl
         clear hq hno5 herr2 hany hrr
         go_upto_region 15 with fail
         go_cut [74] from 75 to 115 (fun s Wx=>s = .bool (decide (¬ (1<=wd/\wd<=64/\0<=at_/\at_<=(bif out then wd else width)-wd)))/\Wx=W1)
         case first=>
          have hdd:=hd2.out
          have hfin:∀c:Bool,(c=true↔¬ (1<=wd/\wd<=64/\0<=at_/\at_<=(bif out then wd else width)-wd))->c=decide (¬ (1<=wd/\wd<=64/\0<=at_/\at_<=(bif out then wd else width)-wd)):=fun c hc=>by
           cases c with
           | true=>exact(decide_eq_true (hc.1 rfl)).symm
           | false=>exact(decide_eq_false (fun h=>by have:=hc.2 h;cases this)).symm
          replace hfin:=Lib.hid hfin
          cases out with
          |true=>
           simp only[cond_true] at hdd
           subst hdd
           by_cases c1:wd<1
           ·go_wp2_with fail
            go_meet
            exact⟨congrArg Value.bool (hfin.out true ⟨fun _=>by omega,fun _=>rfl⟩),rfl⟩
           ·by_cases c2:64<wd
            ·go_wp2_with fail
             go_meet
             exact⟨congrArg Value.bool (hfin.out true ⟨fun _=>by omega,fun _=>rfl⟩),rfl⟩
            ·by_cases c3:at_<0
             ·go_wp2_with fail
              go_meet
              exact⟨congrArg Value.bool (hfin.out true ⟨fun _=>by omega,fun _=>rfl⟩),rfl⟩
             ·by_cases c4:at_=0
              ·subst c4
               go_wp2_with fail
               go_meet
               exact⟨congrArg Value.bool (hfin.out false ⟨fun h=>(by cases h),fun h=>(by exfalso;apply h;simp only[cond_true];omega)⟩),rfl⟩
              ·have c4b:(at_==0)=false:=by simpa using c4
               have c4c:(at_ != 0)=true:=by simpa using c4
               go_wp2_with fail
               go_meet
               exact⟨congrArg Value.bool (hfin.out true ⟨fun _=>by simp only[cond_true];omega,fun _=>rfl⟩),rfl⟩
          |false=>
           simp only[cond_false] at hdd
           have hd1:(deep==1)=false:=by simp;omega
           have hd3:1<deep:=by omega
           have hd4:decide (1<deep)=true:=by simp;omega
           have w0:1<=width:=by omega
           have w1:width<=64:=by omega
           clear hdd
           by_cases c1:wd<1
           ·go_wp2_with fail
            go_meet
            exact⟨congrArg Value.bool (hfin.out true ⟨fun _=>by omega,fun _=>rfl⟩),rfl⟩
           ·by_cases c2:64<wd
            ·go_wp2_with fail
             go_meet
             exact⟨congrArg Value.bool (hfin.out true ⟨fun _=>by omega,fun _=>rfl⟩),rfl⟩
            ·by_cases c3:at_<0
             ·go_wp2_with fail
              go_meet
              exact⟨congrArg Value.bool (hfin.out true ⟨fun _=>by omega,fun _=>rfl⟩),rfl⟩
             ·by_cases c4:width<at_
              ·go_wp2_with fail
               go_meet
               exact⟨congrArg Value.bool (hfin.out true ⟨fun _=>by simp only[cond_false];omega,fun _=>rfl⟩),rfl⟩
              ·have c3b:0<=at_:=by omega
               have c4b:at_<=width:=by omega
               by_cases c5:width-at_<wd
               ·go_wp2_with fail
                go_meet
                exact⟨congrArg Value.bool (hfin.out true ⟨fun _=>by simp only[cond_false];omega,fun _=>rfl⟩),rfl⟩
               ·go_wp2_with fail
                go_meet
                exact⟨congrArg Value.bool (hfin.out false ⟨fun h=>(by cases h),fun h=>(by exfalso;apply h;simp only[cond_false];omega)⟩),rfl⟩
         case rest=>
          obtain⟨rfl,hwc⟩:=hcut
          subst wc
          by_cases h4:¬ (1<=wd/\wd<=64/\0<=at_/\at_<=(bif out then wd else width)-wd)
          ·have hs:=Lib.hid (hstop.out W1 6 hb01 (by rw[herr3.out,if_pos h4]) (by decide))
           have h4b:decide (¬ (1<=wd/\wd<=64/\0<=at_/\at_<=(bif out then wd else width)-wd))=true:=decide_eq_true h4
           rw[h4b]
           clear h4 h4b
           go_wp2_with fail
           go_end0
           exact hs.out
          ·have h4b:decide (¬ (1<=wd/\wd<=64/\0<=at_/\at_<=(bif out then wd else width)-wd))=false:=decide_eq_false h4
           have h5:=Classical.not_not.1 h4
           have herr4:Hid (qK nameB nsA p=if(dps.any fun q=>lapP q (R,F+at_,wd))=true then 7 else 0):=Lib.hid (by rw[herr3.out,if_neg h4])
           rw[h4b]
           have hat:at_<=64:=by
            have hdd:=hd2.out
            obtain⟨x1,x2,x3,x4⟩:=h5
            cases out <;> simp at hdd x4 <;> omega
           have hwd1:=h5.1
           have hwd2:=h5.2.1
           have hat0:=h5.2.2.1
           clear h4 h4b h5 herr3
           have hok:PlcOk (R,F+at_,wd):=⟨by dsimp only;omega,by dsimp only;omega,hwd1,by dsimp only;omega⟩
           obtain⟨W2,hW2⟩:∃W2,W2=W1.alloc (.cells #[.int .i64 R,.int .i64 (F+at_),.int .i64 wd] 94):=⟨_,rfl⟩
           have hb2:Below W1.heap.size W1 W2:=by rw[hW2];exact qe
           have hp2:Cells W2 W1.heap.size 94 #[.int .i64 R,.int .i64 (F+at_),.int .i64 wd]:=by rw[hW2];exact Cells.new _ _ _
           go_upto_region 19 with fail
           rw[←hW2]
           have hb02:Below wr.heap.size wr W2:=hb01.trans (hb2.mono hb01.size)
           have hr2:=hr1.at_below hb2
           have hT2:=hT1.at_below hb2
           have hD2:=hD0.out.step hb02
           have hrowc:∀ (j:Nat) (q:Plc),dps[j]?=some q->∃g,da=some ⟨g,0,none⟩/\W2.cell? ⟨g,j*3,none⟩=some (.int .i64 q.1)/\W2.cell? ⟨g,j*3+1,none⟩=some (.int .i64 q.2.1)/\W2.cell? ⟨g,j*3+2,none⟩=some (.int .i64 q.2.2):=fun j q hq=>by
            have hjl:=(List.getElem?_eq_some_iff.1 hq).1
            have hdl:=hdone.out.2.1
            rcases hD2.row.2 with⟨_,h2⟩|⟨g,cap,cur,h1,_⟩
            ·omega
            ·unfold SlV.v at h1
             injection h1 with ea
             have hrow:=hD2.row
             unfold SlV.v at hrow
             dsimp only at hrow ea
             rw[ea] at hrow
             obtain⟨c0,c1,c2⟩:=zG hq
             exact⟨g,ea,qi hrow c0,qi hrow c1,qi hrow c2⟩
           replace hrowc:=Lib.hid hrowc
           replace hD2:=Lib.hid hD2
           replace hok:=Lib.hid hok
           have hdl:=hdone.out.2.1
           replace hdl:=Lib.hid hdl
           have p0:=hp2.cell (j:=0) (v:=.int .i64 R) rfl
           have p1:=hp2.cell (j:=1) (v:=.int .i64 (F+at_)) rfl
           have p2:=hp2.cell (j:=2) (v:=.int .i64 wd) rfl
           clear q1 q2 g2 f2 hW2
           obtain⟨wo,rfl⟩:∃wo:World,wo=wr:=⟨_,rfl⟩
           go_wp2_with fail
           go_loopw [17,18] (fun i _ W=>∃j:Nat,j<=dn/\i = .int .i64 j/\Hid (((dps.take j).any fun q=>lapP q (R,F+at_,wd))=false)/\Below W2.heap.size W2 W) (fun i _ _=>dn-(intOf i).toNat)
           case atStart=>exact⟨0,Nat.zero_le _,rfl,Lib.hid rfl,Below.refl _ _⟩
           case round=>
            obtain⟨j,hj,rfl,hE,hBj⟩:=hrel
            have j0:(0:Int)<=j:=Int.natCast_nonneg _
            by_cases hlt:j<dn
            ·obtain⟨q,hq⟩:∃q,dps[j]?=some q:=⟨dps[j]'(by have:=hdl.out;omega),List.getElem?_eq_getElem _⟩
             obtain⟨g,hda,y0,y1,y2⟩:=hrowc.out j q hq
             have hqk:=hdone.out.1 q (List.mem_of_getElem? hq)
             have j1:(j:Int)<dn:=by omega
             have s0:=cell_below hBj y0
             have s1:=cell_below hBj y1
             have s2:=cell_below hBj y2
             have t0:=cell_below hBj p0
             have t1:=cell_below hBj p1
             have t2:=cell_below hBj p2
             have hT3:=hT2.at_below hBj
             have g2:=hT3.cell (j:=2) (v:=.int .i64 0) rfl
             have KL:=fun W=>qfc q (R,F+at_,wd) W hqk hok.out
             have hbj2:=hb02.trans (hBj.mono hb02.size)
             obtain⟨x0,x1,x2⟩:=q
             dsimp only at KL s0 s1 s2
             subst hda
             clear y0 y1 y2 hqk
             cases hl:lapP (x0,x1,x2) (R,F+at_,wd) with
             |true=>
              have hs:Hid (∀W,Below wr.heap.size wr W->DownPost G ns ps (spotsB out deep root fr width sv 0 [] L) w (.returned (.tuple #[])) (W.setCell ⟨G,2,none⟩ (.int .i64 7))):=Lib.hid (fun W hW=>hstop.out W 7 (hbj2.trans (hW.mono hbj2.size)) (by
               rw[herr4.out,if_pos (xG (p:=fun q=>lapP q (R,F+at_,wd)) hq hl)]) (by decide))
              rw[hl] at KL
              clear hl hq hE
              go_wp2_with fail
              go_region_held3 (fun w'=>w'.cell? ⟨g,j*3,none⟩=some (.int .i64 x0)/\w'.cell? ⟨g,j*3+1,none⟩=some (.int .i64 x1)/\w'.cell? ⟨g,j*3+2,none⟩=some (.int .i64 x2)/\w'.cell? ⟨W1.heap.size,0,none⟩=some (.int .i64 R)/\w'.cell? ⟨W1.heap.size,1,none⟩=some (.int .i64 (F+at_))/\w'.cell? ⟨W1.heap.size,2,none⟩=some (.int .i64 wd))
               (go_keep)
               ((go_at_call 95;refine(KL _).mono ?_;clear KL;rintro e W3 ⟨rfl,hb3⟩;have z0:=cell_below hb3 s0;have z1:=cell_below hb3 s1;have z2:=cell_below hb3 s2;have z3:=cell_below hb3 t0;have z4:=cell_below hb3 t1;have z5:=cell_below hb3 t2;have g3:=cell_below hb3 g2))
              have hb3':Below wr.heap.size wr W3:=(Below.refl _ _).drew.trans hb3
              have f3:=(hT3.at_below hb3').frozen 2
              go_wp2_with fail
              go_end0
              exact hs.out W3 hb3'
             |false=>
              have hE2:=Lib.hid (zh (p:=fun q=>lapP q (R,F+at_,wd)) hE.out hq hl)
              rw[hl] at KL
              clear hl hq hE
              go_wp2_with fail
              go_region_held3 (fun w'=>w'.cell? ⟨g,j*3,none⟩=some (.int .i64 x0)/\w'.cell? ⟨g,j*3+1,none⟩=some (.int .i64 x1)/\w'.cell? ⟨g,j*3+2,none⟩=some (.int .i64 x2)/\w'.cell? ⟨W1.heap.size,0,none⟩=some (.int .i64 R)/\w'.cell? ⟨W1.heap.size,1,none⟩=some (.int .i64 (F+at_))/\w'.cell? ⟨W1.heap.size,2,none⟩=some (.int .i64 wd))
               (go_keep)
               ((go_at_call 95;refine(KL _).mono ?_;clear KL;rintro e W3 ⟨rfl,hb3⟩;have z0:=cell_below hb3 s0;have z1:=cell_below hb3 s1;have z2:=cell_below hb3 s2;have z3:=cell_below hb3 t0;have z4:=cell_below hb3 t1;have z5:=cell_below hb3 t2))
              go_wp2_with fail
              exact⟨⟨j+1,by omega,by go_num,hE2,hBj.trans (((Below.refl _ _).drew.trans hb3).mono hBj.size)⟩,by simp[intOf];omega⟩
            ·have he0:Hid (qK nameB nsA p=0):=Lib.hid (by rw[herr4.out,Qm hE.out (by have:=hdl.out;omega)];rfl)
             have hD3:=hD2.out.step hBj
             have hr3:=hr2.at_below hBj
             have hp3:=hp2.at_below hBj
             clear hE hrowc hstop herr4
             have okw:=hG2.out.ok
             have hGw:=Nat.le_of_lt hG2.out.lt
             have hcnt:=hI2.out.cnt
             have hfewC:=jI nameB A ns hI2.out.fine hfew2
             rw[List.length_append,List.length_map] at hfewC
             have hdn200:dn<=200:=by omega
             have hrow3:wr.ownsRow w.heap.size 94 3 (.slice da dn dc) dn (placeCells dps):=hD3.row
             have hws3:=hD3.keeps.size
             have hrb:¬ Owned [G] wr wo.heap.size:=qx hD0.out.geo.ok (hb02.trans (hBj.mono hb02.size)) (Nat.le_refl _)
             have hpb:¬ Owned [G] wr W1.heap.size:=qx (hD0.out.step hb01).geo.ok (hb2.trans (hBj.mono hb2.size)) (Nat.le_refl _)
             have hdb:∀r,(Value.slice da dn dc).ownBlock=some r->r<wo.heap.size:=fun r e=>by
              obtain⟨_,cur,hc⟩:=qd (show wo.ownsRow w.heap.size 94 3 (.slice da dn dc) dn (placeCells dps) from hD0.out.row) e
              exact hc.lt
             have hW1s:=hb01.size
             have q0:=hp3.cell (j:=0) (v:=.int .i64 R) rfl
             have q1:=hp3.cell (j:=1) (v:=.int .i64 (F+at_)) rfl
             have q2:=hp3.cell (j:=2) (v:=.int .i64 wd) rfl
             obtain⟨i0,hi0,hz0,hz1,hz2⟩:=info_parts Tryz.infoPlace
             replace hD3:=Lib.hid hD3
             clear hfewC hcnt
             go_upto_region 26 with(at_builtin;go_loud (refine wpList_append_own_at _ rfl _ _ 37 rfl w.heap.size 94 i0 _ 3 24 Tryz.underlying37 hi0 hz0 hz1 hz2 rfl (by decide) _ dn (placeCells dps) rfl (hrow3.alloc _) ⟨wr.heap.size,0,none⟩ 1 1 [.int .i64 R,.int .i64 (F+at_),.int .i64 wd] rfl rfl (qF _ _ _ _ rfl) (by simp[Value.oneCell']) (by unfold maxLen;omega) (by omega) (by simp;omega) ?_;intro v' W4 hown4 hgrow4 _ hblk4;obtain⟨dg,dcap,rfl⟩:=ownsRow_succ hown4))
             have hD4:=qdJ (P:=(R,F+at_,wd)) hD3.out okw hGw hown4 hgrow4 hblk4
             have hr4:=qaI hD3.out.geo.ok hgrow4 (fun r e=>hD3.out.free r e) hr3 hrb (fun e=>by have:=hdb _ e.symm;omega)
             have hp4:=qaI hD3.out.geo.ok hgrow4 (fun r e=>hD3.out.free r e) hp3 hpb (fun e=>by have:=hdb _ e.symm;omega)
             clear hown4 hgrow4 hblk4 hrow3 q0 q1 q2 hi0 hz0 hz1 hz2
             have ok4:=hD4.geo.ok
             obtain⟨nV4,pV4,hT4,hn4,hpl4⟩:=hD4.geo
             obtain⟨na4,nc4,rfl⟩:=qk hn4
             obtain⟨pa4,pc4,rfl⟩:=qk hpl4
             have hlenP:=hlenA.out
             have c0:=hT4.cell (j:=0) (v:=.slice na4 nsA.length nc4) rfl
             have f0:=hT4.frozen 0
             have hnr:=hT4.not_row (by decide) hn4
             have r40:=hr4.1.cell (j:=0) (v:=.string nm) rfl
             have pa0:=fun o=>qf o c0
             have par:=fun o=>qf o r40
             have hnG:=World.new_ne W4 _ c0
             have hT4':=Lib.hid hT4
             have hn4':=Lib.hid hn4
             have hG4:=hT4.lt
             replace hD4:=Lib.hid hD4
             replace hpl4:=Lib.hid hpl4
             replace hlenP:=Lib.hid hlenP
             obtain⟨i0,hi0,hz0,hz1,hz2⟩:=info_parts Tryz.infoStr
             go_region_law (go_loud (refine step_append_lies _ (by rfl) _ _ _ (by rfl) G 9 i0 _ 1 16 Tryz.underlying25 hi0 hz0 hz1 hz2 rfl (by omega) (.slice na4 nsA.length nc4) nsA.length (nsA.map Value.string) (by rfl) ((hn4'.out.alloc _).drew) ⟨W4.heap.size,0,none⟩ 1 1 [.string nm] (by rfl) (by rfl) (World.news_of_block (cs:=#[.string nm]) (t:=9) (fr:=(0,0)) (heap_alloc_new W4 _)) (by simp[Value.oneCell']) (by omega) (by unfold maxLen;omega) (by omega) (by simp;omega) (W4.heap.size+1) (by simp) ?_;intro gg gcap W6 hown1 hgrow1 hat hlt6;have hT6:=(Cells.drewS (hT4'.out.alloc _)).kept hgrow1 hnr;have f6:=hT6.frozen 0;have c6:=hT6.cell (j:=0) (v:=.slice na4 nsA.length nc4) rfl))
             all_goals
              have hgrow2:(W4.drew.alloc (.cells #[.string nm] 9)).grownBy W6 (Value.slice na4 nsA.length nc4).ownBlock:=hgrow1
              have hG1:=zo (v:=.slice na4 nsA.length nc4) hT4'.out (j:=0) rfl (by decide) (Nat.le_refl G) ((Below.refl W4.heap.size W4).drew) hn4'.out hown1 hgrow2 (hat.elim (fun h=>.inl (by rw[h];rfl)) (fun h=>.inr (by rw[h];simp[Value.ownBlock])))
              clear hgrow2 hgrow1 hown1 hat hlt6 hT6 f6 c6 c0 f0 hnr r40 pa0 par hnG hi0 hz0 hz1 hz2 hn4 hn4' hT4
              generalize W6.setCell ⟨G,0,none⟩ (.slice (some ⟨gg,0,none⟩) (nsA.length+1) gcap)=W5 at hG1 ⊢
              have hT5:Cells W5 G 154 #[.slice (some ⟨gg,0,none⟩) (nsA.length+1) gcap,.slice pa4 psA.length pc4,.int .i64 0]:=hG1.cells
              have hpl5:=hG1.rows _ _ _ _ _ hpl4.out (by decide) (by decide)
              have ok5:=hG1.keeps.ok ok4
              have hr5:=jz hG1.keeps ok4 hr4.1 hr4.2
              have hp5:=jz hG1.keeps ok4 hp4.1 hp4.2
              have hr5o:=hG1.keeps.own ok4 _ hr4.1.lt hr4.2
              have hp5o:=hG1.keeps.own ok4 _ hp4.1.lt hp4.2
              have c1:=hT5.cell (j:=1) (v:=.slice pa4 psA.length pc4) rfl
              have f1:=hT5.frozen 1
              have hnr5:=hT5.not_row (by decide) hpl5
              have q0:=hp5.cell (j:=0) (v:=.int .i64 R) rfl
              have q1:=hp5.cell (j:=1) (v:=.int .i64 (F+at_)) rfl
              have q2:=hp5.cell (j:=2) (v:=.int .i64 wd) rfl
              have pa1:=fun o=>qf o c1
              have hnG:=World.new_ne W5 _ c1
              have hT5':=Lib.hid hT5
              have hpl5':=Lib.hid hpl5
              have hG5:=hT5.lt
              have hps200:psA.length<=200:=by have:=hlenP.out;omega
              replace hG1:=Lib.hid hG1
              clear hT5 hpl5
              obtain⟨i0,hi0,hz0,hz1,hz2⟩:=info_parts Tryz.infoPlace
              go_wp2_with fail
              go_region_law (refine step_append_lies _ (by rfl) _ _ _ (by rfl) G 94 i0 _ 3 24 Tryz.underlying37 hi0 hz0 hz1 hz2 rfl (by omega) (.slice pa4 psA.length pc4) psA.length (placeCells psA) (by rfl) ((hpl5'.out.alloc _).drew) ⟨W5.heap.size,0,none⟩ 1 1 [.int .i64 R,.int .i64 (F+at_),.int .i64 wd] (by rfl) (by rfl) (World.news_of_block (cs:=#[.int .i64 R,.int .i64 (F+at_),.int .i64 wd]) (t:=94) (fr:=(0,0)) (heap_alloc_new W5 _)) (by simp[Value.oneCell']) (by omega) (by unfold maxLen;omega) (by omega) (by simp;omega) (W5.heap.size+1) (by simp) ?_;intro gg2 gcap2 W9 hown1 hgrow1 hat hlt6;have hT9:=(Cells.drewS (hT5'.out.alloc _)).kept hgrow1 hnr5;have f9:=hT9.frozen 1;have c9:=hT9.cell (j:=1) (v:=.slice pa4 psA.length pc4) rfl)
              all_goals
               have hgrow2:(W5.drew.alloc (.cells #[.int .i64 R,.int .i64 (F+at_),.int .i64 wd] 94)).grownBy W9 (Value.slice pa4 psA.length pc4).ownBlock:=hgrow1
               have hG2b:=zo (v:=.slice pa4 psA.length pc4) hT5'.out (j:=1) rfl (by decide) (Nat.le_refl G) ((Below.refl W5.heap.size W5).drew) hpl5'.out hown1 hgrow2 (hat.elim (fun h=>.inl (by rw[h];rfl)) (fun h=>.inr (by rw[h];simp[Value.ownBlock])))
               clear hgrow2 hgrow1 hown1 hat hlt6 hT9 f9 c9 c1 f1 hnr5 q0 q1 q2 pa1 hnG hi0 hz0 hz1 hz2
               generalize W9.setCell ⟨G,1,none⟩ (.slice (some ⟨gg2,0,none⟩) (psA.length+1) gcap2)=W7 at hG2b ⊢
               have hD7:=qcd (P:=(R,F+at_,wd)) hD4.out hG1.out hG2b
               have hr7:=jz hG2b.keeps ok5 hr5 hr5o
               have hp7:=jz hG2b.keeps ok5 hp5 hp5o
               have z1:=hr7.cell (j:=1) (v:=.int .i64 wd) rfl
               have z3:=hr7.cell (j:=3) (v:=.slice va subs.length vc) rfl
               have z4:=hp7.cell (j:=1) (v:=.int .i64 (F+at_)) rfl
               clear hG2b hr5 hp5 hr5o hp5o hr7 hp7
               have hsubT:subs.total<N:=by
                have h1:=hI2.out.tot
                simp only[RegL.total] at h1
                omega
               have hd7':deep<=6:=by omega
               have KD:=ih false subs va vc G (deep+1) R (F+at_) wd (.slice va subs.length vc) (nsA++[nm]) (psA++[(R,F+at_,wd)]) W7 hsubT rfl hvc (by omega) (hvs.out.imp id fun⟨b',o',h1,h2⟩=>⟨b',o',h1,ql.of (fun b j v hb hv=>(hD7.below.cell (p:=⟨b,j,none⟩) hb).trans hv) h2⟩)
                hD7.geo (by simp[hlenP.out]) (by
                 have h9:nsA.length≠200:=fun h200=>ZF (nm:=nameB) (p:=p) h200 he0.out
                 simp;omega) (by
                 simp only[cond_false]
                 have hdd:=hd2.out
                 refine⟨by omega,by omega,by omega,?_,by omega,by omega⟩
                 have hF':=hF.out
                 cases out <;> simp at hdd hF' <;> omega)
               rw[Yg] at KD
               have hclose:∀e W8,DownPost G (nsA++[nm]) (psA++[(R,F+at_,wd)]) B W7 e W8->DownR out G w deep root fr width sv (some ⟨b,o,none⟩) L ns ps (.int .i64 R) (.int .i64 F) (.slice (some ⟨dg,0,none⟩) (dn+1) dcap) (.int .i64 ((dn:Int)+1)) W8:=fun e W8 h8=>by
                have hR':=hR.out
                have hF':=hF.out
                have hn':=hnsA.out
                have hp':=hpsA.out
                subst hR' hF' hn' hp'
                exact qce (dV':=⟨some ⟨dg,0,none⟩,dn+1,dcap⟩) hI2.out hp.out hsaid.out he0.out hD7 hok.out h8 _ _ ⟨_,_,rfl,rfl,fun h=>by subst h;exact⟨rfl,rfl⟩⟩
               have hBe:B=spotsInA (deep+1) R (F+at_) wd (.slice va subs.length vc) 0 [] subs:=by rw[hB.out,hR.out,hF.out]
               rw[←hBe] at KD
               replace hclose:=Lib.hid hclose
               clear hBe hD7 hd7'
               go_wp2_with (go_at_call 129;go_loud (refine KD.mono ?_;clear KD;intro e W8 hpost;have hfin:=Lib.hid (hclose.out e W8 hpost);have he:=hpost.1;clear hpost;subst he))
               exact⟨hfin.out,by simp[intOf];omega⟩
  ·obtain⟨nV,pV,hT⟩:=hbad
   have c2:=hT.cell (j:=2) (v:=.int .i64 (placesErr nameB ns (spotsB out deep root fr width sv 0 [] L))) rfl
   have hfin:DownPost G ns ps (spotsB out deep root fr width sv 0 [] L) w (.returned (.tuple #[])) wr:=⟨rfl,hB,hK,fun h=>absurd h hne,fun _=>⟨nV,pV,hT⟩⟩
   replace hfin:=Lib.hid hfin
   have hz:(placesErr nameB ns (spotsB out deep root fr width sv 0 [] L)==0)=false:=by simpa using hne
   generalize placesErr nameB ns (spotsB out deep root fr width sv 0 [] L)=x at c2 hz
   clear hT hne hB hK
   by_cases hlt:k<L.length
   all_goals
    go_wp2_with fail
    go_end0
    exact hfin.out
def YQ(w:World)(L:RegL)(e:Ending)(w':World):Prop:=
 Below w.heap.size w w' /\
 (placesErr nameB [] (spotsOutA 0 L)=0->∃nV pV:SlV,e = .returned (.tuple #[.slice nV.a nV.n nV.c,.slice pV.a pV.n pV.c,.int .i64 0])/\w'.ownsRow w.heap.size 9 1 nV.v ((spotsOut 0 L).map (·.name)).length (((spotsOut 0 L).map (·.name)).map Value.string) /\
   w'.ownsRow w.heap.size 94 3 pV.v ((spotsOut 0 L).map Spot.place).length (placeCells ((spotsOut 0 L).map Spot.place))) /\
 (placesErr nameB [] (spotsOutA 0 L)≠0->e = .returned (.tuple #[.slice none 0 0,.slice none 0 0,.int .i64 (placesErr nameB [] (spotsOutA 0 L))]))
theorem qdK(a:Option Addr)(c:Nat)(L:RegL)(w:World)(hcap:L.length<=c)(hbig:L.length<=4611686018427387904)(hL:L = .nil∨∃b o,a=some ⟨b,o,none⟩/\ql w.heap.size w b o L) :
 Calls Tryz.prog 92 #[.slice a L.length c] w (YQ w L):=by
 obtain⟨W0,hW0⟩:∃W0,W0=w.alloc (.cells #[.slice none 0 0,.slice none 0 0,.int .i64 0] 154):=⟨_,rfl⟩
 have hb0:Below w.heap.size w W0:=by rw[hW0];exact qe
 have hT0:Cells W0 w.heap.size 154 #[.slice none 0 0,.slice none 0 0,.int .i64 0]:=by rw[hW0];exact Cells.new _ _ _
 have hg0:xQ w.heap.size [] [] W0:=⟨_,_,hT0,World.ownsRow_nil _ _ _ _,World.ownsRow_nil _ _ _ _⟩
 have K:=qgq (L.total+1) true L a c w.heap.size 1 0 0 0 (.slice a L.length c) [] [] W0 (Nat.lt_succ_self _) rfl hcap hbig
  (hL.imp id fun⟨b,o,h1,h2⟩=>⟨b,o,h1,ql.of (fun b j v hb hv=>(hb0.cell (p:=⟨b,j,none⟩) hb).trans hv) h2⟩) hg0 rfl (Nat.zero_le _) rfl
 rw[XY] at K
 have hfst:=qJ L 0
 have hnames:(spotsOutA 0 L).map (fun p=>p.1.name)=(spotsOut 0 L).map (·.name):=by rw[←hfst,List.map_map];rfl
 have hplaces:(spotsOutA 0 L).map (fun p=>p.1.place)=(spotsOut 0 L).map Spot.place:=by rw[←hfst,List.map_map];rfl
 unfold DownPost at K
 rw[hnames,hplaces,List.nil_append,List.nil_append] at K
 have hP:∀ (e:Ending) (W1:World),(∀n:Nat,Below w.heap.size w (W1.drewN n))->∀n:Nat,(placesErr nameB [] (spotsOutA 0 L)=0->∃nV pV:SlV,e = .returned (.tuple #[.slice nV.a nV.n nV.c,.slice pV.a pV.n pV.c,.int .i64 0])/\(W1.drewN n).ownsRow w.heap.size 9 1 nV.v ((spotsOut 0 L).map (·.name)).length (((spotsOut 0 L).map (·.name)).map Value.string) /\
  (W1.drewN n).ownsRow w.heap.size 94 3 pV.v ((spotsOut 0 L).map Spot.place).length (placeCells ((spotsOut 0 L).map Spot.place)))->(placesErr nameB [] (spotsOutA 0 L)≠0->e = .returned (.tuple #[.slice none 0 0,.slice none 0 0,.int .i64 (placesErr nameB [] (spotsOutA 0 L))]))->YQ w L e (W1.drewN n):=fun e W1 h0 n h1 h2=>⟨h0 n,h1,h2⟩
 generalize placesErr nameB [] (spotsOutA 0 L)=x at *
 generalize(spotsOut 0 L).map (·.name)=ns at *
 generalize(spotsOut 0 L).map Spot.place=ps at *
 replace hP:=Lib.hid hP
 replace hW0:=Lib.hid hW0
 clear hL hfst hnames hplaces hT0 hg0
 go_enter Tryz.func92,Tryz.ntmps92
 go_upto_region 2 with fail
 rw[←hW0.out]
 go_wp2_with fail
 go_at_call 129
 refine K.mono ?_
 clear K
 rintro e W1 ⟨rfl,hb1,_,hgood,hbad⟩
 have hB:Below w.heap.size w W1:=hb0.trans hb1
 by_cases hx:x=0
 ·obtain⟨nV,pV,hT,hn,hp⟩:=hgood hx
  obtain⟨na,nc,rfl⟩:=qk hn
  obtain⟨pa,pc,rfl⟩:=qk hp
  have c0:=hT.cell (j:=0) (v:=.slice na ns.length nc) rfl
  have c1:=hT.cell (j:=1) (v:=.slice pa ps.length pc) rfl
  have c2:=hT.cell (j:=2) (v:=.int .i64 0) rfl
  have hfin:=hP.out (.returned (.tuple #[.slice na ns.length nc,.slice pa ps.length pc,.int .i64 0])) W1 (fun n=>below_drewN hB n)
  replace hfin:=fun n=>hfin n (fun _=>⟨⟨na,ns.length,nc⟩,⟨pa,ps.length,pc⟩,rfl,qb hn (below_drewN (Below.refl _ _) n),qb hp (below_drewN (Below.refl _ _) n)⟩) (fun h=>absurd hx h)
  replace hfin:=Lib.hid hfin
  clear hgood hbad hT hn hp hx
  go_wp2_with fail
  go_quiet (fail)
  go_wp2_with fail
  go_ret3
  exact hfin.out _
 ·obtain⟨nV,pV,hT⟩:=hbad hx
  have c2:=hT.cell (j:=2) (v:=.int .i64 x) rfl
  have hx2:(x==0)=false:=by simpa using hx
  have hx3:(x != 0)=true:=by simpa using hx
  have hfin:=hP.out (.returned (.tuple #[.slice none 0 0,.slice none 0 0,.int .i64 x])) W1 (fun n=>below_drewN hB n)
  replace hfin:=fun n=>hfin n (fun h=>absurd h hx) (fun _=>rfl)
  replace hfin:=Lib.hid hfin
  clear hgood hbad hT hx
  go_wp2_with fail
  go_quiet (fail)
  go_wp2_with fail
  go_ret3
  exact hfin.out _
structure yy(w:World)(m:MV)(d:MachD):Prop where
 kls:ClassesAt w m.classes d.classes
 ops:OpsAt w m.ops d.ops
 args:StrsAt w m.args d.args
 saved:StrsAt w m.saved d.saved
 res:m.result=d.result
 sl:m.slots=d.slots
 kb:d.classes.length<=100000
 ob:d.ops.length<=100000
 ab:d.args.length<=100000
 sb:d.saved.length<=100000
 rb:∀k:ClassD,k∈d.classes->k.regs.length<=100000
 cb:∀o:OpD,o∈d.ops->o.clob.length<=100000
 ub:∀o:OpD,o∈d.ops->o.uses.length<=100000
structure TabSt(w0 w:World)(T:Nat)(t:TV)(d:MachD)(ns:List ByteArray)(ps:List Plc):Prop where
 below:Below w0.heap.size w0 w
 base:w0.heap.size<=T
 tab:TabAt w T t
 names:w.ownsRow w0.heap.size 9 1 t.names.v ns.length (ns.map Value.string)
 places:w.ownsRow w0.heap.size 94 3 t.places.v ps.length (placeCells ps)
 few:ns.length<=200
 same:ps.length=ns.length
 ok:∀p,p∈ps->PlcOk p
 inp:yy w0 t.m d
theorem TabSt.step{w0 w w':World}{T:Nat}{t:TV}{d:MachD}{ns:List ByteArray}{ps:List Plc}(h:TabSt w0 w T t d ns ps)(hb:Below w.heap.size w w'):TabSt w0 w' T t d ns ps:=
 { h with below:=h.below.trans (hb.mono h.below.size),tab:=Cells.at_below h.tab hb,names:=qb h.names hb,places:=qb h.places hb }
theorem TabSt.grown{w0 W W7:World}{T j:Nat}{t t':TV}{d:MachD}{ns:List ByteArray}{ps:List Plc}{e:TypeId}{size m:Nat}{v':Value}{ys:List Value}(h:TabSt w0 W T t d ns ps)(hG:yG w0.heap.size T j 40 e size t.cells v' m ys W W7)
 (hc:t'.cells=t.cells.setIfInBounds j v') (hm:t'.m=t.m) (hn:t'.names=t.names) (hp:t'.places=t.places) (e1:9≠e) (e2:94≠e):TabSt w0 W7 T t' d ns ps:=by
 refine⟨h.below.trans hG.below,h.base,?_,?_,?_,h.few,h.same,h.ok,by rw[hm];exact h.inp⟩
 ·show Cells W7 T 40 t'.cells
  rw[hc];exact hG.cells
 ·rw[hn];exact xo hG h.tab h.names e1 (by decide)
 ·rw[hp];exact xo hG h.tab h.places e2 (by decide)
theorem TabSt.placesAt{w0 w:World}{T:Nat}{t:TV}{d:MachD}{ns:List ByteArray}{ps:List Plc}(h:TabSt w0 w T t d ns ps):qP w t.cv ps:=by
 have hf:=h.few
 have hs:=h.same
 have hrow:=h.places
 have ea:t.cv.places=t.places:=rfl
 rcases hrow.2 with⟨h1,h2⟩|⟨g,cap,cur,h1,h2,h3,h4,_⟩
 ·unfold SlV.v at h1
  injection h1 with e1 e2 e3
  have hl:ps = []:=List.length_eq_zero_iff.1 (by omega)
  subst hl
  exact⟨h.ok,by rw[ea];simp;omega,by rw[ea];omega,by rw[ea];omega,fun i p hp=>by simp at hp⟩
 ·unfold SlV.v at h1
  injection h1 with e1 e2 e3
  refine⟨h.ok,by rw[ea];omega,by rw[ea];omega,by rw[ea];omega,fun i p hp=>⟨g,0,by rw[ea];exact e1,?_⟩⟩
  rw[Nat.zero_add]
  have hv:t.places.v = .slice (some ⟨g,0,none⟩) t.places.n t.places.c:=by unfold SlV.v;rw[e1]
  rw[hv] at hrow
  obtain⟨q0,q1,q2⟩:=zG hp
  exact⟨qi hrow q0,qi hrow q1,qi hrow q2⟩
theorem TabSt.tabOk{w0 w:World}{T:Nat}{t:TV}{d:MachD}{ns:List ByteArray}{ps:List Plc}{cls:List (List Int)}(h:TabSt w0 w T t d ns ps)(hl:qQ w t.classes cls):TabOk w T t d ns ps cls where
 tab:=h.tab
 names:=StrsAt.of_row h.names rfl
 places:=h.placesAt
 len:=h.same.symm
 few:=by have:=h.few;have:=h.same;omega
 kls:=h.inp.kls.below h.below
 ops:=h.inp.ops.below h.below
 args:=h.inp.args.below h.below
 saved:=h.inp.saved.below h.below
 res:=h.inp.res
 sl:=h.inp.sl
 kb:=h.inp.kb
 ob:=h.inp.ob
 ab:=h.inp.ab
 sb:=h.inp.sb
 rb:=h.inp.rb
 cb:=h.inp.cb
 ub:=h.inp.ub
 lists:=hl
def ClassesR(w0:World)(T:Nat)(t:SlV->TV)(d:MachD)(ns:List ByteArray)(ps:List Plc)(e:Ending)(w':World):Prop:=
 e = .returned (.int .i64 (classesS nameB ns ps d.classes))/\Below w0.heap.size w0 w'/\(classesS nameB ns ps d.classes=0->∃cV,TabSt w0 w' T (t cV) d ns ps/\ListsO w0 w' cV (clsOf ns d.classes))
def regBadB(ns:List ByteArray)(ps:List Plc)(l:List ByteArray)(j:Nat)(x:ByteArray):Bool:=
 decide (regN ns x<0)||(regsL ns (l.take j)).contains (regN ns x)||(decide (0<j)&&decide ((plc ps (regN ns x)).2.2≠(plc ps ((regsL ns l).headD 0)).2.2))
theorem qcf{ns:List ByteArray}{ps:List Plc}{l:List ByteArray}{j:Nat}{x:ByteArray} : regBadB ns ps l j x=false↔Zj ns ps l j x:=by
 unfold regBadB Zj
 simp only[Bool.or_eq_false_iff,Bool.and_eq_false_iff,decide_eq_false_iff_not]
 constructor
 ·rintro⟨⟨h1,h2⟩,h3⟩
  exact⟨by omega,h2,fun h=>Classical.not_not.1 (h3.resolve_left (fun h4=>h4 h))⟩
 ·rintro⟨h1,h2,h3⟩
  refine⟨⟨by omega,h2⟩,?_⟩
  by_cases h:0<j
  ·exact .inr (fun h4=>h4 (h3 h))
  ·exact .inl h
theorem qcg(T:Nat)(mn rs:ByteArray)(rg op ar sv:SlV)(ka:Option Addr)(kn kc:Nat)(sl:Int)(nV pV:SlV)(d:MachD)(ns:List ByteArray)(ps:List Plc)(w0 w:World)
 (hS:TabSt w0 w T ⟨⟨mn,rg,⟨ka,kn,kc⟩,op,ar,rs,sv,sl⟩,nV,pV,⟨none,0,0⟩⟩ d ns ps) :
 Calls Tryz.prog 93 #[.pointer (some ⟨T,0,none⟩)] w (ClassesR w0 T (fun cV=>⟨⟨mn,rg,⟨ka,kn,kc⟩,op,ar,rs,sv,sl⟩,nV,pV,cV⟩) d ns ps):=by
 have hK:=hS.inp.kls
 have hkn:=hK.1
 have hkc:=hK.2.1
 dsimp only at hkn hkc
 have c2:=Cells.cell hS.tab (j:=2) (v:=.slice ka kn kc) rfl
 have hB0:=hS.below
 have hkb:=hS.inp.kb
 by_cases hlong:(64:Int)<kn
 ·have hr:Hid (classesS nameB ns ps d.classes=2):=Lib.hid (by unfold classesS;rw[if_pos (by omega)])
  clear hK hS hkn
  go_enter Tryz.func93,Tryz.ntmps93
  go_wp2_with fail
  go_ret
  exact⟨qp hr.out.symm,hB0,fun h=>by rw[hr.out] at h;cases h⟩
 ·have hr:Hid (classesS nameB ns ps d.classes=qH nameB ns ps [] d.classes):=Lib.hid (by unfold classesS;rw[if_neg (by omega)])
  have hrb:=hS.inp.rb
  obtain⟨cs,hcs⟩:∃cs,cs=d.classes:=⟨_,rfl⟩
  rw[←hcs] at hK hkn hr hrb
  have hfinP:∀e W,ClassesR w0 T (fun cV=>⟨⟨mn,rg,⟨ka,kn,kc⟩,op,ar,rs,sv,sl⟩,nV,pV,cV⟩) d ns ps e W↔(e = .returned (.int .i64 (classesS nameB ns ps cs))/\Below w0.heap.size w0 W/\(classesS nameB ns ps cs=0->∃cV,TabSt w0 W T ⟨⟨mn,rg,⟨ka,kn,kc⟩,op,ar,rs,sv,sl⟩,nV,pV,cV⟩ d ns ps/\ListsO w0 W cV (clsOf ns cs))):=fun e W=>by
   rw[hcs];exact Iff.rfl
  have hkn':=Lib.hid hkn
  have hK2:=Lib.hid hK
  have hS2:=Lib.hid hS
  replace hrb:=Lib.hid hrb
  replace hfinP:=Lib.hid hfinP
  replace hcs:=Lib.hid hcs
  have kn0:(0:Int)<=kn:=Int.natCast_nonneg _
  have kn64:kn<=64:=by omega
  clear hK hS hkn
  go_enter Tryz.func93,Tryz.ntmps93
  go_wp2_with fail
  go_loopw [3] (fun i wr=>∃ (k:Nat) (cV:SlV),k<=kn/\i = .int .i64 k/\TabSt w0 wr T ⟨⟨mn,rg,⟨ka,kn,kc⟩,op,ar,rs,sv,sl⟩,nV,pV,cV⟩ d ns ps/\ListsO w0 wr cV (clsOf ns (cs.take k))/\Hid (qH nameB ns ps [] cs=qH nameB ns ps (cs.take k) (cs.drop k))) (fun i _=>kn-(intOf i).toNat)
  case atStart=>exact⟨0,⟨none,0,0⟩,Nat.zero_le _,rfl,hS2.out,ListsO.nil _ _,Lib.hid rfl⟩
  case round=>
   obtain⟨k,cV,hk,rfl,hS,hL,hT⟩:=hrel
   have k0:(0:Int)<=k:=Int.natCast_nonneg _
   have hBr:=hS.below
   have c2r:=Cells.cell hS.tab (j:=2) (v:=.slice ka kn kc) rfl
   by_cases hlt:k<kn
   ·obtain⟨x,hx⟩:∃x,cs[k]?=some x:=⟨cs[k]'(by have:=hkn'.out;omega),List.getElem?_eq_getElem _⟩
    obtain⟨b,o,hka,r,hc0,hc1,hcr⟩:=hK2.out.2.2 k x hx
    dsimp only at hka
    have hmem:=List.mem_of_getElem? hx
    have hrx:=hrb.out x hmem
    obtain⟨ra,rnn,rc⟩:=r
    have hrn:=hcr.1
    have hrc:=hcr.2.1
    dsimp only at hrn hrc hc1
    subst hrn
    have k1:(k:Int)<kn:=by omega
    have e0:=cell_below hBr hc0
    have e1:=cell_below hBr hc1
    have hT2:=Lib.hid (hT.out.trans (Qz nameB ns ps cs k x hx))
    obtain⟨W0,hW0⟩:∃W0,W0=wr.alloc (.cells #[.string x.name,.slice ra x.regs.length rc] 44):=⟨_,rfl⟩
    have hb0:Below wr.heap.size wr W0:=by rw[hW0];exact qe
    have hbx:Cells W0 wr.heap.size 44 #[.string x.name,.slice ra x.regs.length rc]:=by rw[hW0];exact Cells.new _ _ _
    have hS0:=hS.step hb0
    have hL0:=hL.below hb0
    have hO0:=hS0.tabOk hL0.lists
    have hA0:Below w0.heap.size w0 W0:=hBr.trans (hb0.mono hBr.size)
    have hcr0:=hcr.below hA0
    have hno:∀ (W:World) (c:Int),Below w0.heap.size w0 W->c≠0->classErr nameB ns ps (cs.take k) x=c->ClassesR w0 T (fun cV=>⟨⟨mn,rg,⟨ka,kn,kc⟩,op,ar,rs,sv,sl⟩,nV,pV,cV⟩) d ns ps (.returned (.int .i64 c)) W:=fun W c hW hc he=>by
     have h:classesS nameB ns ps cs=c:=by rw[hr.out,hT2.out,he,if_neg hc]
     exact(hfinP.out _ _).2 ⟨qp h.symm,hW,fun h0=>by rw[h] at h0;exact absurd h0 hc⟩
    have hidx:=yp (p:=fun y:ClassD=>eqB y.name x.name) hx (by simp[eqB])
    have KC:=xA T _ cs x.name W0 hO0.tab (by rw[hcs.out];exact hO0.kls) hO0.kbig
    have KR:=yv T _ ns x.name W0 hO0.tab hO0.names hO0.nbig
    have hce:classErr nameB ns ps (cs.take k) x=if(!nameB x.name||decide (0<=idxP (fun y:ClassD=>eqB y.name x.name) (cs.take k))||decide (0<=regN ns x.name))=true then 5 else if classFine ns ps x=true then 0 else 8:=rfl
    have hci:decide (0<=idxP (fun y:ClassD=>eqB y.name x.name) (cs.take k))=decide (idxP (fun y:ClassD=>eqB y.name x.name) cs<(k:Int)):=by
     rw[Bool.eq_iff_iff,decide_eq_true_iff,decide_eq_true_iff];exact hidx.symm
    rw[hci] at hce
    generalize idxP (fun y:ClassD=>eqB y.name x.name) cs=ci at KC hce
    generalize regN ns x.name=rn at KR hce
    replace hce:=Lib.hid hce
    replace hno:=Lib.hid hno
    replace hW0:=Lib.hid hW0
    replace hS0:=Lib.hid hS0
    replace hL0:=Lib.hid hL0
    replace hO0:=Lib.hid hO0
    replace hcr0:=Lib.hid hcr0
    replace hx:=Lib.hid hx
    have x0:=hbx.cell (j:=0) (v:=.string x.name) rfl
    have x1:=hbx.cell (j:=1) (v:=.slice ra x.regs.length rc) rfl
    subst hka
    clear hci hidx hcr hc0 hc1 hT hS hL hmem
    go_upto_region 8 with(go_at_call 91;refine(refNamed x.name _).mono ?_;rintro e W1 ⟨rfl,rfl⟩)
    rw[←hW0.out]
    go_cut [5,53] from 34 to 53 (fun _ s Wx=>s = .bool (!nameB x.name||decide (ci<(k:Int))||decide (0<=rn))/\Wx=W0)
    case first=>
     cases hnb:nameB x.name with
     |false=>
      go_wp2_with fail
      go_meet
      exact⟨by simp[hnb],rfl⟩
     |true=>
      by_cases h1:ci<(k:Int)
      ·go_wp2_with (first|(go_at_call 11;refine KC.mono ?_;clear KC;rintro e W1 ⟨rfl,rfl⟩)|(go_at_call 55;refine KR.mono ?_;clear KR;rintro e W1 ⟨rfl,rfl⟩))
       go_meet
       exact⟨by simp[hnb,h1],rfl⟩
      ·by_cases h2:0<=rn
       all_goals
        go_wp2_with (first|(go_at_call 11;refine KC.mono ?_;clear KC;rintro e W1 ⟨rfl,rfl⟩)|(go_at_call 55;refine KR.mono ?_;clear KR;rintro e W1 ⟨rfl,rfl⟩))
        go_meet
        exact⟨by rw[hnb,decide_eq_false (show ¬ ci<(k:Int) by omega)];simp[h2],rfl⟩
    case rest=>
     obtain⟨rfl,hwc⟩:=hcut
     subst wc
     clear KC KR
     cases hb5:(!nameB x.name||decide (ci<(k:Int))||decide (0<=rn)) with
     |true=>
      have hfin:=Lib.hid (hno.out W0 5 hA0 (by decide) (by rw[hce.out,hb5];rfl))
      clear hb5
      go_wp2_with fail
      go_ret
      exact hfin.out
     |false=>
      have hce2:Hid (classErr nameB ns ps (cs.take k) x=if classFine ns ps x=true then 0 else 8):=Lib.hid (by rw[hce.out,hb5];rfl)
      have hiff:=Lib.hid (QC ns ps x)
      clear hb5 hce
      by_cases h64:(64:Int)<x.regs.length∨(x.regs.length:Int)<1
      ·have hfin:=Lib.hid (hno.out W0 8 hA0 (by decide) (by
        rw[hce2.out,if_neg]
        intro hf
        have:=(hiff.out.1 hf).1
        omega))
       have hz:x.regs.length=0∨64<x.regs.length:=by omega
       rcases hz with hz|hz
       ·have hz2:(x.regs.length:Int)<1:=by omega
        clear h64 hz
        go_wp2_with fail
        go_ret
        exact hfin.out
       ·have hz2:(64:Int)<x.regs.length:=by omega
        have hz3:¬ (x.regs.length:Int)<1:=by omega
        clear h64 hz
        go_wp2_with fail
        go_ret
        exact hfin.out
      ·have hz2:¬ (64:Int)<x.regs.length:=by omega
       have hz3:¬ (x.regs.length:Int)<1:=by omega
       have hl64:x.regs.length<=64:=by omega
       have hl1:1<=x.regs.length:=by omega
       clear h64
       obtain⟨wo,rfl⟩:∃wo:World,wo=wr:=⟨_,rfl⟩
       go_wp2_with fail
       go_loopw [6,7] (fun lv j W=>∃ (q:Nat) (s:SlV),q<=x.regs.length/\j = .int .i64 q/\lv = .slice s.a s.n s.c/\Hid (W.ownsRow W0.heap.size 3 1 s.v (regsL ns (x.regs.take q)).length ((regsL ns (x.regs.take q)).map (Value.int .i64)))/\Hid (∀ (j':Nat) (y:ByteArray),j'<q->x.regs[j']?=some y->Zj ns ps x.regs j' y)/\Below W0.heap.size W0 W) (fun _ j _=>x.regs.length-(intOf j).toNat)
       case atStart=>exact⟨0,⟨none,0,0⟩,Nat.zero_le _,rfl,rfl,Lib.hid (World.ownsRow_nil _ _ _ _),Lib.hid (fun j' y h=>absurd h (Nat.not_lt_zero _)),Below.refl _ _⟩
       case round=>
        obtain⟨q,⟨la,ln,lc⟩,hq,rfl,rfl,hrow,hG,hBq⟩:=hrel
        have q0:(0:Int)<=q:=Int.natCast_nonneg _
        have hrl:(regsL ns (x.regs.take q)).length=q:=by unfold regsL;rw[List.length_map,List.length_take];omega
        have hln:ln=q:=by
         obtain⟨a',c',h⟩:=qk hrow.out
         unfold SlV.v at h;injection h with _ h2
         have h3:ln=(regsL ns (x.regs.take q)).length:=h2
         omega
        subst hln
        have y0:=cell_below hBq x0
        have y1:=cell_below hBq x1
        by_cases hlq:ln<x.regs.length
        ·obtain⟨y,hy⟩:∃y,x.regs[ln]?=some y:=⟨x.regs[ln],by rw[List.getElem?_eq_getElem hlq]⟩
         obtain⟨br,obr,hra,hcy⟩:=hcr0.out.2.2 ln y hy
         dsimp only at hra
         have ey:=cell_below hBq hcy
         have hOq:=hO0.out.below hBq
         have KR:=yv T _ ns y wr hOq.tab hOq.names hOq.nbig
         have hrr:=qA ns y
         have hq1:(ln:Int)<x.regs.length:=by omega
         have hIat:=IntsAt.of_row hrow.out (by rw[hrl])
         have hLsn:regsL ns (x.regs.take (ln+1))=regsL ns (x.regs.take ln)++[regN ns y]:=by
          unfold regsL
          rw[List.take_add_one,hy,List.map_append];rfl
         have hLt:regsL ns (x.regs.take ln)=(regsL ns x.regs).take ln:=zX ns x.regs ln
         have hgi:=qcf (ns:=ns) (ps:=ps) (l:=x.regs) (j:=ln) (x:=y)
         have hbadE:regBadB ns ps x.regs ln y=(decide (regN ns y<0)||(regsL ns (x.regs.take ln)).contains (regN ns y)||(decide (0<ln)&&decide ((plc ps (regN ns y)).2.2≠(plc ps ((regsL ns x.regs).headD 0)).2.2))):=rfl
         have hh0:0<ln->∃z,(regsL ns (x.regs.take ln))[0]?=some z/\z=(regsL ns x.regs).headD 0/\Num ps z:=fun h=>by
          obtain⟨y0,hy0⟩:∃y0,x.regs[0]?=some y0:=⟨x.regs[0]'(by omega),List.getElem?_eq_getElem _⟩
          have hg0:=hG.out 0 y0 h hy0
          have hrr0:=qA ns y0
          have hlen:=hOq.len
          refine⟨regN ns y0,?_,?_,hg0.1,by omega⟩
          ·unfold regsL;rw[List.getElem?_map,List.getElem?_take_of_lt h,hy0];rfl
          ·unfold regsL
           cases hxr:x.regs with
           | nil=>rw[hxr] at hy0;cases hy0
           | cons a l=>rw[hxr] at hy0;cases hy0;rfl
         have hlen:=hOq.len
         have hPl:=hOq.places
         have c9:=Cells.cell hOq.tab (j:=9) (v:=.slice pV.a pV.n pV.c) rfl
         generalize regBadB ns ps x.regs ln y=bad at *
         generalize regsL ns (x.regs.take ln)=LL at *
         generalize(regsL ns x.regs).headD 0=z0 at *
         generalize regN ns y=ry at *
         have hrow2:wr.ownsRow W0.heap.size 3 1 (.slice la ln lc) ln (LL.map (Value.int .i64)):=by
          have:=hrow.out;rw[hrl] at this;exact this
         have hIat2:IntsAt wr ⟨la,ln,lc⟩ LL:=hIat
         have KI:=fun n=>qaB ⟨la,ln,lc⟩ LL ry (wr.drewN n) (hIat2.below (below_drewN (Below.refl _ _) n)) (by dsimp only;omega)
         dsimp only at KI
         subst hra
         replace hbadE:=Lib.hid hbadE
         replace hgi:=Lib.hid hgi
         replace hLsn:=Lib.hid hLsn
         replace hLt:=Lib.hid hLt
         replace hPl:=Lib.hid hPl
         replace hh0:=Lib.hid hh0
         replace hrl:=Lib.hid hrl
         replace hlen:=Lib.hid hlen
         replace hIat2:=Lib.hid hIat2
         replace hrow2:=Lib.hid hrow2
         replace hy:=Lib.hid hy
         clear hrow hIat hOq
         go_upto_region 17 with(go_at_call 55;refine KR.mono ?_;clear KR;rintro e W1 ⟨rfl,rfl⟩)
         go_cut [109] from 78 to 109 (fun s Wx=>s = .bool bad/\Below wr.heap.size wr Wx)
         case first=>
          by_cases h1:ry<0
          ·have hb:Hid (bad=true):=Lib.hid (by rw[hbadE.out,decide_eq_true h1];rfl)
           go_quiet (fail)
           go_wp2_with fail
           go_meet
           exact⟨by rw[hb.out],below_drewN (Below.refl _ _) _⟩
          ·obtain⟨i,rfl⟩:∃i:Nat,ry=i:=⟨ry.toNat,by omega⟩
           have i0:(0:Int)<=i:=Int.natCast_nonneg _
           have d1:decide ((i:Int)<0)=false:=decide_eq_false h1
           cases hc:LL.contains (i:Int) with
           |true=>
            have hb:Hid (bad=true):=Lib.hid (by rw[hbadE.out,hc];simp)
            have KI2:∀n,Calls Tryz.prog 49 #[.slice la ln lc,.int .i64 i] (wr.drewN n) fun e w'=>e = .returned (.bool true)/\wr.drewN n=w':=fun n=>by have:=KI n;rw[hc] at this;exact this
            clear hc KI
            go_quiet ((go_at_call 49;exact Calls.quiet_of_same ((KI2 _).mono fun _ _ ⟨he,hw⟩=>⟨he,hw.symm⟩)))
            go_wp2_with fail
            go_meet
            exact⟨by rw[hb.out],below_drewN (Below.refl _ _) _⟩
           |false=>
            have KI2:∀n,Calls Tryz.prog 49 #[.slice la ln lc,.int .i64 i] (wr.drewN n) fun e w'=>e = .returned (.bool false)/\wr.drewN n=w':=fun n=>by have:=KI n;rw[hc] at this;exact this
            by_cases h3:0<ln
            ·obtain⟨z,hz,hze,hnz⟩:=hh0.out h3
             obtain⟨b9,o9,ha9,p0,p1,p2⟩:=hPl.out.at_ i (plc ps (i:Int)) (Num.get (r:=(i:Int)) ⟨i0,by have:=hrr.2;have:=hlen.out;omega⟩)
             obtain⟨b9',o9',ha9',q0',q1',q2'⟩:=hPl.out.at_ z.toNat (plc ps z) hnz.get
             have hpl:=hPl.out.len
             obtain⟨iz,rfl⟩:∃iz:Nat,z=iz:=⟨z.toNat,by have:=hnz.1;omega⟩
             have iz0:(0:Int)<=iz:=Int.natCast_nonneg _
             have ea:∀cV',TV.cv ⟨⟨mn,rg,⟨some ⟨b,o,none⟩,kn,kc⟩,op,ar,rs,sv,sl⟩,nV,pV,cV'⟩=TV.cv ⟨⟨mn,rg,⟨some ⟨b,o,none⟩,kn,kc⟩,op,ar,rs,sv,sl⟩,nV,pV,cV'⟩:=fun _=>rfl
             change pV.n=ps.length at hpl
             change pV.a=some _ at ha9 ha9'
             rw[ha9] at ha9'
             cases ha9'
             obtain⟨bl,ol,hla,hcl⟩:=hIat2.out.2.2 0 _ hz
             dsimp only at hla
             simp only[Nat.add_zero,Int.toNat_natCast] at hcl q2'
             have i1:i<pV.n:=by have:=hrr.2;have:=hlen.out;omega
             have i2:(i:Int)<pV.n:=by omega
             have iz1:iz<pV.n:=by have:=hnz.2;omega
             have iz2:(iz:Int)<pV.n:=by omega
             have d3:decide ((0:Int)<ln)=true:=decide_eq_true (by omega)
             have h3i:(0:Int)<ln:=by omega
             have hb:Hid (bad=decide ((plc ps (i:Int)).2.2≠(plc ps (iz:Int)).2.2)):=Lib.hid (by rw[hbadE.out,d1,hc,decide_eq_true h3,hze];rfl)
             generalize(plc ps (i:Int)).2.2=w1 at *
             generalize(plc ps (iz:Int)).2.2=w2 at *
             rw[ha9] at c9
             subst hla
             clear hc KI p0 p1 q0' q1' hz hze hnz ha9 ea
             by_cases h4:w1=w2
             ·have d4:(w1 != w2)=false:=by simpa using h4
              have hb2:Hid (bad=false):=Lib.hid (by rw[hb.out,decide_eq_false (by simpa using h4)])
              clear hb
              subst h4
              go_quiet ((go_at_call 49;exact Calls.quiet_of_same ((KI2 _).mono fun _ _ ⟨he,hw⟩=>⟨he,hw.symm⟩)))
              go_wp2_with fail
              go_meet
              exact⟨by rw[hb2.out],below_drewN (Below.refl _ _) _⟩
             ·have d4:(w1 != w2)=true:=by simpa using h4
              have d5:(w1==w2)=false:=by simpa using h4
              have hb2:Hid (bad=true):=Lib.hid (by rw[hb.out,decide_eq_true h4])
              clear hb h4
              go_quiet ((go_at_call 49;exact Calls.quiet_of_same ((KI2 _).mono fun _ _ ⟨he,hw⟩=>⟨he,hw.symm⟩)))
              go_wp2_with fail
              go_meet
              exact⟨by rw[hb2.out],below_drewN (Below.refl _ _) _⟩
            ·have hb:Hid (bad=false):=Lib.hid (by rw[hbadE.out,d1,hc,decide_eq_false h3];rfl)
             have d3:decide ((0:Int)<ln)=false:=decide_eq_false (by omega)
             clear hc KI
             go_quiet ((go_at_call 49;exact Calls.quiet_of_same ((KI2 _).mono fun _ _ ⟨he,hw⟩=>⟨he,hw.symm⟩)))
             go_wp2_with fail
             go_meet
             exact⟨by rw[hb.out],below_drewN (Below.refl _ _) _⟩
         case rest=>
          obtain⟨rfl,hb1⟩:=hcut
          have hA1:Below w0.heap.size w0 wc:=hA0.trans ((hBq.trans (hb1.mono hBq.size)).mono hA0.size)
          cases bad with
          |true=>
           have hfin:=Lib.hid (hno.out wc 8 hA1 (by decide) (by
            rw[hce2.out,if_neg]
            intro hf
            have:=(hiff.out.1 hf).2 ln y hy.out
            have:=hgi.out.2 this
            cases this))
           go_wp2_with fail
           go_ret
           exact hfin.out
          |false=>
           have hG2:Hid (∀ (j':Nat) (y:ByteArray),j'<ln+1->x.regs[j']?=some y->Zj ns ps x.regs j' y):=Lib.hid (fun j' y' hj' hy'=>by
            by_cases h:j'<ln
            ·exact hG.out j' y' h hy'
            ·obtain rfl:j'=ln:=by omega
             have:=hy.out
             rw[this] at hy';cases hy'
             exact hgi.out.1 rfl)
           have hrow3:=qb hrow2.out hb1
           have hwz:=hBq.size
           have hwz1:=hb1.size
           obtain⟨i0,hi0,hz0,hz1,hz2⟩:=info_parts Tryz.infoInt
           clear hG hgi hbadE hh0
           go_wp2_with (at_builtin;go_loud (refine wpList_append_own_at _ rfl _ _ 41 rfl W0.heap.size 3 i0 _ 1 8 Tryz.underlying41 hi0 hz0 hz1 hz2 rfl (by decide) _ ln (LL.map (Value.int .i64)) rfl (hrow3.alloc _) ⟨wc.heap.size,0,none⟩ 1 1 [.int .i64 ry] rfl rfl (qF _ _ _ _ rfl) (by simp[Value.oneCell']) (by unfold maxLen;omega) (by omega) (by simp;omega) ?_;intro v' W7 hown7 hgrow _ hblk;obtain⟨g',cap',rfl⟩:=ownsRow_succ hown7))
           have hB7:Below W0.heap.size W0 W7:=((hBq.trans (hb1.mono hBq.size)).alloc (Nat.le_trans hwz hwz1) _).grown hgrow (by simp;omega) (fun g hg=>(qd hrow3 hg).1)
           have hrow7:Hid (W7.ownsRow W0.heap.size 3 1 (SlV.v ⟨some ⟨g',0,none⟩,ln+1,cap'⟩) (regsL ns (x.regs.take (ln+1))).length ((regsL ns (x.regs.take (ln+1))).map (Value.int .i64))):=Lib.hid (by
            rw[hLsn.out,List.length_append,hrl.out,List.map_append];exact hown7)
           exact⟨⟨ln+1,⟨some ⟨g',0,none⟩,ln+1,cap'⟩,by omega,by go_num,rfl,hrow7,hG2,hB7⟩,by simp[intOf];omega⟩
        ·have hfine:Hid (classErr nameB ns ps (cs.take k) x=0):=Lib.hid (by
          rw[hce2.out,if_pos (hiff.out.2 ⟨⟨hl1,hl64⟩,fun j' y hj=>hG.out j' y (by have:=(List.getElem?_eq_some_iff.1 hj).1;omega) hj⟩)])
         have hall:x.regs.take ln=x.regs:=List.take_of_length_le (by omega)
         have hIR:IntsR wr ⟨la,ln,lc⟩ (regsL ns x.regs):=by
          have:=hrow.out
          rw[hall] at this
          exact qj this (Nat.zero_le _)
         have hvn:la=none->lc=0:=fun hn=>by
          rcases hIR.2 with⟨h1,_⟩|⟨g,cap,cur,h1,_⟩
          ·unfold SlV.v at h1;injection h1
          ·unfold SlV.v at h1;injection h1 with h1;rw[hn] at h1;cases h1
         have hSq:=hS0.out.step hBq
         obtain⟨vs,hv1,hrow6,hv3⟩:=hL0.out.below hBq
         have hlk:(clsOf ns (cs.take k)).length=k:=by unfold clsOf;rw[List.length_map,List.length_take];have:=hkn'.out;omega
         rw[hlk] at hrow6
         have hgood:Hid (qH nameB ns ps [] cs=qH nameB ns ps (cs.take (k+1)) (cs.drop (k+1))):=Lib.hid (by rw[hT2.out,hfine.out];rfl)
         have hlist:clsOf ns (cs.take (k+1))=clsOf ns (cs.take k)++[regsL ns x.regs]:=by
          unfold clsOf
          rw[List.take_add_one,hx.out,List.map_append];rfl
         have hs64:(regsL ns x.regs).length<=1000:=by unfold regsL;rw[List.length_map];omega
         have c10:=Cells.cell hSq.tab (j:=10) (v:=.slice cV.a cV.n cV.c) rfl
         have hnr:=Cells.not_row hSq.tab (by decide) hrow6
         have hbs:=hSq.below.size
         replace hlk:=Lib.hid hlk
         replace hlist:=Lib.hid hlist
         replace hv1:=Lib.hid hv1
         replace hv3:=Lib.hid hv3
         replace hvn:=Lib.hid hvn
         replace hIR:=Lib.hid hIR
         have hTq:=Lib.hid hSq.tab
         replace hSq:=Lib.hid hSq
         obtain⟨i0,hi0,hz0,hz1,hz2⟩:=info_parts Tryz.infoSl
         have hk64:k<=64:=by omega
         clear hrow hG hfine hall
         go_wp2_with (at_builtin;go_loud (refine wpList_append_own_at _ rfl _ _ 38 rfl w0.heap.size 41 i0 _ 1 24 Tryz.underlying38 hi0 hz0 hz1 hz2 rfl (by decide) _ k (vs.map SlV.v) rfl (hrow6.alloc _) ⟨wr.heap.size,0,none⟩ 1 1 [.slice la ln lc] rfl rfl (qF _ _ _ _ rfl) (by simp[Value.oneCell']) (by unfold maxLen;omega) (by omega) (by simp;omega) ?_;intro v' W7 hown7 hgrow _ hblk;obtain⟨g',cap',rfl⟩:=ownsRow_succ hown7;have hT7:=(Cells.alloc hTq.out (.cells #[.slice la ln lc] 41)).kept hgrow hnr;have f7:=hT7.frozen 10;have c7:=hT7.cell (j:=10) (v:=.slice cV.a cV.n cV.c) rfl))
         have hG:=zo (v:=.slice cV.a cV.n cV.c) hTq.out (j:=10) rfl (by decide) hSq.out.base (Below.refl _ _) hrow6 hown7 hgrow hblk
         have hSn:=hSq.out.grown (t':=⟨⟨mn,rg,⟨some ⟨b,o,none⟩,kn,kc⟩,op,ar,rs,sv,sl⟩,nV,pV,⟨some ⟨g',0,none⟩,k+1,cap'⟩⟩) hG rfl rfl rfl rfl (by decide) (by decide)
         refine⟨⟨k+1,⟨some ⟨g',0,none⟩,k+1,cap'⟩,by omega,by go_num,hSn,⟨vs++[⟨la,ln,lc⟩],?_,?_,?_⟩,hgood⟩,by simp[intOf];omega⟩
         ·rw[hlist.out,List.length_append,List.length_append,hv1.out];rfl
         ·rw[hlist.out,List.length_append,hlk.out,List.map_append];exact hG.row
         ·intro i v l hv hl
          rw[hlist.out] at hl
          by_cases hi:i<k
          ·rw[List.getElem?_append_left (by rw[hv1.out,hlk.out];exact hi)] at hv
           rw[List.getElem?_append_left (by rw[hlk.out];exact hi)] at hl
           obtain⟨h1,h2,h3⟩:=hv3.out i v l hv hl
           exact⟨h1.grown hG hTq.out (by decide) (by decide),h2,h3⟩
          ·rw[List.getElem?_append_right (by rw[hv1.out,hlk.out];omega),hv1.out,hlk.out] at hv
           rw[List.getElem?_append_right (by rw[hlk.out];omega),hlk.out] at hl
           have hi0:i-k=0:=by
            have:=(List.getElem?_eq_some_iff.1 hl).1
            simp at this;omega
           rw[hi0] at hv hl
           cases hv
           cases hl
           exact⟨IntsR.grown hG hTq.out hIR.out (by decide) (by decide),hs64,hvn.out⟩
   ·obtain rfl:k=kn:=by omega
    have hfin:ClassesR w0 T (fun cV=>⟨⟨mn,rg,⟨ka,k,kc⟩,op,ar,rs,sv,sl⟩,nV,pV,cV⟩) d ns ps (.returned (.int .i64 0)) wr:=by
     have h0:classesS nameB ns ps cs=0:=by
      rw[hr.out,hT.out,List.drop_eq_nil_of_le (by have:=hkn'.out;omega)];rfl
     refine(hfinP.out _ _).2 ⟨qp h0.symm,hBr,fun _=>⟨cV,hS,?_⟩⟩
     rw[List.take_of_length_le (by have:=hkn'.out;omega)] at hL
     exact hL
    replace hfin:=Lib.hid hfin
    clear hS hL hK2
    go_wp2_with fail
    go_ret
    exact hfin.out
end Go.Proofs.YtkoloennfejaaaaGreatDoor
