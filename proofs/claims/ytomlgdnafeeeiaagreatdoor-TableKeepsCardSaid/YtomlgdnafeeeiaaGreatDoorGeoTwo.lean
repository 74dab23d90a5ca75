
import Derived.Test.YtomlgdnafeeeiaaGreatDoorGeoOne
import Derived.Deep.RegionLaw
import Derived.Recover
import Derived.RecoverIn
import Derived.DefersIn
import Derived.RegionIn
set_option maxHeartbeats 8000000
set_option maxRecDepth 100000
/-
 'x.f=append(x.f,..)' behind a step that lays memory: what it leaves as it was. And what follows: see the heads within.
-/
namespace Go.Proofs.YtomlgdnafeeeiaaGreatDoor
open Proofs.Tryz
section
open Go.RowKit
theorem qx{W:World}{base:Nat}{e:TypeId}{size:Nat}{v:Value}{k:Nat}{xs:List Value}(h:W.ownsRow base e size v k xs):∃a cap,v = .slice a k cap:=by
 rcases h.2 with⟨rfl,h0⟩|⟨g,cap,_,rfl,_⟩
 ·exact⟨none,0,by rw[h0]⟩
 ·exact⟨_,cap,rfl⟩
theorem qf{W:World}{base:Nat}{e:TypeId}{size:Nat}{v:Value}{k:Nat}{xs:List Value}(h:W.ownsRow base e size v k xs){g:Nat}(hg:v.ownBlock=some g):base<=g/\∃cur,qd W g e cur:=by
 rcases h.2 with⟨rfl,_⟩|⟨g',cap,cur,rfl,hb,hh,_⟩
 ·simp[Value.ownBlock] at hg
 ·obtain rfl:g'=g:=by simpa[Value.ownBlock] using hg
  exact⟨hb,cur,hh⟩
theorem qe{W W':World}{base:Nat}{e:TypeId}{size:Nat}{v:Value}{k:Nat}{xs:List Value}(h:W.ownsRow base e size v k xs)(hb:BX W W'):W'.ownsRow base e size v k xs:=
 h.kept (xz hb) (by
  cases hv:v.ownBlock with
  | none=>exact .inl rfl
  | some b=>exact .inr (by simp))
theorem qd.set{W:World}{T j:Nat}{t:TypeId}{cs:Array Value}(h:qd W T t cs)(v:Value):qd (W.setCell ⟨T,j,none⟩ v) T t (cs.setIfInBounds j v):=by
 obtain⟨hlt,hk⟩:=Array.getElem?_eq_some_iff.1 h
 show(W.heap.modify T _)[T]?=_
 rw[Array.getElem?_eq_getElem (by rw[Array.size_modify];exact hlt),Array.getElem_modify_self,hk]
 rfl
theorem qZ(W:World)(b j:Nat)(v:Value):W.grownBy (W.setCell ⟨b,j,none⟩ v) (some b):=
 ⟨rfl,rfl,rfl,by rw[World.size_setCell];exact vL _,fun k _ hk=>Below.heap_setCell W ⟨b,j,none⟩ v k (fun e=>hk (by rw[e]))⟩
structure ZZ(base T j:Nat)(t e:TypeId)(size:Nat)(cs:Array Value)(v':Value)(m:Nat)(ys:List Value)(W W7:World):Prop where
 cells:qd W7 T t (cs.setIfInBounds j v')
 row:W7.ownsRow base e size v' m ys
 keeps:qR [T] W W7
 others:KeepsOthers W W7
 below:Below base W W7
 block:∀b t' cs',qd W b t' cs'->b≠T->t'≠e->qd W7 b t' cs'
 rows:∀e' size' v2 k2 xs2,W.ownsRow base e' size' v2 k2 xs2->e'≠e->e'≠t->W7.ownsRow base e' size' v2 k2 xs2
theorem jc{W W5 W6:World}{T j:Nat}{t e:TypeId}{cs:Array Value}{size base k m:Nat}{v v':Value}{xs ys:List Value}{tmp:Obj}
 (hT:qd W T t cs) (hj:cs[j]?=some v) (hte:t≠e) (hbT:base<=T) (hB5:BX W W5) (hrow:W.ownsRow base e size v k xs) (hown:W6.ownsRow base e size v' m ys)
 (hgrow:(W5.alloc tmp).grownBy W6 v.ownBlock) (hblk:v'.ownBlock=v.ownBlock∨v'.ownBlock=some (W5.alloc tmp).heap.size):ZZ base T j t e size cs v' m ys W (W6.setCell ⟨T,j,none⟩ v'):=by
 have hT5:=hT.below hB5 hT.lt
 have hrow5:=qe hrow hB5
 have hT6:qd W6 T t cs:=(hT5.alloc tmp).kept hgrow (hT5.not_row hte hrow5)
 have hbase:base<=W.heap.size:=vR hbT (Nat.le_of_lt hT.lt)
 have hgW:W.grownBy W6 v.ownBlock:=by
  have h5:=qE hgrow
  exact⟨h5.os.trans hB5.os,h5.tape.trans hB5.tape,h5.output.trans hB5.output,vR hB5.size h5.size,fun i hi hne=>(h5.block i (vW hi hB5.size) hne).trans (hB5.block i hi)⟩
 refine⟨hT6.set v',?_,(qR.of_below hB5).trans (ZV hT5 hj hte hrow5 hown hgrow hblk),?_,?_,?_,?_⟩
 ·refine hown.kept (qZ W6 T j v') ?_
  exact .inr (fun e'=>(hT6.not_row hte hown) e'.symm)
 ·refine⟨by rw[World.size_setCell];exact hgW.size,fun i o hi ho=>?_⟩
  have hne:i≠T:=fun e'=>by subst e';rw[show W.heap[i]?=_ from hT] at hi;cases hi;cases ho
  rw[Below.heap_setCell W6 ⟨T,j,none⟩ v' i hne]
  refine(hgW.block i (qD hi) (fun e'=>?_)).trans hi
  obtain⟨_,cur,hc⟩:=qf hrow e'.symm
  rw[show W.heap[i]?=_ from hc] at hi;cases hi;cases ho
 ·exact((kB base W).grown hgW hbase (fun i e'=>(qf hrow e').1)).setCell (p:=⟨T,j,none⟩) hbT v'
 ·intro b t' cs' hb hne hte'
  exact(hb.kept hgW (hb.not_row hte' hrow)).other hne v'
 ·intro e' size' v2 k2 xs2 h2 hne1 hne2
  have h6:W6.ownsRow base e' size' v2 k2 xs2:=by
   refine h2.kept hgW ?_
   cases hv:v2.ownBlock with
   | none=>exact .inl rfl
   |some g=>
    refine .inr (fun e1=>?_)
    obtain⟨_,c2,hc2⟩:=qf h2 hv
    obtain⟨_,c1,hc1⟩:=qf hrow e1.symm
    have h3:=(show W.heap[g]?=_ from hc1).symm.trans (show W.heap[g]?=_ from hc2)
    cases h3;exact hne1 rfl
  refine h6.kept (qZ W6 T j v') ?_
  exact .inr (fun e1=>(hT6.not_row (Ne.symm hne2) h6) e1.symm)
end
section
open Go.RowKit
theorem qcw:(prog.info? 9).map (fun i=>(i.zero,i.size,i.bytes))=some (some (.string ⟨#[]⟩),1,16):=by kernel_rfl
theorem Yo:(prog.info? 87).map (fun i=>(i.zero,i.size,i.bytes))=some (some (.agg #[.int .i64 0,.int .i64 0,.int .i64 0]),3,24):=by kernel_rfl
theorem QM(base k:Nat)(nV:Value)(ns:List ByteArray)(nm:ByteArray)(w:World)(hk:ns.length=k)(hsz:k<=200)(hown:w.ownsRow base 9 1 nV k (ns.map Value.string))(hno:nm∉ns) :
 Calls prog 170 #[nV,.string nm] w fun e w'=>e = .returned (.bool false)/\w=w':=by
 rcases hown.2 with⟨rfl,_⟩|⟨g,cap,cur,rfl,_,_,_,hcap,_,_⟩
 ·exact(slices_Contains_string_empty none 0 nm w).mono fun e w' ⟨he,hw⟩=>⟨he,hw.symm⟩
 ·refine(slices_Contains_string g 0 k cap ns nm w (by omega) (by omega) (fun j hj=>?_)).mono fun e w' ⟨he,hw⟩=>⟨?_,hw.symm⟩
  ·rw[Nat.zero_add]
   refine qu hown ?_
   rw[vY,vE hj,vG,vE hj];rfl
  ·rw[he,←hk,List.take_length]
   refine qq ?_
   have:=Lib.containsS_iff ns nm
   cases h:Lib.containsS ns nm with
   | false=>rfl
   | true=>exact absurd (this.1 h) hno
def qK(ps:List (Int×Int×Int)):List Value:=ps.flatMap fun p=>[.int .i64 p.1,.int .i64 p.2.1,.int .i64 p.2.2]
def Qe(base T:Nat)(ns:List ByteArray)(ps:List (Int×Int×Int))(W:World):Prop:=
 ∃nV pV,qd W T 170 #[nV,pV]/\W.ownsRow base 9 1 nV ns.length (ns.map Value.string)/\W.ownsRow base 87 3 pV ps.length (qK ps)
def qgo(base T:Nat)(ns:List ByteArray)(ps:List (Int×Int×Int))(w w':World):Prop:=
 Qe base T ns ps w'/\qR [T] w w'/\KeepsOthers w w'/\Below base w w'
theorem jG{W W':World}(hb:BX W W'):KeepsOthers W W':=⟨hb.size,fun i _ hi _=>(hb.block i (qD hi)).trans hi⟩
theorem qgP{base T k:Nat}{ns:List ByteArray}{ps:List (Int×Int×Int)}{nm:ByteArray}{root x wd:Int}{nV pV n' p':Value}{w w0 W4 W7 W10:World}
 (hb0:BX w w0) (hB4:BX w0 W4) (hG1:ZZ base T 0 170 9 1 #[nV,pV] n' (k+1) (ns.map Value.string++[.string nm]) W4 W7)
 (hG2:ZZ base T 1 170 87 3 #[n',pV] p' (k+1) (qK ps++[.int .i64 root,.int .i64 x,.int .i64 wd]) W7 W10)
 (hbT:base<=T) (hlt:T<w.heap.size) (hkn:ns.length=k) (hps:ps.length=ns.length):qgo base T (ns++[nm]) (ps++[(root,x,wd)]) w W10:=by
 have hbase:base<=w.heap.size:=by omega
 refine⟨⟨n',p',hG2.cells,?_,?_⟩,((qR.of_below hb0).trans (qR.of_below hB4)).trans (hG1.keeps.trans hG2.keeps),((jG hb0).trans (jG hB4)).trans (hG1.others.trans hG2.others),
  (((hb0.mono hbase).trans (hB4.mono (vR hbase hb0.size))).trans hG1.below).trans hG2.below⟩
 ·have:=hG2.rows _ _ _ _ _ hG1.row (by decide) (by decide)
  rw[kA,hkn,kM];exact this
 ·have:=hG2.row
  rw[kA,hps,hkn]
  have e:qK (ps++[(root,x,wd)])=qK ps++[.int .i64 root,.int .i64 x,.int .i64 wd]:=by simp[qK]
  rw[e];exact this
theorem qir(base T:Nat)(ns:List ByteArray)(ps:List (Int×Int×Int))(nm:ByteArray)(wd at_ deep root aAt aW:Int)(sv av:Value)(l:List zt)(w:World)
 (hE:Env w) (hN:xo nm) (hW:js nm) (hno:nm∉ns) (hps:ps.length=ns.length) (hk:ns.length<200) (hT:Qe base T ns ps w) (hbT:base<=T) (hd:deep<=6)
 (hsz:l.length<=200) (hl:jD w av l) (h1:0<=aAt) (h2:aAt<=500) (h3:0<=at_) (h4:at_<=500) (h9:1<=wd) (h10:wd<=64) (h5:aW<=1000) (hf:at_+wd<=aW)
 (hr:∀r,r∈l->r.small/\jN (aAt+r.at_) r.wd (aAt+at_) wd=false) :
 Calls prog 129 #[.pointer (some ⟨T,0,none⟩),.agg #[.string nm,.int .i64 wd,.int .i64 at_,sv,.int .i64 deep,.int .i64 root,.int .i64 aAt,.int .i64 aW,av]] w fun e w'=>
  e = .returned (.tuple #[])/\qgo base T (ns++[nm]) (ps++[(root,aAt+at_,wd)]) w w':=by
 obtain⟨nV,pV,hTc,hn,hp⟩:=hT
 obtain⟨k,hkn⟩:∃k,ns.length=k:=⟨_,rfl⟩
 rw[hkn] at hn hk
 rw[hps,hkn] at hp
 have hkn:=vH hkn
 have hps:=vH hps
 obtain⟨na,ncap,rfl⟩:=qx hn
 obtain⟨pa,pcap,rfl⟩:=qx hp
 obtain⟨w0,hw0⟩:∃w0,w0=w.alloc (.cells #[.string nm,.int .i64 wd,.int .i64 at_,sv,.int .i64 deep,.int .i64 root,.int .i64 aAt,.int .i64 aW,av] 175):=⟨_,rfl⟩
 have hb0:BX w w0:=by rw[hw0];exact qi
 have hs0:qd w0 w.heap.size 175 #[.string nm,.int .i64 wd,.int .i64 at_,sv,.int .i64 deep,.int .i64 root,.int .i64 aAt,.int .i64 aW,av]:=by rw[hw0];exact qd.new _ _ _
 have hTc0:=hTc.below hb0 hTc.lt
 have hk2:(((k:Nat):Int)==200)=false:=by simp;omega
 have C1:∀W,BX w0 W->Calls prog 169 #[.string nm] W fun e w'=>e = .returned (.bool true)/\BX W w':=fun W hb=>jF nm W ((hE.below hb0).below hb) hN hW
 have C2:∀W,BX w0 W->Calls prog 170 #[.slice na k ncap,.string nm] W fun e w'=>e = .returned (.bool false)/\W=w':=fun W hb=>
  QM base k _ ns nm W hkn.out (by omega) (qe (qe hn hb0) hb) hno
 have C3:=fun W=>qds nm wd at_ deep root aAt aW sv av W h9 h10 h3 (by omega) h5 hf
 have C4:∀W,BX w0 W->Calls prog 172 #[.agg #[.string nm,.int .i64 wd,.int .i64 at_,sv,.int .i64 deep,.int .i64 root,.int .i64 aAt,.int .i64 aW,av]] W fun e w'=>e = .returned (.bool false)/\BX W w':=fun W hb=>
  qkc nm wd at_ deep root aAt aW sv av l W hsz ((hl.below hb0).below hb) h1 h2 h3 h4 h9 (by omega) hr
 have hread:∀W,BX w0 W->(W.cell? ⟨w.heap.size,0,none⟩=some (.string nm)/\W.cell? ⟨w.heap.size,1,none⟩=some (.int .i64 wd)/\W.cell? ⟨w.heap.size,2,none⟩=some (.int .i64 at_)/\W.cell? ⟨w.heap.size,3,none⟩=some sv /\
  W.cell? ⟨w.heap.size,4,none⟩=some (.int .i64 deep)/\W.cell? ⟨w.heap.size,5,none⟩=some (.int .i64 root)/\W.cell? ⟨w.heap.size,6,none⟩=some (.int .i64 aAt)/\W.cell? ⟨w.heap.size,7,none⟩=some (.int .i64 aW)/\W.cell? ⟨w.heap.size,8,none⟩=some av /\
  W.cell? ⟨T,0,none⟩=some (.slice na k ncap)/\W.cell? ⟨T,1,none⟩=some (.slice pa k pcap)):=fun W hb=>by
  have a:=hs0.below hb hs0.lt
  have b:=hTc0.below hb hTc0.lt
  exact⟨a.cell rfl,a.cell rfl,a.cell rfl,a.cell rfl,a.cell rfl,a.cell rfl,a.cell rfl,a.cell rfl,a.cell rfl,b.cell rfl,b.cell rfl⟩
 have hR0:=hread w0 (kB _ _)
 rw[hw0] at hR0
 obtain⟨r0,r1,r2,r3,r4,r5,r6,r7,r8,r9,r10⟩:=hR0
 go_enter func129,ntmps129
 go_wp2_with fail
 rw[←hw0]
 clear r0 r1 r2 r3 r4 r5 r6 r7 r8 r9 r10 hw0
 obtain⟨r0,r1,r2,r3,r4,r5,r6,r7,r8,r9,r10⟩:=hread w0 (kB _ _)
 go_region_held3 (fun w'=>w'.cell? ⟨w.heap.size,0,none⟩=some (.string nm)/\w'.cell? ⟨w.heap.size,1,none⟩=some (.int .i64 wd)/\w'.cell? ⟨w.heap.size,2,none⟩=some (.int .i64 at_)/\w'.cell? ⟨w.heap.size,3,none⟩=some (sv)/\w'.cell? ⟨w.heap.size,4,none⟩=some (.int .i64 deep)/\w'.cell? ⟨w.heap.size,5,none⟩=some (.int .i64 root)/\w'.cell? ⟨w.heap.size,6,none⟩=some (.int .i64 aAt)/\w'.cell? ⟨w.heap.size,7,none⟩=some (.int .i64 aW)/\w'.cell? ⟨w.heap.size,8,none⟩=some (av)/\w'.cell? ⟨T,0,none⟩=some (.slice na k ncap)/\w'.cell? ⟨T,1,none⟩=some (.slice pa k pcap))
  (go_keep)
  ((first
    |(go_at_call 169;refine(C1 _ ((kB _ _).drew)).mono ?_;clear C1;rintro e W1 ⟨rfl,hb⟩;have hB1:BX w0 W1:=((kB _ _).drew).trans hb;have hR1:=hread W1 hB1)
    |(go_at_call 170;refine(C2 _ hB1).mono ?_;clear C2;rintro e W2 ⟨rfl,rfl⟩)))
 clear r0 r1 r2 r3 r4 r5 r6 r7 r8 r9 r10
 go_wp2_with (first
  |(go_at_call 171;refine(C3 _).mono ?_;clear C3;rintro e W3 ⟨rfl,hb3⟩;have hB3:=hB1.trans (hb3.mono hB1.size);have hR3:=hread W3 hB3;clear hR1)
  |(go_at_call 172;refine(C4 _ hB3).mono ?_;clear C4;rintro e W4 ⟨rfl,hb4⟩;have hB4:=hB3.trans (hb4.mono hB3.size);have hR4:=hread W4 hB4;clear hR3))
 have C5:=fun W=>qbL nm W (by have:=hN.le;omega)
 obtain⟨q0,q1,q2,q3,q4,q5,q6,q7,q8,q9,q10⟩:=hR4
 have hn4:W4.ownsRow base 9 1 (.slice na k ncap) k (ns.map Value.string):=qe (qe hn hb0) hB4
 have hT4:=(hTc0.below hB4 hTc0.lt)
 have hf0:=hT4.frozen 0
 have hf1:=hT4.frozen 1
 have ht4:=hT4.lt
 have hnr:=hT4.not_row (by decide) hn4
 obtain⟨i0,hi,hz0,hz1,hz2⟩:=info_parts qcw
 have hnew:=World.new_ne W4 _ q9
 have hs4:=hs0.below hB4 hs0.lt
 have hs4lt:=hs4.lt
 go_region_law (first
  |(refine step_append_lies _ (by rfl) _ _ _ (by rfl) base 9 i0 _ 1 16 underlying25 hi hz0 hz1 hz2 rfl (by omega) (.slice na k ncap) k (ns.map Value.string) (by rfl) ((qe hn4 hB5).alloc _)
     ⟨W5.heap.size,0,none⟩ 1 1 [.string nm] (by rfl) (by rfl) (World.news_of_block (cs:=#[.string nm]) (t:=9) (fr:=(0,0)) (heap_alloc_new W5 _)) (by simp[Value.oneCell'])
     (by omega) (by unfold maxLen;omega) (by omega) (by simp;have:=hB5.size;omega) (W5.heap.size+1) (by simp) ?_;intro gg gcap W6 hown1 hgrow hat hlt;have hT6:=((hT4.below hB5 ht4).alloc _).kept hgrow hnr;have f6:=hT6.frozen 0;have c6:=hT6.cell (j:=0) rfl)
  |(go_simp;go_at_call 66;refine(C5 _).mono ?_;clear C5;rintro e W5 ⟨rfl,hb5⟩;have hB5:BX W4 W5:=((kB _ _).drew).trans hb5;have p0:=qb hB5 q0;have p9:=qb hB5 q9;have pa9:=fun o=>qk o p9))
 all_goals
  have hG1:=jc (v:=.slice na k ncap) hT4 (j:=0) rfl (by decide) hbT hB5 hn4 hown1 hgrow (hat.elim (fun h=>.inl (by rw[h];rfl)) (fun h=>.inr (by rw[h];simp[Value.ownBlock])))
  clear hT6 f6 c6 hown1 hgrow hat hlt p0 p9 pa9 q0 q1 q2 q3 q4 q5 q6 q7 q8 q9 q10 hf0 hf1 hnew hs4lt hnr hB5 hb5 hi hz0 hz1 hz2 hk2
  generalize W6.setCell ⟨T,0,none⟩ (.slice (some ⟨gg,0,none⟩) (k+1) gcap)=W7 at hG1 ⊢
  have hT7:qd W7 T 170 #[.slice (some ⟨gg,0,none⟩) (k+1) gcap,.slice pa k pcap]:=hG1.cells
  have hs7:=hG1.block _ _ _ hs4 (by have:=hTc.lt;omega) (by decide)
  have hp7:=hG1.rows _ _ _ _ _ (qe (qe hp hb0) hB4) (by decide) (by decide)
  have hn7:=hG1.row
  have hW07:w.heap.size<W7.heap.size:=hs7.lt
  have hbase7:base<=W7.heap.size:=vR hbT (Nat.le_of_lt hT7.lt)
  have q0:=hs7.cell (j:=0) (v:=.string nm) rfl
  have q1:=hs7.cell (j:=1) (v:=.int .i64 wd) rfl
  have q2:=hs7.cell (j:=2) (v:=.int .i64 at_) rfl
  have q3:=hs7.cell (j:=3) (v:=sv) rfl
  have q5:=hs7.cell (j:=5) (v:=.int .i64 root) rfl
  have q6:=hs7.cell (j:=6) (v:=.int .i64 aAt) rfl
  have q7:=hs7.cell (j:=7) (v:=.int .i64 aW) rfl
  have qT:=hT7.cell (j:=1) (v:=.slice pa k pcap) rfl
  have C6:=fun W=>Xl root aAt aW wd at_ nm sv W h1 (by omega) h3 (by omega)
  obtain⟨i0,hi,hz0,hz1,hz2⟩:=info_parts Yo
  go_wp2_with fail
  go_region_law (first
   |(refine step_append_lies _ (by rfl) _ _ _ (by rfl) base 87 i0 _ 3 24 underlying64 hi hz0 hz1 hz2 rfl (by omega) (.slice pa k pcap) k (qK ps) (by rfl) ((qe hp7 hB8).alloc _)
      ⟨W8.heap.size,0,none⟩ 1 1 [.int .i64 root,.int .i64 (aAt+at_),.int .i64 wd] (by rfl) (by rfl) (World.news_of_block (cs:=#[.int .i64 root,.int .i64 (aAt+at_),.int .i64 wd]) (t:=87) (fr:=(0,0)) (heap_alloc_new W8 _)) (by simp[Value.oneCell'])
      (by omega) (by unfold maxLen;omega) (by omega) (by simp;have:=hB8.size;omega) (W8.heap.size+1) (by simp) ?_;intro gg2 gcap2 W9 hown1 hgrow hat hlt;have hT9:=((hT7.below hB8 hT7.lt).alloc _).kept hgrow (hT7.not_row (by decide) hp7);have f9:=hT9.frozen 1;have c9:=hT9.cell (j:=1) (v:=.slice pa k pcap) rfl)
   |(go_simp;go_at_call 173;refine(C6 _).mono ?_;clear C6;rintro e W8 ⟨rfl,hb8⟩;have hB8:BX W7 W8:=((kB _ _).drew).trans hb8;have p9:=qb hB8 qT;have pa9:=fun o=>qk o p9))
 all_goals
  have hG2:=jc (v:=.slice pa k pcap) hT7 (j:=1) rfl (by decide) hbT hB8 hp7 hown1 hgrow (hat.elim (fun h=>.inl (by rw[h];rfl)) (fun h=>.inr (by rw[h];simp[Value.ownBlock])))
  go_end0
  exact⟨rfl,qgP hb0 hB4 hG1 hG2 hbT hTc.lt hkn.out hps.out⟩
end
section
open Go.RowKit Go.Shelf
attribute [local go_sem] Oper.semAt_some
theorem qeX(m:Nat)(p:Addr)(w:World) :
 CallsDIn Fence.wide m prog 126 #[.pointer (some p)] .returning w fun e u' w'=>e = .returned (.tuple #[])/\u' = .returning/\w'=w.alloc (.cells #[.int .i64 0] 163):=by
 have hta:∀w,(Instr.typeAssert Value.nilIface 20 165 true).run prog w = .ok (.tuple #[.nilIface,.bool false]) w:=fun _=>by kernel_rfl
 refine callsDIn_of_wpSIn func126 rfl trivial fun c₀ cs hu=>?_
 apply wpSIn_seq
 apply wpSIn_region
 simp[wpOpsSIn,go_sem,ntmps126,Exit.thenS,Array.replicate_succ]
 apply wpSIn_seq
 apply wpSIn_region
 simp[wpOpsSIn,go_sem,recoverD,hu,hta,Exit.thenS]
 refine wpSIn_of_wpIn (F:=Fence.wide) rfl ?_
 gi_wp2
 refine⟨trivial,?_⟩
 gi_wp2
 cases c₀
 simp_all[bodyPostS,results,results126]
def qA.place(x:qA):Int×Int×Int:=(x.root,x.aAt+x.at_,x.wd)
structure qkd(w:World)(pre:List qA)(x:qA):Prop where
 name:xo x.name
 word:js x.name
 fresh:x.name∉pre.map (·.name)
 few:pre.length<200
 deep:x.deep<=6
 a0:0<=x.aAt
 a1:x.aAt<=500
 b0:0<=x.at_
 b1:x.at_<=500
 w0:1<=x.wd
 w1:x.wd<=64
 c1:x.aW<=1000
 fits:x.at_+x.wd<=x.aW
 vals:(∃a n c,x.sv = .slice a n c)/\∃a n c,x.av = .slice a n c
 ahead:∃l,l.length<=200/\jD w x.av l/\∀r,r∈l->r.small/\jN (x.aAt+r.at_) r.wd (x.aAt+x.at_) x.wd=false
theorem Ke{base T:Nat}{ns:List ByteArray}{ps:List (Int×Int×Int)}{W:World}(h:Qe base T ns ps W){b:Nat}(hb:zg [T] W b):b=T∨(∃cur,qd W b 9 cur)∨∃cur,qd W b 87 cur:=by
 obtain⟨nV,pV,hT,hn,hp⟩:=h
 rcases hb with h1|⟨t',ht,o,a,n,c,hc,ha⟩
 ·exact .inl (by simpa using h1)
 ·obtain rfl:t'=T:=by simpa using ht
  unfold World.cell? at hc;rw[show W.heap[t']?=_ from hT] at hc
  have hj:(#[nV,pV]:Array Value)[o]?=some (.slice (some a) n c):=hc
  match o,hj with
  |0,hj=>
   have hv:nV = .slice (some a) n c:=by simpa using hj
   obtain⟨_,cur,hcur⟩:=qf hn (g:=b) (by rw[hv,←ha];rfl)
   exact .inr (.inl ⟨cur,hcur⟩)
  |1,hj=>
   have hv:pV = .slice (some a) n c:=by simpa using hj
   obtain⟨_,cur,hcur⟩:=qf hp (g:=b) (by rw[hv,←ha];rfl)
   exact .inr (.inr ⟨cur,hcur⟩)
  | o+2,hj=>simp at hj
theorem JH{base T:Nat}{ns:List ByteArray}{ps:List (Int×Int×Int)}{W:World}(h:Qe base T ns ps W):zp [T] W:=fun b hb=>by
 rcases Ke h hb with rfl|⟨cur,hc⟩|⟨cur,hc⟩
 ·obtain⟨_,_,hT,_,_⟩:=h;exact hT.lt
 ·exact hc.lt
 ·exact hc.lt
theorem qbN{base T:Nat}{ns:List ByteArray}{ps:List (Int×Int×Int)}{W:World}(h:Qe base T ns ps W){b:Nat}{t:TypeId}{cs:Array Value}(hc:qd W b t cs)(hne:b≠T)(h1:t≠9)(h2:t≠87):¬ zg [T] W b:=fun hb=>by
 rcases Ke h hb with e|⟨cur,hc2⟩|⟨cur,hc2⟩
 ·exact hne e
 ·have h3:=(show W.heap[b]?=_ from hc).symm.trans (show W.heap[b]?=_ from hc2)
  cases h3;exact h1 rfl
 ·have h3:=(show W.heap[b]?=_ from hc).symm.trans (show W.heap[b]?=_ from hc2)
  cases h3;exact h2 rfl
theorem YK{A B:World}{base:Nat}{e:TypeId}{size:Nat}{v:Value}{k:Nat}{xs:List Value}{row:Option Nat}(h:A.ownsRow base e size v k xs)(hg:A.grownBy B row)(hr:∀r,row=some r->∃o:Obj,A.heap[r]?=some o/\o.isCells=false):B.ownsRow base e size v k xs:=by
 refine h.kept hg ?_
 cases hv:v.ownBlock with
 | none=>exact .inl rfl
 |some g=>
  refine .inr (fun e1=>?_)
  obtain⟨_,cur,hc⟩:=qf h hv
  obtain⟨o,ho,hoc⟩:=hr g e1.symm
  rw[show A.heap[g]?=_ from hc] at ho;cases ho;cases hoc
theorem qgQ{β:Type}(base T:Nat)(f:β->List ByteArray)(g:β->List (Int×Int×Int)):Own (fun s W=>Qe base T (f s) (g s) W):=fun _ A B row ⟨nV,pV,hT,hn,hp⟩ hg hr=>
 ⟨nV,pV,ja (β:=Unit) T _ (fun _=>#[nV,pV]) () A B row hT hg hr,YK hn hg hr,YK hp hg hr⟩
def JI(w:World)(pre:List qA)(W:World):Prop:=
 Qe w.heap.size (w.heap.size+1) (pre.map (·.name)) (pre.map qA.place) W/\BX w W/\qd W w.heap.size 35 #[.int .i64 0]/\w.heap.size+3<=W.heap.size
theorem QN(w:World)(B:Nat)(hB:w.heap.size<=B):OwnFrom B (JI w):=
 OwnFrom.and (Own.from (qgQ _ _ (fun pre:List qA=>pre.map (·.name)) (fun pre=>pre.map qA.place)) _)
  (OwnFrom.and (ownFrom_below (vL _) hB) (OwnFrom.and (Own.from (ja _ _ fun _=>_) _) (fun _ _ _ _ hs hg _=>vR hs hg.size)))
def qbO(w:World)(sa:Option Addr)(c':Nat)(L:qg)(x:qA)(Bt:Nat):Act:={ tmps:=#[Value.slice sa L.length c',undef,Value.slice none 0 0,Value.slice none 0 0,Value.pointer (some ⟨w.heap.size,0,none⟩),Value.pointer (some ⟨w.heap.size+1,0,none⟩),Value.pointer (some ⟨Bt,0,none⟩),Value.func (.func 126) #[] #[.pointer (some ⟨w.heap.size,0,none⟩)],Value.slice sa L.length c',Value.func (.func 167) #[] #[.pointer (some ⟨w.heap.size+1+1,0,none⟩)],Value.agg #[.string x.name,.int .i64 x.wd,.int .i64 x.at_,x.sv,.int .i64 x.deep,.int .i64 x.root,.int .i64 x.aAt,.int .i64 x.aW,x.av],undef,undef,undef,undef,undef,undef],defers:=[] }
def jh(w:World)(E:List qA)(e:Ending)(w':World):Prop:=
 ∃nV pV,e = .returned (.tuple #[nV,pV,.int .i64 0])/\w'.ownsRow w.heap.size 9 1 nV E.length (E.map fun x=>.string x.name)/\w'.ownsRow w.heap.size 87 3 pV E.length (qK (E.map qA.place))/\BX w w'
theorem YL(sa:Option Addr)(c':Nat)(L:qg)(w:World)(hE:Env w)
 (hTells:∀We,BX w We->We.cell? ⟨w.heap.size+1+1,0,none⟩=some (.slice sa L.length c')->Qw [w.heap.size+1] w.heap.size We ->
   qgl 3 prog 167 #[.pointer (some ⟨w.heap.size+1+1,0,none⟩)] (fun x:qA=>#[x.val]) [w.heap.size+1] (fun pre x=>pre++[x] <+: qo 0 L) (qo 0 L) We)
 (hfine:∀pre x,pre++[x] <+: qo 0 L->qkd w pre x) :
 Calls prog 74 #[.slice sa L.length c'] w (jh w (qo 0 L)):=by
 have hmf:∀ (fn:Fn) (first cap:Array Value) (w:World),(Instr.makeFunc fn first cap).run prog w = .ok (.func fn first cap) w:=fun _ _ _ _=>rfl
 refine(callsIn_wide (n:=4)).1 ?_
 refine callsIn_of_wp_marks func74 rfl trivial ?_ rfl
 simp only[ntmps74,List.size_toArray,List.length_cons,List.length_nil,Nat.reduceAdd,Nat.reduceSub,Array.replicate_succ,Array.replicate_zero,List.push_toArray,List.append_toArray,List.nil_append,List.cons_append]
 gi_wp2_with (refine⟨trivial,?_⟩;gi_at_call 128;refine(callsIn_wide.2 (qgn _ _ _ _)).mono ?_;rintro e w' ⟨rfl,rfl⟩)
 generalize hW:((w.alloc (.cells #[.int .i64 0] 35)).alloc (.cells #[.slice none 0 0,.slice none 0 0] 170)).alloc (.cells #[.slice sa L.length c'] 22)=We
 have hBe:BX w We:=by rw[←hW];exact(qi.alloc (by simp) _).alloc (by simp;omega) _
 have hze:We.heap.size=w.heap.size+3:=by rw[←hW];simp
 have h4e:qd We w.heap.size 35 #[.int .i64 0]:=by rw[←hW];exact((qd.new _ _ _).alloc _).alloc _
 have hTe:qd We (w.heap.size+1) 170 #[.slice none 0 0,.slice none 0 0]:=by
  rw[←hW]
  have:=qd.new (w.alloc (.cells #[.int .i64 0] 35)) 170 #[.slice none 0 0,.slice none 0 0]
  rw[vZ] at this;exact this.alloc _
 have hle:We.cell? ⟨w.heap.size+1+1,0,none⟩=some (.slice sa L.length c'):=by
  rw[←hW]
  have:=zr ((w.alloc (.cells #[.int .i64 0] 35)).alloc (.cells #[.slice none 0 0,.slice none 0 0] 170)) #[.slice sa L.length c'] 22 (j:=0) rfl
  simp only[vZ] at this;exact this
 clear hW
 have hTk:Qe w.heap.size (w.heap.size+1) [] [] We:=⟨_,_,hTe,kO _ _ _ _,kO _ _ _ _⟩
 have hfree:Qw [w.heap.size+1] w.heap.size We:=⟨JH hTk,by omega,fun b hb ho=>by
  rcases ho with h1|⟨t',ht,o,a,n,c,hc,ha⟩
  ·have:b=w.heap.size+1:=by simpa using h1
   omega
  ·obtain rfl:t'=w.heap.size+1:=by simpa using ht
   unfold World.cell? at hc;rw[show We.heap[w.heap.size+1]?=_ from hTe] at hc
   have hj:(#[.slice none 0 0,.slice none 0 0]:Array Value)[o]?=some (.slice (some a) n c):=hc
   match o,hj with
   | 0,hj=>simp at hj
   | 1,hj=>simp at hj
   | o+2,hj=>simp at hj⟩
 refine qin (by omega) (gf:=167) (lb:=#[.pointer (some ⟨w.heap.size+1+1,0,none⟩)]) rfl (enters_of func167 (by kernel_rfl) rfl)
  (hTells We hBe hle hfree) (kB _ _) (by simp;omega) (fun _=>rfl)
  (JI w) (QN w _ (by omega)) ⟨hTk,hBe,h4e,by omega⟩
  (fun x a' W=>∃Bt,w.heap.size+3<=Bt/\qd W Bt 175 #[.string x.name,.int .i64 x.wd,.int .i64 x.at_,x.sv,.int .i64 x.deep,.int .i64 x.root,.int .i64 x.aAt,.int .i64 x.aW,x.av]/\a'=qbO w sa c' L x Bt)
  (fun _ a'=>fun _ A B row hs hg hr=>by
    obtain⟨Bt,g1,g2,g3⟩:=hs
    exact⟨Bt,g1,ja (β:=Unit) Bt _ (fun _=>_) () A B row g2 hg (fun r e=>(hr r e).2),g3⟩)
  ?assign ?body ?done
 case assign=>
  rintro l pre x W K hi hok hK
  obtain⟨⟨va,sn,sc,hsv⟩,aa,an,ac,hav⟩:=(hfine pre x hok).vals
  have hz:=hi.2.2.2
  obtain⟨xn,xw,xa,xs,xd,xr,xaa,xaw,xav⟩:=x
  dsimp only at hsv hav
  subst hsv hav
  unfold qA.val
  dsimp only
  clear hfine
  gi_wp2
  refine hK _ _ ((KeepsOthers.alloc _ _).from _) (qR.of_below ((kB _ W).alloc (vL _) _)) ((QN w (w.heap.size+3) (by omega)).alloc _ hi) ⟨W.heap.size,by omega,qd.new W _ _,rfl⟩
 case body=>
  rintro l pre x a' W ⟨hTw,hB,h4,hz⟩ ⟨Bt,hBt,hbt,rfl⟩ hok
  have fine:=hfine pre x hok
  obtain⟨al,hal1,hal2,hal3⟩:=fine.ahead
  have C:=qir w.heap.size (w.heap.size+1) (pre.map (·.name)) (pre.map qA.place) x.name x.wd x.at_ x.deep x.root x.aAt x.aW x.sv x.av al W (hE.below hB) fine.name fine.word fine.fresh (by simp) (by simpa using fine.few) hTw (by omega) fine.deep hal1 (hal2.below hB) fine.a0 fine.a1 fine.b0 fine.b1 fine.w0 fine.w1 fine.c1 fine.fits hal3
  have C':=C.mono (R':=fun e W'=>e = .returned (.tuple #[])/\qct We.heap.size [w.heap.size+1] (JI w) (pre++[x]) W .normal { tmps:=#[],defers:=[] } W') (fun e W' ⟨he,hA⟩=>⟨he,hA.2.2.1.from _,hA.2.1,by
   have h1:=hA.1
   refine⟨?_,hB.trans hA.2.2.2,hA.2.1.cells (JH hTw) h4 (qbN hTw h4 (by omega) (by decide) (by decide)),vR hz hA.2.2.2.size⟩
   rw[kM,kM];exact h1⟩)
  clear C hal2 hal3 hfine hTw h4 hB
  obtain⟨xn,xw,xa,xs,xd,xr,xaa,xaw,xav⟩:=x
  dsimp only at hbt C'
  have c0:=hbt.cell (j:=0) (v:=.string xn) rfl
  have c1:=hbt.cell (j:=1) (v:=.int .i64 xw) rfl
  have c2:=hbt.cell (j:=2) (v:=.int .i64 xa) rfl
  have c3:=hbt.cell (j:=3) (v:=xs) rfl
  have c4:=hbt.cell (j:=4) (v:=.int .i64 xd) rfl
  have c5:=hbt.cell (j:=5) (v:=.int .i64 xr) rfl
  have c6:=hbt.cell (j:=6) (v:=.int .i64 xaa) rfl
  have c7:=hbt.cell (j:=7) (v:=.int .i64 xaw) rfl
  have c8:=hbt.cell (j:=8) (v:=xav) rfl
  clear fine hbt
  unfold qbO
  dsimp only
  gi_wp2_with (refine⟨trivial,?_⟩;gi_at_call 129;refine(CallsIn.inRound l (callsIn_wide.2 C')).mono ?_;clear C';rintro e W1 ⟨rfl,hA⟩)
  exact hA
 case done=>
  rintro D W hD ⟨⟨nV,pV,hT,hn,hp⟩,hB,h4,hz⟩ hK
  obtain⟨na,ncap,rfl⟩:=qx hn
  obtain⟨pa,pcap,rfl⟩:=qx hp
  simp only[vP] at hT hn hp
  have c0:=hT.cell (j:=0) (v:=.slice na (qo 0 L).length ncap) rfl
  have c1:=hT.cell (j:=1) (v:=.slice pa (qo 0 L).length pcap) rfl
  have e0:=h4.cell (j:=0) (v:=.int .i64 0) rfl
  have ef:=h4.frozen 0
  clear hfine
  gi_wp2
  refine wpIn_wide.2 ?_
  go_region
  all_goals gi_wp2
  have hVn:∀e size v k xs,W.ownsRow w.heap.size e size v k xs->e≠35->((W.setCell ⟨w.heap.size,0,none⟩ (.int .i64 0)).drew).ownsRow w.heap.size e size v k xs:=fun e size v k xs h he=>
   (h.kept (qZ W w.heap.size 0 (.int .i64 0)) (.inr (fun e1=>(h4.not_row (Ne.symm he) h) e1.symm))).drew
  have hn':=hVn _ _ _ _ _ hn (by decide)
  have hp':=hVn _ _ _ _ _ hp (by decide)
  have hBV:BX w ((W.setCell ⟨w.heap.size,0,none⟩ (.int .i64 0)).drew):=(hB.setCell (p:=⟨w.heap.size,0,none⟩) (vL _) _).drew
  have hKV:((W.setCell ⟨w.heap.size,0,none⟩ (.int .i64 0)).drew).heap[D]?=some (.deferred (some [])):=(Below.heap_setCell W ⟨w.heap.size,0,none⟩ (.int .i64 0) D (by simp;omega)).trans hK
  have h4V:qd ((W.setCell ⟨w.heap.size,0,none⟩ (.int .i64 0)).drew) w.heap.size 35 #[.int .i64 0]:=h4.set (.int .i64 0) (j:=0)
  clear hVn hn hp hB hK h4 hT c0 c1 e0 ef
  generalize(W.setCell ⟨w.heap.size,0,none⟩ (.int .i64 0)).drew=V at hn' hp' hBV hKV h4V ⊢
  have hDV:=qD hKV
  have hnU:=ownsRow_putObj hn' (.deferred none) hKV rfl
  have hpU:=ownsRow_putObj hp' (.deferred none) hKV rfl
  have h4U:qd (V.putObj D (.deferred none)) w.heap.size 35 #[.int .i64 0]:=(kP (by omega)).trans h4V
  have hBU:=hBV.trans (belowK_b (w:=w) (vL _) V D _ (.deferred none) (by omega) hKV rfl rfl)
  refine⟨by simp,.inl ⟨_,_,rfl,run_takeDeferred hKV,?_⟩⟩
  generalize V.putObj D (.deferred none)=U at hnU hpU h4U hBU ⊢
  refine⟨by simp,.inr ⟨fun _=>by omega,.func 126,#[.pointer (some ⟨w.heap.size,0,none⟩)],126,#[.pointer (some ⟨w.heap.size,0,none⟩)],rfl,?_,fun _ _=>trivial,?_⟩⟩
  ·simp[invoke,go_sem]
  refine(qeX _ _ _).mono ?_
  rintro e u' w'' ⟨rfl,rfl,rfl⟩
  have h4F:=(h4U.alloc (.cells #[.int .i64 0] 163)).cell (j:=0) (v:=.int .i64 0) rfl
  have hP:jh w (qo 0 L) (.returned (.tuple #[.slice na (qo 0 L).length ncap,.slice pa (qo 0 L).length pcap,.int .i64 0])) (U.alloc (.cells #[.int .i64 0] 163)):=
   ⟨_,_,rfl,by have:=hnU.alloc (.cells #[.int .i64 0] 163);rw[List.map_map] at this;exact this,hpU.alloc _,hBU.alloc hBU.size _⟩
  have hH:=vH hP
  clear hP hnU hpU h4U
  simp[LeavesInM,LeavesIn,settle,results,results74,go_sem,h4F]
  exact hH.out
theorem qgR(b' o' c':Nat)(L:qg)(w:World)(hE:Env w)(hL:qB w.heap.size w b' o' L)(hsm:L.small)(hht:L.height<=7)(hlen:L.length<=300)(hfine:∀pre x,pre++[x] <+: qo 0 L->qkd w pre x) :
 Calls prog 74 #[.slice (some ⟨b',o',none⟩) L.length c'] w (jh w (qo 0 L)):=
 YL _ c' L w hE (fun We hBe hle hfree=>qeW 3 w.heap.size (w.heap.size+1+1) b' o' c' [w.heap.size+1] L We hle (qB.of (zu hBe) hL) hsm hht hlen hfree) hfine
theorem qgS(m Bl:Nat)(Ts:List Nat)(w:World)(hBl:w.cell? ⟨Bl,0,none⟩=some (.slice none 0 0)) :
 qgl m prog 167 #[.pointer (some ⟨Bl,0,none⟩)] (fun x:qA=>#[x.val]) Ts (fun pre x=>pre++[x] <+: qo 0 .nil) (qo 0 .nil) w:=by
 intro l J W hW hst hY h0
 have hcl:=(hW.cell (p:=⟨Bl,0,none⟩) (kW _ _ hBl)).trans hBl
 clear hY hst hW hBl
 have h0':=vH h0
 clear h0
 refine callsIn_of_wp func167 rfl trivial ?_ rfl
 simp only[ntmps167,List.size_toArray,List.length_cons,List.length_nil,Nat.reduceAdd,Nat.reduceSub,Array.replicate_succ,Array.replicate_zero,List.push_toArray,List.append_toArray,List.nil_append,List.cons_append]
 gi_wp2
 refine wpIn_wide.2 ?_
 refine wp_loop_rounds 1 ?_
 rw[rounds_succ]
 go_wp2_with fail
 gi_wp2_with fail
 go_end0
 exact⟨⟨_,rfl⟩,h0'.out⟩
theorem qdu(w:World)(hE:Env w):Calls prog 74 #[.slice none 0 0] w (jh w []):=
 YL none 0 .nil w hE (fun We _ hle _=>qgS 3 _ _ We hle) (fun pre x h=>by have:=h.length_le;simp[qo] at this)
end
section
open Go.RowKit Go.Shelf
def QG:qg->List zt
 | .nil=>[]
 | .cons nm wd at_ sv _ rest=>⟨nm,wd,at_,sv⟩::QG rest
theorem Jb:∀L:qg,(QG L).length=L.length
 | .nil=>rfl
 | .cons _ _ _ _ _ rest=>by simp[QG,qg.length,Jb rest]
theorem qB.regs{n₀:Nat}{W:World}{b:Nat} : ∀ {L:qg} {o:Nat},qB n₀ W b o L->QZ W b o (QG L)
 | .nil,_,_=>fun i r h=>by simp[QG] at h
 |.cons nm wd at_ sv subs rest,o,⟨_,hr,hrest,_⟩=>fun i r h=>by
  cases i with
  |zero=>
   have:r=⟨nm,wd,at_,sv⟩:=by simpa[QG] using h.symm
   subst this;simpa using hr
  |succ i=>
   have h2:=qB.regs hrest i r (by simpa[QG] using h)
   rw[show o+(i+1)*4=o+4+i*4 by omega];exact h2
theorem QZ.take{W:World}{b o:Nat}{l:List zt}(h:QZ W b o l)(i:Nat):QZ W b o (l.take i):=fun j r hj=>h j r (by
 rw[List.getElem?_take] at hj;split at hj
 ·exact hj
 ·cases hj)
theorem qdv{n₀:Nat}{W:World}{sv:Value}{subs:qg}(h:qM n₀ W sv subs)(i:Nat)(hi:i<=subs.length):jD W (QF sv i) ((QG subs).take i):=by
 rcases h with⟨⟨a,rfl⟩,rfl⟩|⟨b,o,c,rfl,_,_,hh⟩
 ·obtain rfl:i=0:=by simpa[qg.length] using hi
  exact .inl ⟨⟨a,by cases a <;> rfl⟩,by simp[QG]⟩
 ·refine .inr ⟨b,o,c,?_,(qB.regs hh).take i⟩
  rw[List.length_take,Jb,Nat.min_eq_left hi];rfl
theorem qgT{s:ByteArray}(h:decide (0<s.size/\s.size<=20)=true)(hf:xe (s.data.toList.headD 0).toNat=true)(ha:(s.data.toList.all fun c=>qU c.toNat)=true):xo s:=by
 have hh:=of_decide_eq_true h
 refine⟨hh.1,hh.2,?_,fun c hc=>vV.1 ha c hc⟩
 have hd:s.data.toList.headD 0=s[0]'hh.1:=by
  have:=Zw s 0 hh.1
  rw[List.drop_zero] at this
  rw[this];rfl
 rw[←hd];exact hf
theorem qeY{s:ByteArray}(h:(words.all fun x=>!(s.toList==x))=true):js s:=fun x hx=>by
 have:=vV.1 h x hx
 simpa using this
theorem yG{n₀:Nat}{W:World}{sv:Value}{subs:qg}(h:qM n₀ W sv subs):∃a n c,sv = .slice a n c:=by
 rcases h with⟨⟨_,h⟩,_⟩|⟨b2,o2,c2,h,_⟩
 ·exact⟨_,_,_,h⟩
 ·exact⟨_,_,_,h⟩
theorem qeZ{W:World}{v:Value}{l:List zt}(h:jD W v l):∃a n c,v = .slice a n c:=by
 rcases h with⟨⟨_,h⟩,_⟩|⟨b,o,c,h,_⟩
 ·exact⟨_,_,_,h⟩
 ·exact⟨_,_,_,h⟩
theorem jH{ps:List (Int×Int×Int)} : ∀ {i:Nat} {p:Int×Int×Int},ps[i]?=some p->(qK ps)[i*3]?=some (.int .i64 p.1)/\(qK ps)[i*3+1]?=some (.int .i64 p.2.1)/\(qK ps)[i*3+2]?=some (.int .i64 p.2.2):=by
 induction ps with
 | nil=>intro i p h;simp at h
 |cons a ps ih=>
  intro i p h
  have e:qK (a::ps) = [.int .i64 a.1,.int .i64 a.2.1,.int .i64 a.2.2]++qK ps:=by simp[qK]
  cases i with
  |zero=>
   obtain rfl:a=p:=by simpa using h
   rw[e];exact⟨rfl,rfl,rfl⟩
  |succ i=>
   obtain⟨x,y,z⟩:=ih (i:=i) (p:=p) (by simpa using h)
   rw[e]
   refine⟨?_,?_,?_⟩
   ·rw[kR (by simp;omega),←x];congr 1;simp;omega
   ·rw[kR (by simp;omega),←y];congr 1;simp;omega
   ·rw[kR (by simp;omega),←z];congr 1;simp;omega
end
end Go.Proofs.YtomlgdnafeeeiaaGreatDoor
