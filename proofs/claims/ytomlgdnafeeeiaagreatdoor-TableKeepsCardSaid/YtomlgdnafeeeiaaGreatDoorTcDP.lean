
import Derived.Test.YtomlgdnafeeeiaaGreatDoorTcM
set_option maxHeartbeats 4000000
set_option maxRecDepth 100000
/-
 table's each of names,operands,classes,operations;their copies.
-/
namespace Go.Proofs.YtomlgdnafeeeiaaGreatDoor
open Proofs.Tryz
open Go.RowKit
theorem jk{W:World}{base:Nat}{e:TypeId}{size n:Nat}{xs:List Value}{s:SlV}(h:W.ownsRow base e size s.v n xs):s.n=n/\n<=s.c:=by
 rcases h.2 with⟨h1,h2⟩|⟨g,cap,cur,h1,h2,h3,h4,_⟩
 ·unfold SlV.v at h1;injection h1 with e1 e2 e3;omega
 ·unfold SlV.v at h1;injection h1 with e1 e2 e3;omega
theorem zj{W:World}{base:Nat}{e:TypeId}{size n:Nat}{xs:List Value}{s:SlV}(h:W.ownsRow base e size s.v n xs){j:Nat}{v:Value}(hj:xs[j]?=some v):∃b,s.a=some ⟨b,0,none⟩/\W.cell? ⟨b,j,none⟩=some v:=by
 rcases h.2 with⟨h1,h2⟩|⟨g,cap,cur,h1,h2,h3,h4,_⟩
 ·have:=h.1
  rw[h2,Nat.zero_mul] at this
  have:=vJ.1 this
  subst this
  simp at hj
 ·have h1':=h1
  unfold SlV.v at h1
  injection h1 with e1 e2 e3
  refine⟨g,e1,?_⟩
  have hv:s.v = .slice (some ⟨g,0,none⟩) s.n s.c:=by unfold SlV.v;rw[e1]
  rw[hv] at h
  exact qu h hj
theorem ze{α β:Type}{f:α->List β}{size:Nat}(hf:∀x,(f x).length=size):∀ {l:List α} {i:Nat} {x:α},l[i]?=some x->∀ {r:Nat} {v:β},(f x)[r]?=some v->(l.flatMap f)[i*size+r]?=some v
 |y::t,0,x,h,r,v,hv=>by
  cases h
  have hr:=(vS.1 hv).1
  rw[List.flatMap_cons,Nat.zero_mul,Nat.zero_add,List.getElem?_append_left hr];exact hv
 |y::t,i+1,x,h,r,v,hv=>by
  rw[List.flatMap_cons,kR (by rw[hf];have:(i+1)*size=i*size+size:=Nat.succ_mul i size;omega),hf,show(i+1)*size+r-size=i*size+r by have:(i+1)*size=i*size+size:=Nat.succ_mul i size;omega]
  exact ze hf (l:=t) h hv
theorem yL(s:ByteArray)(w:World)(hs:s.size<=281474976710656):Calls prog 66 #[.string s] w fun e w'=>e = .returned (.string s)/\BX w w':=by
 go_enter func66,ntmps66
 go_wp2_with (go_at_call 123;refine(stringslite_Clone _ _ (by omega)).mono ?_;rintro e w' ⟨rfl,hb⟩)
 go_ret
 exact⟨rfl,hb⟩
def zy(s:ByteArray):Prop:=s.size<=281474976710656
def zD(o:zL):List Value:=[.string o.cls,.string o.fix]
def Qq(o:zL):Prop:=zy o.cls/\zy o.fix
theorem zY.of_row{W:World}{base:Nat}{s:SlV}{l:List zL}(h:W.ownsRow base 44 2 s.v l.length (l.flatMap zD)):zY W s l:=by
 obtain⟨h1,h2⟩:=jk h
 refine⟨h1,by omega,fun j x hj=>?_⟩
 obtain⟨b,e1,c1⟩:=zj h (ze (f:=zD) (size:=2) (fun _=>rfl) hj (r:=0) rfl)
 obtain⟨b2,e2,c2⟩:=zj h (ze (f:=zD) (size:=2) (fun _=>rfl) hj (r:=1) rfl)
 rw[e1] at e2
 cases e2
 exact⟨b,0,e1,by rw[Nat.zero_add];exact c1,by rw[Nat.zero_add];exact c2⟩
theorem YE:(prog.info? 44).map (fun i=>(i.zero,i.size,i.bytes))=some (some (.agg #[.string ⟨#[]⟩,.string ⟨#[]⟩]),2,32):=by kernel_rfl
theorem Jz:(prog.info? 42).map (fun i=>(i.zero,i.size,i.bytes))=some (some (.agg #[.string ⟨#[]⟩,.slice none 0 0]),2,40):=by kernel_rfl
theorem qcX:(prog.info? 47).map (fun i=>(i.zero,i.size,i.bytes))=some (some (.agg #[.string ⟨#[]⟩,.string ⟨#[]⟩,.string ⟨#[]⟩,.slice none 0 0,.int .i64 0,.slice none 0 0]),6,104):=by kernel_rfl
theorem qai(s:SlV)(l:List ByteArray)(w:World)(hl:qG w s l)(hlen:l.length<=100000)(hsz:∀x,x∈l->zy x) :
 Calls prog 73 #[.slice s.a s.n s.c,.func (.func 66) #[] #[]] w fun e w'=>∃s':SlV,e = .returned (.slice s'.a s'.n s'.c)/\BX w w'/\w'.ownsRow w.heap.size 9 1 s'.v l.length (l.map Value.string):=by
 obtain⟨a,n,c⟩:=s
 obtain⟨hn,hc,hx⟩:=hl
 dsimp only at hn hc hx ⊢
 subst hn
 replace hx:=vH hx
 replace hsz:=vH hsz
 go_enter func73,ntmps73
 go_wp2_with fail
 go_loopw [5,10] (fun made i wr=>∃ (k:Nat) (ra:Option Addr) (rc:Nat),k<=l.length/\i = .int .i64 k/\made = .slice ra k rc/\BX w wr/\wr.ownsRow w.heap.size 9 1 (.slice ra k rc) k ((l.take k).map Value.string)) (fun _ i _=>l.length-(intOf i).toNat)
 case atStart=>exact⟨0,none,0,vO _,rfl,rfl,kB _ _,by simpa using kO w _ _ _⟩
 case round=>
  obtain⟨k,ra,rc,hk,rfl,rfl,hB,hrow⟩:=hrel
  have k0:(0:Int)<=k:=vN _
  by_cases hlt:k<l.length
  ·obtain⟨x,hxk⟩:∃x,l[k]?=some x:=⟨l[k],vE hlt⟩
   have hmem:=vM hxk
   obtain⟨b,o,rfl,hcell⟩:=hx.out k x hxk
   replace hcell:=qb hB hcell
   have hi:IntKind.i64.wrap ((k:Int)+1)=k+1:=vI _ (by omega)
   have k1:(k:Int)<l.length:=by omega
   have hf:x.size<=281474976710656:=hsz.out x hmem
   have htk:Hid (l.take (k+1)=l.take k++[x]):=vH (by rw[vX,hxk];rfl)
   obtain⟨i0,hi0,hz0,hz1,hz2⟩:=info_parts qcw
   have hBs:=hB.size
   replace hrow:=vH hrow
   clear hxk hmem
   go_wp2_with (first
    |(go_at_call 66;refine(yL _ _ hf).mono ?_;rintro e W1 ⟨rfl,hb1⟩;have hrow1:=qe hrow.out hb1;have hb1s:=hb1.size)
    |(at_builtin;go_loud (refine wpList_append_own_at _ rfl _ _ 25 rfl w.heap.size 9 i0 _ 1 16 underlying25 hi0 hz0 hz1 hz2 rfl (by decide) _ k _ rfl (hrow1.alloc _) ⟨W1.heap.size,0,none⟩ 1 1 [.string x] rfl rfl (zo _ _ _ _ rfl) (by simp[Value.oneCell']) (by unfold maxLen;omega) (by omega) (by simp;omega) ?_;intro v' W7 hown7 hgrow _ hblk;obtain⟨g',cap',rfl⟩:=ownsRow_succ hown7)))
   have hB7:BX w W7:=(hB.trans (hb1.mono hBs)).grown (qE hgrow) (by omega) (fun j e=>(qf hrow1 e).1)
   refine⟨⟨k+1,_,_,by omega,by go_num,rfl,hB7,?_⟩,by simp[intOf];omega⟩
   rw[htk.out,kM]
   exact hown7
  ·obtain rfl:k=l.length:=by omega
   rw[List.take_length] at hrow
   replace hrow:=vH hrow
   go_wp2_with fail
   go_ret
   exact⟨⟨ra,l.length,rc⟩,rfl,hB,hrow.out⟩
theorem qev(o:zL)(w:World)(hf:Qq o) :
 Calls prog 124 #[.agg #[.string o.cls,.string o.fix]] w fun e w'=>e = .returned (.agg #[.string o.cls,.string o.fix])/\BX w w':=by
 obtain⟨oc,of⟩:=o
 obtain⟨f1,f2⟩:=hf
 unfold zy at f1 f2
 dsimp only at f1 f2 ⊢
 obtain⟨w0,hw0⟩:∃w0,w0=(w.alloc (.cells #[.string oc,.string of] 44)).alloc (.cells #[.string ⟨#[]⟩,.string ⟨#[]⟩] 44):=⟨_,rfl⟩
 have hB0:BX w w0:=by rw[hw0];exact qi.alloc (by simp) _
 have h1:qd w0 w.heap.size 44 #[.string oc,.string of]:=by rw[hw0];exact(qd.new w _ _).alloc _
 have h2:qd w0 (w.heap.size+1) 44 #[.string ⟨#[]⟩,.string ⟨#[]⟩]:=by
  have:=qd.new (w.alloc (.cells #[.string oc,.string of] 44)) 44 #[.string ⟨#[]⟩,.string ⟨#[]⟩]
  rw[hw0];simpa using this
 have hread:∀W,BX w0 W->W.cell? ⟨w.heap.size,0,none⟩=some (.string oc)/\W.cell? ⟨w.heap.size,1,none⟩=some (.string of)/\(W.cell? ⟨w.heap.size+1,0,none⟩=some (.string ⟨#[]⟩)/\W.cell? ⟨w.heap.size+1,1,none⟩=some (.string ⟨#[]⟩)/\W.frozen? ⟨w.heap.size+1,0,none⟩=false/\W.frozen? ⟨w.heap.size+1,1,none⟩=false):=fun W hb=>by
  have a:=h1.below hb h1.lt
  have b:=h2.below hb h2.lt
  exact⟨a.cell rfl,a.cell rfl,b.cell rfl,b.cell rfl,b.frozen 0,b.frozen 1⟩
 have hA:BX w0 w0.drew:=(kB _ _).drew
 have hS0:=hread _ (kB _ w0)
 have hne:w.heap.size≠w.heap.size+1:=by omega
 go_enter func124,ntmps124
 go_wp2_with fail
 rw[←hw0]
 clear hw0
 go_region_held3 (fun w'=>w'.cell? ⟨w.heap.size,0,none⟩=some (.string oc)/\w'.cell? ⟨w.heap.size,1,none⟩=some (.string of))
  (go_keep)
  ((first
    |(go_at_call 66;refine(yL _ _ (by first|exact f1|exact f2)).mono ?_;rintro e W1 ⟨rfl,hb1⟩;have hA1:=hA.trans (hb1.mono hA.size);clear hA;have hA:=hA1;clear hA1;have hS:=hread _ hA)))
 (try simp only[Exit.then])
 go_wp2_with fail
 refine bodyPost_ret (v:=.agg #[.string oc,.string of]) ?_ rfl ⟨rfl,?_⟩
 ·rw[qO rfl]
  go_simp
 ·(repeat' (first|exact hB0.trans (hA.mono hB0.size)|refine Below.setCell ?_ (by simp) _))
theorem qjz(s:SlV)(l:List zL)(w:World)(hl:zY w s l)(hlen:l.length<=100000)(hsz:∀x,x∈l->Qq x) :
 Calls prog 125 #[.slice s.a s.n s.c,.func (.func 124) #[] #[]] w fun e w'=>∃s':SlV,e = .returned (.slice s'.a s'.n s'.c)/\BX w w'/\w'.ownsRow w.heap.size 44 2 s'.v l.length (l.flatMap zD):=by
 obtain⟨a,n,c⟩:=s
 obtain⟨hn,hc,hx⟩:=hl
 dsimp only at hn hc hx ⊢
 subst hn
 replace hx:=vH hx
 replace hsz:=vH hsz
 go_enter func125,ntmps125
 go_wp2_with fail
 go_loopw [5,10] (fun made i wr=>∃ (k:Nat) (ra:Option Addr) (rc:Nat),k<=l.length/\i = .int .i64 k/\made = .slice ra k rc/\BX w wr/\wr.ownsRow w.heap.size 44 2 (.slice ra k rc) k ((l.take k).flatMap zD)) (fun _ i _=>l.length-(intOf i).toNat)
 case atStart=>exact⟨0,none,0,vO _,rfl,rfl,kB _ _,by simpa using kO w _ _ _⟩
 case round=>
  obtain⟨k,ra,rc,hk,rfl,rfl,hB,hrow⟩:=hrel
  have k0:(0:Int)<=k:=vN _
  by_cases hlt:k<l.length
  ·obtain⟨⟨xc,xf⟩,hxk⟩:∃x,l[k]?=some x:=⟨l[k],vE hlt⟩
   have hmem:=vM hxk
   obtain⟨b,o,rfl,hcell0,hcell1⟩:=hx.out k _ hxk
   dsimp only at hcell0 hcell1
   replace hcell0:=qb hB hcell0
   replace hcell1:=qb hB hcell1
   have hi:IntKind.i64.wrap ((k:Int)+1)=k+1:=vI _ (by omega)
   have k1:(k:Int)<l.length:=by omega
   have hf:=hsz.out _ hmem
   have htk:Hid ((l.take (k+1)).flatMap zD=(l.take k).flatMap zD++[.string xc,.string xf]):=vH (by rw[vX,hxk,List.flatMap_append];rfl)
   obtain⟨i0,hi0,hz0,hz1,hz2⟩:=info_parts YE
   have hBs:=hB.size
   have hbx:BX wr (wr.alloc (.cells #[.string xc,.string xf] 44)):=qi
   have K:=fun W=>qev ⟨xc,xf⟩ W hf
   replace hrow:=vH hrow
   clear hxk hmem hf
   go_wp2_with (first
    |(go_at_call 124;refine(K _).mono ?_;clear K;rintro e W1 ⟨rfl,hb1⟩;have hb2:=hbx.trans (hb1.mono hbx.size);have hrow1:=qe hrow.out hb2;have hb1s:=hb2.size)
    |(at_builtin;go_loud (refine wpList_append_own_at _ rfl _ _ 45 rfl w.heap.size 44 i0 _ 2 32 underlying45 hi0 hz0 hz1 hz2 rfl (by decide) _ k _ rfl (hrow1.alloc _) ⟨W1.heap.size,0,none⟩ 1 1 [.string xc,.string xf] rfl rfl (zo _ _ _ _ rfl) (by simp[Value.oneCell']) (by unfold maxLen;omega) (by omega) (by simp;omega) ?_;intro v' W7 hown7 hgrow _ hblk;obtain⟨g',cap',rfl⟩:=ownsRow_succ hown7)))
   have hB7:BX w W7:=(hB.trans (hb2.mono hBs)).grown (qE hgrow) (by omega) (fun j e=>(qf hrow1 e).1)
   refine⟨⟨k+1,_,_,by omega,by go_num,rfl,hB7,?_⟩,by simp[intOf];omega⟩
   rw[htk.out]
   exact hown7
  ·obtain rfl:k=l.length:=by omega
   rw[List.take_length] at hrow
   replace hrow:=vH hrow
   go_wp2_with fail
   go_ret
   exact⟨⟨ra,l.length,rc⟩,rfl,hB,hrow.out⟩
def qbj(k:qp):Prop:=zy k.name/\k.regs.length<=100000/\∀x,x∈k.regs->zy x
def jK(p:qp×SlV):List Value:=[.string p.1.name,.slice p.2.a p.2.n p.2.c]
theorem qS.of_row{W:World}{base:Nat}{s:SlV}{vs:List (qp×SlV)}(h:W.ownsRow base 42 2 s.v vs.length (vs.flatMap jK))(hv:∀p,p∈vs->qG W p.2 p.1.regs):qS W s (vs.map (·.1)):=by
 obtain⟨h1,h2⟩:=jk h
 refine⟨by rw[vP];exact h1,by omega,fun j x hj=>?_⟩
 rw[vY] at hj
 cases hp:vs[j]? with
 | none=>rw[hp] at hj;cases hj
 |some p=>
  rw[hp] at hj
  cases hj
  obtain⟨b,e1,c1⟩:=zj h (ze (f:=jK) (size:=2) (fun _=>rfl) hp (r:=0) rfl)
  obtain⟨b2,e2,c2⟩:=zj h (ze (f:=jK) (size:=2) (fun _=>rfl) hp (r:=1) rfl)
  rw[e1] at e2
  cases e2
  exact⟨b,0,e1,p.2,by rw[Nat.zero_add];exact c1,by rw[Nat.zero_add];exact c2,hv p (vM hp)⟩
theorem qhN(nm:ByteArray)(s:SlV)(l:List ByteArray)(w:World)(hl:qG w s l)(hf:qbj ⟨nm,l⟩) :
 Calls prog 70 #[.agg #[.string nm,.slice s.a s.n s.c]] w fun e w'=>∃s':SlV,e = .returned (.agg #[.string nm,.slice s'.a s'.n s'.c])/\BX w w'/\w'.ownsRow w.heap.size 9 1 s'.v l.length (l.map Value.string):=by
 obtain⟨sa,sn,sc⟩:=s
 obtain⟨f1,f2,f3⟩:=hf
 unfold zy at f1
 dsimp only at f1 f2 f3 ⊢
 obtain⟨w0,hw0⟩:∃w0,w0=(w.alloc (.cells #[.string nm,.slice sa sn sc] 42)).alloc (.cells #[.string ⟨#[]⟩,.slice none 0 0] 42):=⟨_,rfl⟩
 have hB0:BX w w0:=by rw[hw0];exact qi.alloc (by simp) _
 have h1:qd w0 w.heap.size 42 #[.string nm,.slice sa sn sc]:=by rw[hw0];exact(qd.new w _ _).alloc _
 have h2:qd w0 (w.heap.size+1) 42 #[.string ⟨#[]⟩,.slice none 0 0]:=by
  have:=qd.new (w.alloc (.cells #[.string nm,.slice sa sn sc] 42)) 42 #[.string ⟨#[]⟩,.slice none 0 0]
  rw[hw0];simpa using this
 have hread:∀W,BX w0 W->W.cell? ⟨w.heap.size,0,none⟩=some (.string nm)/\W.cell? ⟨w.heap.size,1,none⟩=some (.slice sa sn sc)/\(W.cell? ⟨w.heap.size+1,0,none⟩=some (.string ⟨#[]⟩)/\W.cell? ⟨w.heap.size+1,1,none⟩=some (.slice none 0 0)/\W.frozen? ⟨w.heap.size+1,0,none⟩=false/\W.frozen? ⟨w.heap.size+1,1,none⟩=false):=fun W hb=>by
  have a:=h1.below hb h1.lt
  have b:=h2.below hb h2.lt
  exact⟨a.cell rfl,a.cell rfl,b.cell rfl,b.cell rfl,b.frozen 0,b.frozen 1⟩
 have hA:BX w0 w0.drew:=(kB _ _).drew
 have hS0:=hread _ (kB _ w0)
 have hne:w.heap.size≠w.heap.size+1:=by omega
 have KE:=fun W (hb:BX w0 W)=>qai ⟨sa,sn,sc⟩ l W (hl.below (hB0.trans (hb.mono hB0.size))) f2 f3
 dsimp only at KE
 clear hl f3
 go_enter func70,ntmps70
 go_wp2_with fail
 rw[←hw0]
 clear hw0
 go_region_held3 (fun w'=>w'.cell? ⟨w.heap.size,0,none⟩=some (.string nm)/\w'.cell? ⟨w.heap.size,1,none⟩=some (.slice sa sn sc))
  (go_keep)
  ((first
    |(go_at_call 66;refine(yL _ _ f1).mono ?_;rintro e W1 ⟨rfl,hb1⟩;have hA1:=hA.trans (hb1.mono hA.size);have hS1:=hread _ hA1)
    |(go_at_call 73;refine(KE _ hA1).mono ?_;clear KE;rintro e W2 ⟨⟨qa,qn,qc⟩,rfl,hb2,hrow⟩;have hA2:=hA1.trans (hb2.mono hA1.size);have hS2:=hread _ hA2;clear hS1;replace hrow:=vH hrow)))
 (try simp only[Exit.then])
 have hq:W2.heap.size<=W2.heap.size:=vL _
 go_wp2_with fail
 refine bodyPost_ret (v:=.agg #[.string nm,.slice qa qn qc]) ?_ rfl ⟨⟨qa,qn,qc⟩,rfl,?_,?_⟩
 ·rw[qO rfl]
  go_simp
 ·(repeat' (first|exact hB0.trans (hA2.mono hB0.size)|refine Below.setCell ?_ (by simp) _))
 ·have hrw:W2.ownsRow w.heap.size 9 1 (.slice qa qn qc) l.length (l.map Value.string):=qm hrow.out (by have:=hA1.size;have:=hB0.size;omega)
  have h22:=h2.below hA2 h2.lt
  first
   | exact(qt.of_set (ts:=[42]) (h22.set (j:=0) _) (by simp) _ _).row ((qt.of_set (ts:=[42]) h22 (by simp) _ _).row hrw (by decide)) (by decide)
   | exact(qt.of_set (ts:=[42]) h22 (by simp) _ _).row hrw (by decide)
def XW(base:Nat)(W:World)(s:SlV)(l:List qp):Prop:=
 ∃vs:List (qp×SlV),vs.map (·.1)=l/\W.ownsRow base 42 2 s.v vs.length (vs.flatMap jK)/\∀p,p∈vs->W.ownsRow base 9 1 p.2.v p.1.regs.length (p.1.regs.map Value.string)
theorem XW.at_{base:Nat}{W:World}{s:SlV}{l:List qp}(h:XW base W s l):qS W s l:=by
 obtain⟨vs,rfl,h1,h2⟩:=h
 exact qS.of_row h1 fun p hp=>qG.of_row (h2 p hp) rfl
theorem qhO(s:SlV)(l:List qp)(w:World)(hl:qS w s l)(hlen:l.length<=100000)(hsz:∀x,x∈l->qbj x) :
 Calls prog 69 #[.slice s.a s.n s.c,.func (.func 70) #[] #[]] w fun e w'=>∃s':SlV,e = .returned (.slice s'.a s'.n s'.c)/\BX w w'/\XW w.heap.size w' s' l:=by
 obtain⟨a,n,c⟩:=s
 obtain⟨hn,hc,hx⟩:=hl
 dsimp only at hn hc hx ⊢
 subst hn
 replace hx:=vH hx
 replace hsz:=vH hsz
 go_enter func69,ntmps69
 go_wp2_with fail
 go_loopw [5,10] (fun made i wr=>∃ (k:Nat) (ra:Option Addr) (rc:Nat),k<=l.length/\i = .int .i64 k/\made = .slice ra k rc/\BX w wr/\Hid (XW w.heap.size wr ⟨ra,k,rc⟩ (l.take k))) (fun _ i _=>l.length-(intOf i).toNat)
 case atStart=>exact⟨0,none,0,vO _,rfl,rfl,kB _ _,vH ⟨[],by simp,by simpa[SlV.v] using kO w _ _ _,fun p hp=>by simp at hp⟩⟩
 case round=>
  obtain⟨k,ra,rc,hk,rfl,rfl,hB,hrow⟩:=hrel
  have k0:(0:Int)<=k:=vN _
  by_cases hlt:k<l.length
  ·obtain⟨x,hxk⟩:∃x,l[k]?=some x:=⟨l[k],vE hlt⟩
   have hmem:=vM hxk
   obtain⟨b,o,rfl,⟨qa,qn,qc⟩,q0,q1,hs⟩:=hx.out k _ hxk
   dsimp only at q0 q1
   replace q0:=qb hB q0
   replace q1:=qb hB q1
   have hi:IntKind.i64.wrap ((k:Int)+1)=k+1:=vI _ (by omega)
   have k1:(k:Int)<l.length:=by omega
   have hf:=hsz.out _ hmem
   have htk:Hid (l.take (k+1)=l.take k++[x]):=vH (by rw[vX,hxk];rfl)
   obtain⟨i0,hi0,hz0,hz1,hz2⟩:=info_parts Jz
   have hBs:=hB.size
   have hbx:BX wr (wr.alloc (.cells #[.string x.name,.slice qa qn qc] 42)):=qi
   have K:=qhN x.name ⟨qa,qn,qc⟩ x.regs _ (hs.below (hB.trans (hbx.mono hBs))) hf
   obtain⟨vs,hv1,hv2,hv3⟩:=hrow.out
   have hvl:vs.length=k:=by have:=congrArg List.length hv1;rw[vP,List.length_take] at this;omega
   rw[hvl] at hv2
   replace hv1:=vH hv1
   replace hv2:=vH hv2
   replace hv3:=vH hv3
   replace hvl:=vH hvl
   clear hxk hmem hf hs hrow
   go_wp2_with (first
    |(go_at_call 70;refine K.mono ?_;clear K;rintro e W1 ⟨⟨ya,yn,yc⟩,rfl,hb1,hy⟩;have hb2:=hbx.trans (hb1.mono hbx.size);have hrow1:=qe hv2.out hb2;have hb1s:=hb2.size;replace hy:=vH hy)
    |(at_builtin;go_loud (refine wpList_append_own_at _ rfl _ _ 23 rfl w.heap.size 42 i0 _ 2 40 underlying23 hi0 hz0 hz1 hz2 rfl (by decide) _ k _ rfl (hrow1.alloc _) ⟨W1.heap.size,0,none⟩ 1 1 [.string x.name,.slice ya yn yc] rfl rfl (zo _ _ _ _ rfl) (by simp[Value.oneCell']) (by unfold maxLen;omega) (by omega) (by simp;omega) ?_;intro v' W7 hown7 hgrow _ hblk;obtain⟨g',cap',rfl⟩:=ownsRow_succ hown7)))
   have hgr:=qE hgrow
   have hB7:BX w W7:=(hB.trans (hb2.mono hBs)).grown hgr (by omega) (fun j e=>(qf hrow1 e).1)
   have hst:qt [42] W1 W7:=qt.of_grown hrow1 (by simp) hgr
   refine⟨⟨k+1,_,_,by omega,by go_num,rfl,hB7,vH ⟨vs++[(x,⟨ya,yn,yc⟩)],?_,?_,?_⟩⟩,by simp[intOf];omega⟩
   ·rw[htk.out,kM,hv1.out];rfl
   ·rw[kA,List.length_singleton,hvl.out,List.flatMap_append]
    simpa[jK,SlV.v] using hown7
   ·intro p hp
    rcases vC.1 hp with hp|hp
    ·exact hst.row (qe (hv3.out p hp) hb2) (by decide)
    ·rw[List.mem_singleton] at hp
     subst hp
     exact hst.row (qm hy.out (vR hBs (by simp))) (by decide)
  ·obtain rfl:k=l.length:=by omega
   rw[List.take_length] at hrow
   go_wp2_with fail
   go_ret
   exact⟨⟨ra,l.length,rc⟩,rfl,hB,hrow.out⟩
def qdf(o:OpD):Prop:=zy o.name/\Qq o.d/\o.uses.length<=100000/\(∀u,u∈o.uses->Qq u)/\o.clob.length<=100000/\∀s,s∈o.clob->zy s
def jL(p:OpD×SlV×SlV):List Value:=[.string p.1.name,.string p.1.d.cls,.string p.1.d.fix,.slice p.2.1.a p.2.1.n p.2.1.c,.int .i64 p.1.tie,.slice p.2.2.a p.2.2.n p.2.2.c]
def XX(base:Nat)(W:World)(s:SlV)(l:List OpD):Prop:=
 ∃vs:List (OpD×SlV×SlV),vs.map (·.1)=l/\W.ownsRow base 47 6 s.v vs.length (vs.flatMap jL)/\∀p,p∈vs->W.ownsRow base 44 2 p.2.1.v p.1.uses.length (p.1.uses.flatMap zD)/\W.ownsRow base 9 1 p.2.2.v p.1.clob.length (p.1.clob.map Value.string)
theorem XX.at_{base:Nat}{W:World}{s:SlV}{l:List OpD}(h:XX base W s l):jP W s l:=by
 obtain⟨vs,rfl,h1,h2⟩:=h
 obtain⟨g1,g2⟩:=jk h1
 refine⟨by rw[vP];exact g1,by omega,fun j x hj=>?_⟩
 rw[vY] at hj
 cases hp:vs[j]? with
 | none=>rw[hp] at hj;cases hj
 |some p=>
  rw[hp] at hj
  cases hj
  obtain⟨h3,h4⟩:=h2 p (vM hp)
  obtain⟨b,e0,c0⟩:=zj h1 (ze (f:=jL) (size:=6) (fun _=>rfl) hp (r:=0) rfl)
  obtain⟨b1,e1,c1⟩:=zj h1 (ze (f:=jL) (size:=6) (fun _=>rfl) hp (r:=1) rfl)
  obtain⟨b2,e2,c2⟩:=zj h1 (ze (f:=jL) (size:=6) (fun _=>rfl) hp (r:=2) rfl)
  obtain⟨b3,e3,c3⟩:=zj h1 (ze (f:=jL) (size:=6) (fun _=>rfl) hp (r:=3) rfl)
  obtain⟨b4,e4,c4⟩:=zj h1 (ze (f:=jL) (size:=6) (fun _=>rfl) hp (r:=4) rfl)
  obtain⟨b5,e5,c5⟩:=zj h1 (ze (f:=jL) (size:=6) (fun _=>rfl) hp (r:=5) rfl)
  rw[e0] at e1 e2 e3 e4 e5
  cases e1
  cases e2
  cases e3
  cases e4
  cases e5
  exact⟨b,0,e0,p.2.1,p.2.2,by rw[Nat.zero_add];exact c0,by rw[Nat.zero_add];exact c1,by rw[Nat.zero_add];exact c2,by rw[Nat.zero_add];exact c3,by rw[Nat.zero_add];exact c4,by rw[Nat.zero_add];exact c5,zY.of_row h3,qG.of_row h4 rfl⟩
theorem qlv(x:OpD)(u q:SlV)(w:World)(hu:zY w u x.uses)(hq:qG w q x.clob)(hf:qdf x) :
 Calls prog 72 #[.agg #[.string x.name,.string x.d.cls,.string x.d.fix,.slice u.a u.n u.c,.int .i64 x.tie,.slice q.a q.n q.c]] w fun e w'=>∃u' q':SlV,e = .returned (.agg #[.string x.name,.string x.d.cls,.string x.d.fix,.slice u'.a u'.n u'.c,.int .i64 x.tie,.slice q'.a q'.n q'.c])/\BX w w' /\
  w'.ownsRow w.heap.size 44 2 u'.v x.uses.length (x.uses.flatMap zD)/\w'.ownsRow w.heap.size 9 1 q'.v x.clob.length (x.clob.map Value.string):=by
 obtain⟨xn,⟨dc,df⟩,us,xt,xk⟩:=x
 obtain⟨ua,un,uc⟩:=u
 obtain⟨qa,qn,qc⟩:=q
 obtain⟨f1,f2,f3,f4,f5,f6⟩:=hf
 unfold zy at f1
 dsimp only at f1 f2 f3 f4 f5 f6 hu hq ⊢
 obtain⟨w0,hw0⟩:∃w0,w0=(w.alloc (.cells #[.string xn,.string dc,.string df,.slice ua un uc,.int .i64 xt,.slice qa qn qc] 47)).alloc (.cells #[.string ⟨#[]⟩,.string ⟨#[]⟩,.string ⟨#[]⟩,.slice none 0 0,.int .i64 0,.slice none 0 0] 47):=⟨_,rfl⟩
 have hB0:BX w w0:=by rw[hw0];exact qi.alloc (by simp) _
 have h1:qd w0 w.heap.size 47 #[.string xn,.string dc,.string df,.slice ua un uc,.int .i64 xt,.slice qa qn qc]:=by rw[hw0];exact(qd.new w _ _).alloc _
 have h2:qd w0 (w.heap.size+1) 47 #[.string ⟨#[]⟩,.string ⟨#[]⟩,.string ⟨#[]⟩,.slice none 0 0,.int .i64 0,.slice none 0 0]:=by
  have:=qd.new (w.alloc (.cells #[.string xn,.string dc,.string df,.slice ua un uc,.int .i64 xt,.slice qa qn qc] 47)) 47 #[.string ⟨#[]⟩,.string ⟨#[]⟩,.string ⟨#[]⟩,.slice none 0 0,.int .i64 0,.slice none 0 0]
  rw[hw0];simpa using this
 have hread:∀W,BX w0 W->W.cell? ⟨w.heap.size,0,none⟩=some (.string xn)/\W.cell? ⟨w.heap.size,1,none⟩=some (.string dc)/\W.cell? ⟨w.heap.size,2,none⟩=some (.string df)/\W.cell? ⟨w.heap.size,3,none⟩=some (.slice ua un uc)/\W.cell? ⟨w.heap.size,4,none⟩=some (.int .i64 xt)/\W.cell? ⟨w.heap.size,5,none⟩=some (.slice qa qn qc):=fun W hb=>by
  have a:=h1.below hb h1.lt
  exact⟨a.cell rfl,a.cell rfl,a.cell rfl,a.cell rfl,a.cell rfl,a.cell rfl⟩
 have hres:∀W,BX w0 W->qd W (w.heap.size+1) 47 #[.string ⟨#[]⟩,.string ⟨#[]⟩,.string ⟨#[]⟩,.slice none 0 0,.int .i64 0,.slice none 0 0]:=fun W hb=>h2.below hb h2.lt
 have hlt2:w.heap.size+1<w0.heap.size:=h2.lt
 have hA:BX w0 w0.drew:=(kB _ _).drew
 have hS0:=hread _ (kB _ w0)
 have hne:w.heap.size≠w.heap.size+1:=by omega
 have KO:=fun W=>qev ⟨dc,df⟩ W f2
 have KU:=fun W (hb:BX w0 W)=>qjz ⟨ua,un,uc⟩ us W (hu.below (hB0.trans (hb.mono hB0.size))) f3 f4
 have KS:=fun W (hb:BX w0 W)=>qai ⟨qa,qn,qc⟩ xk W (hq.below (hB0.trans (hb.mono hB0.size))) f5 f6
 dsimp only at KO KU KS
 replace hres:=vH hres
 replace hread:=vH hread
 replace KU:=vH KU
 replace KS:=vH KS
 clear hu hq f2 f4 f6 h1 h2
 go_enter func72,ntmps72
 go_wp2_with fail
 rw[←hw0]
 clear hw0
 go_region_held3 (fun w'=>w'.cell? ⟨w.heap.size,0,none⟩=some (.string xn)/\w'.cell? ⟨w.heap.size,1,none⟩=some (.string dc)/\w'.cell? ⟨w.heap.size,2,none⟩=some (.string df)/\w'.cell? ⟨w.heap.size,3,none⟩=some (.slice ua un uc)/\w'.cell? ⟨w.heap.size,4,none⟩=some (.int .i64 xt)/\w'.cell? ⟨w.heap.size,5,none⟩=some (.slice qa qn qc))
  (go_keep)
  ((first
    |(go_at_call 66;refine(yL _ _ f1).mono ?_;rintro e W1 ⟨rfl,hb1⟩;have hA1:=hA.trans (hb1.mono hA.size);have hS1:=hread.out _ hA1)
    |(go_at_call 124;refine(KO _).mono ?_;rintro e W2 ⟨rfl,hb2⟩;have hA2:=hA1.trans (hb2.mono hA1.size);have hS2:=hread.out _ hA2;clear hS1)
    |(go_at_call 125;refine(KU.out _ hA2).mono ?_;rintro e W3 ⟨⟨ya,yn,yc⟩,rfl,hb3,hy⟩;have hA3:=hA2.trans (hb3.mono hA2.size);have hS3:=hread.out _ hA3;clear hS2;replace hy:=vH hy)
    |(go_at_call 73;refine(KS.out _ hA3).mono ?_;rintro e W4 ⟨⟨za,zn,zc⟩,rfl,hb4,hz⟩;have hA4:=hA3.trans (hb4.mono hA3.size);have hS4:=hread.out _ hA4;clear hS3;replace hz:=vH hz;have hR4:=hres.out _ hA4;have r0:=hR4.cell (j:=0) (v:=.string ⟨#[]⟩) rfl;have r1:=hR4.cell (j:=1) (v:=.string ⟨#[]⟩) rfl;have r2:=hR4.cell (j:=2) (v:=.string ⟨#[]⟩) rfl;have r3:=hR4.cell (j:=3) (v:=.slice none 0 0) rfl;have r4:=hR4.cell (j:=4) (v:=.int .i64 0) rfl;have r5:=hR4.cell (j:=5) (v:=.slice none 0 0) rfl;have r6:=fun j=>hR4.frozen j;replace hR4:=vH hR4)))
 (try simp only[Exit.then])
 go_wp2_with fail
 have hsz:w.heap.size<=w0.heap.size:=hB0.size
 refine bodyPost_ret (v:=.agg #[.string xn,.string dc,.string df,.slice ya yn yc,.int .i64 xt,.slice za zn zc]) ?_ rfl ⟨⟨ya,yn,yc⟩,⟨za,zn,zc⟩,rfl,?_,?_,?_⟩
 ·rw[qO rfl]
  go_simp
 ·(repeat' (first|exact hB0.trans (hA4.mono hB0.size)|refine Below.setCell ?_ (by simp) _))
 ·refine World.ownsRow.kept (row:=some (w.heap.size+1)) (qm (qe hy.out hb4) (vR hsz hA2.size)) ?_ (.inr fun e=>?_)
  ·(repeat' (first|with_reducible exact qZ _ _ _ _|with_reducible refine World.grownBy.trans ?_ (qZ _ _ _ _)))
  ·have:=(qf hy.out e).1
   have:=hA2.size
   omega
 ·refine World.ownsRow.kept (row:=some (w.heap.size+1)) (qm hz.out (vR hsz hA3.size)) ?_ (.inr fun e=>?_)
  ·(repeat' (first|with_reducible exact qZ _ _ _ _|with_reducible refine World.grownBy.trans ?_ (qZ _ _ _ _)))
  ·have:=(qf hz.out e).1
   have:=hA3.size
   omega
theorem qlw(s:SlV)(l:List OpD)(w:World)(hl:jP w s l)(hlen:l.length<=100000)(hsz:∀x,x∈l->qdf x) :
 Calls prog 71 #[.slice s.a s.n s.c,.func (.func 72) #[] #[]] w fun e w'=>∃s':SlV,e = .returned (.slice s'.a s'.n s'.c)/\BX w w'/\XX w.heap.size w' s' l:=by
 obtain⟨a,n,c⟩:=s
 obtain⟨hn,hc,hx⟩:=hl
 dsimp only at hn hc hx ⊢
 subst hn
 replace hx:=vH hx
 replace hsz:=vH hsz
 go_enter func71,ntmps71
 go_wp2_with fail
 go_loopw [5,10] (fun made i wr=>∃ (k:Nat) (ra:Option Addr) (rc:Nat),k<=l.length/\i = .int .i64 k/\made = .slice ra k rc/\BX w wr/\Hid (XX w.heap.size wr ⟨ra,k,rc⟩ (l.take k))) (fun _ i _=>l.length-(intOf i).toNat)
 case atStart=>exact⟨0,none,0,vO _,rfl,rfl,kB _ _,vH ⟨[],by simp,by simpa[SlV.v] using kO w _ _ _,fun p hp=>by simp at hp⟩⟩
 case round=>
  obtain⟨k,ra,rc,hk,rfl,rfl,hB,hrow⟩:=hrel
  have k0:(0:Int)<=k:=vN _
  by_cases hlt:k<l.length
  ·obtain⟨x,hxk⟩:∃x,l[k]?=some x:=⟨l[k],vE hlt⟩
   have hmem:=vM hxk
   obtain⟨b,o,rfl,⟨ua,un,uc⟩,⟨qa,qn,qc⟩,q0,q1,q2,q3,q4,q5,hu,hs⟩:=hx.out k _ hxk
   dsimp only at q3 q5
   replace q0:=qb hB q0
   replace q1:=qb hB q1
   replace q2:=qb hB q2
   replace q3:=qb hB q3
   replace q4:=qb hB q4
   replace q5:=qb hB q5
   have hi:IntKind.i64.wrap ((k:Int)+1)=k+1:=vI _ (by omega)
   have k1:(k:Int)<l.length:=by omega
   have hf:=hsz.out _ hmem
   have htk:Hid (l.take (k+1)=l.take k++[x]):=vH (by rw[vX,hxk];rfl)
   obtain⟨i0,hi0,hz0,hz1,hz2⟩:=info_parts qcX
   have hBs:=hB.size
   have hbx:BX wr (wr.alloc (.cells #[.string x.name,.string x.d.cls,.string x.d.fix,.slice ua un uc,.int .i64 x.tie,.slice qa qn qc] 47)):=qi
   have K:=qlv x ⟨ua,un,uc⟩ ⟨qa,qn,qc⟩ _ (hu.below (hB.trans (hbx.mono hBs))) (hs.below (hB.trans (hbx.mono hBs))) hf
   obtain⟨vs,hv1,hv2,hv3⟩:=hrow.out
   have hvl:vs.length=k:=by have:=congrArg List.length hv1;rw[vP,List.length_take] at this;omega
   rw[hvl] at hv2
   replace hv1:=vH hv1
   replace hv2:=vH hv2
   replace hv3:=vH hv3
   replace hvl:=vH hvl
   clear hxk hmem hf hs hu hrow
   go_wp2_with (first
    |(go_at_call 72;refine K.mono ?_;clear K;rintro e W1 ⟨⟨pa,pn,pc⟩,⟨ya,yn,yc⟩,rfl,hb1,hp1,hy⟩;have hb2:=hbx.trans (hb1.mono hbx.size);have hrow1:=qe hv2.out hb2;have hb1s:=hb2.size;replace hy:=vH hy;replace hp1:=vH hp1)
    |(at_builtin;go_loud (refine wpList_append_own_at _ rfl _ _ 24 rfl w.heap.size 47 i0 _ 6 104 underlying24 hi0 hz0 hz1 hz2 rfl (by decide) _ k _ rfl (hrow1.alloc _) ⟨W1.heap.size,0,none⟩ 1 1 [.string x.name,.string x.d.cls,.string x.d.fix,.slice pa pn pc,.int .i64 x.tie,.slice ya yn yc] rfl rfl (zo _ _ _ _ rfl) (by simp[Value.oneCell']) (by unfold maxLen;omega) (by omega) (by simp;omega) ?_;intro v' W7 hown7 hgrow _ hblk;obtain⟨g',cap',rfl⟩:=ownsRow_succ hown7)))
   have hgr:=qE hgrow
   have hB7:BX w W7:=(hB.trans (hb2.mono hBs)).grown hgr (by omega) (fun j e=>(qf hrow1 e).1)
   have hst:qt [47] W1 W7:=qt.of_grown hrow1 (by simp) hgr
   refine⟨⟨k+1,_,_,by omega,by go_num,rfl,hB7,vH ⟨vs++[(x,⟨pa,pn,pc⟩,⟨ya,yn,yc⟩)],?_,?_,?_⟩⟩,by simp[intOf];omega⟩
   ·rw[htk.out,kM,hv1.out];rfl
   ·rw[kA,List.length_singleton,hvl.out,List.flatMap_append]
    simpa[jL,SlV.v] using hown7
   ·intro p hp
    rcases vC.1 hp with hp|hp
    ·exact⟨hst.row (qe (hv3.out p hp).1 hb2) (by decide),hst.row (qe (hv3.out p hp).2 hb2) (by decide)⟩
    ·rw[List.mem_singleton] at hp
     subst hp
     exact⟨hst.row (qm hp1.out (vR hBs (by simp))) (by decide),hst.row (qm hy.out (vR hBs (by simp))) (by decide)⟩
  ·obtain rfl:k=l.length:=by omega
   rw[List.take_length] at hrow
   go_wp2_with fail
   go_ret
   exact⟨⟨ra,l.length,rc⟩,rfl,hB,hrow.out⟩
end Go.Proofs.YtomlgdnafeeeiaaGreatDoor
