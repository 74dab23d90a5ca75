/-
  table's each of names, operands, classes, operations; their copies.
-/
import Derived.Test.YtkoloennfejaaaaGreatDoorTcM
import Derived.Deep.RegionHeld3
set_option maxHeartbeats 4000000
set_option maxRecDepth 100000
namespace Go.Proofs.YtkoloennfejaaaaGreatDoor
open Go.RowKit
theorem yM{W:World}{base:Nat}{e:TypeId}{size n:Nat}{xs:List Value}{s:SlV}(h:W.ownsRow base e size s.v n xs):s.n=n/\n<=s.c:=by
 rcases h.2 with⟨h1,h2⟩|⟨g,cap,cur,h1,h2,h3,h4,_⟩
 ·unfold SlV.v at h1;injection h1 with e1 e2 e3;omega
 ·unfold SlV.v at h1;injection h1 with e1 e2 e3;omega
theorem qz{W:World}{base:Nat}{e:TypeId}{size n:Nat}{xs:List Value}{s:SlV}(h:W.ownsRow base e size s.v n xs){j:Nat}{v:Value}(hj:xs[j]?=some v):∃b,s.a=some ⟨b,0,none⟩/\W.cell? ⟨b,j,none⟩=some v:=by
 rcases h.2 with⟨h1,h2⟩|⟨g,cap,cur,h1,h2,h3,h4,_⟩
 ·have:=h.1
  rw[h2,Nat.zero_mul] at this
  have:=List.length_eq_zero_iff.1 this
  subst this
  simp at hj
 ·have h1':=h1
  unfold SlV.v at h1
  injection h1 with e1 e2 e3
  refine⟨g,e1,?_⟩
  have hv:s.v = .slice (some ⟨g,0,none⟩) s.n s.c:=by unfold SlV.v;rw[e1]
  rw[hv] at h
  exact qi h hj
theorem qG{α β:Type}{f:α->List β}{size:Nat}(hf:∀x,(f x).length=size):∀ {l:List α} {i:Nat} {x:α},l[i]?=some x->∀ {r:Nat} {v:β},(f x)[r]?=some v->(l.flatMap f)[i*size+r]?=some v
 |y::t,0,x,h,r,v,hv=>by
  cases h
  have hr:=(List.getElem?_eq_some_iff.1 hv).1
  rw[List.flatMap_cons,Nat.zero_mul,Nat.zero_add,List.getElem?_append_left hr];exact hv
 |y::t,i+1,x,h,r,v,hv=>by
  rw[List.flatMap_cons,List.getElem?_append_right (by rw[hf];have:(i+1)*size=i*size+size:=Nat.succ_mul i size;omega),hf,show(i+1)*size+r-size=i*size+r by have:(i+1)*size=i*size+size:=Nat.succ_mul i size;omega]
  exact qG hf (l:=t) h hv
theorem xD(s:ByteArray)(w:World)(hs:s.size<=281474976710656):Calls Tryz.prog 83 #[.string s] w fun e w'=>e = .returned (.string s)/\Below w.heap.size w w':=by
 go_enter Tryz.func83,Tryz.ntmps83
 go_wp2_with (go_at_call 124;refine(Tryz.stringslite_Clone _ _ (by omega)).mono ?_;rintro e w' ⟨rfl,hb⟩)
 go_ret
 exact⟨rfl,hb⟩
def Fit48(s:ByteArray):Prop:=s.size<=281474976710656
def operCells(o:OperD):List Value:=[.string o.cls,.string o.fix]
def OperFit(o:OperD):Prop:=Fit48 o.cls/\Fit48 o.fix
theorem qW.of_row{W:World}{base:Nat}{s:SlV}{l:List OperD}(h:W.ownsRow base 51 2 s.v l.length (l.flatMap operCells)):qW W s l:=by
 obtain⟨h1,h2⟩:=yM h
 refine⟨h1,by omega,fun j x hj=>?_⟩
 obtain⟨b,e1,c1⟩:=qz h (qG (f:=operCells) (size:=2) (fun _=>rfl) hj (r:=0) rfl)
 obtain⟨b2,e2,c2⟩:=qz h (qG (f:=operCells) (size:=2) (fun _=>rfl) hj (r:=1) rfl)
 rw[e1] at e2
 cases e2
 exact⟨b,0,e1,by rw[Nat.zero_add];exact c1,by rw[Nat.zero_add];exact c2⟩
theorem Tryz.infoOperT:(Tryz.prog.info? 51).map (fun i=>(i.zero,i.size,i.bytes))=some (some (.agg #[.string ⟨#[]⟩,.string ⟨#[]⟩]),2,32):=by kernel_rfl
theorem Tryz.infoClassT:(Tryz.prog.info? 44).map (fun i=>(i.zero,i.size,i.bytes))=some (some (.agg #[.string ⟨#[]⟩,.slice none 0 0]),2,40):=by kernel_rfl
theorem Tryz.infoOpS:(Tryz.prog.info? 54).map (fun i=>(i.zero,i.size,i.bytes))=some (some (.agg #[.string ⟨#[]⟩,.string ⟨#[]⟩,.string ⟨#[]⟩,.slice none 0 0,.int .i64 0,.slice none 0 0]),6,104):=by kernel_rfl
theorem Xy(s:SlV)(l:List ByteArray)(w:World)(hl:StrsAt w s l)(hlen:l.length<=100000)(hsz:∀x,x∈l->Fit48 x) :
 Calls Tryz.prog 90 #[.slice s.a s.n s.c,.func (.func 83) #[] #[]] w fun e w'=>∃s':SlV,e = .returned (.slice s'.a s'.n s'.c)/\Below w.heap.size w w'/\w'.ownsRow w.heap.size 9 1 s'.v l.length (l.map Value.string):=by
 obtain⟨a,n,c⟩:=s
 obtain⟨hn,hc,hx⟩:=hl
 dsimp only at hn hc hx ⊢
 subst hn
 replace hx:=Lib.hid hx
 replace hsz:=Lib.hid hsz
 go_enter Tryz.func90,Tryz.ntmps90
 go_wp2_with fail
 go_loopw [5,10] (fun made i wr=>∃ (k:Nat) (ra:Option Addr) (rc:Nat),k<=l.length/\i = .int .i64 k/\made = .slice ra k rc/\Below w.heap.size w wr/\wr.ownsRow w.heap.size 9 1 (.slice ra k rc) k ((l.take k).map Value.string)) (fun _ i _=>l.length-(intOf i).toNat)
 case atStart=>exact⟨0,none,0,Nat.zero_le _,rfl,rfl,Below.refl _ _,by simpa using World.ownsRow_nil w _ _ _⟩
 case round=>
  obtain⟨k,ra,rc,hk,rfl,rfl,hB,hrow⟩:=hrel
  have k0:(0:Int)<=k:=Int.natCast_nonneg _
  by_cases hlt:k<l.length
  ·obtain⟨x,hxk⟩:∃x,l[k]?=some x:=⟨l[k],List.getElem?_eq_getElem hlt⟩
   have hmem:=List.mem_of_getElem? hxk
   obtain⟨b,o,rfl,hcell⟩:=hx.out k x hxk
   replace hcell:=cell_below hB hcell
   have hi:IntKind.i64.wrap ((k:Int)+1)=k+1:=IntWalk.i64_in _ (by omega)
   have k1:(k:Int)<l.length:=by omega
   have hf:x.size<=281474976710656:=hsz.out x hmem
   have htk:Hid (l.take (k+1)=l.take k++[x]):=Lib.hid (by rw[List.take_add_one,hxk];rfl)
   obtain⟨i0,hi0,hz0,hz1,hz2⟩:=info_parts Tryz.infoStr
   have hBs:=hB.size
   replace hrow:=Lib.hid hrow
   clear hxk hmem
   go_wp2_with (first
    |(go_at_call 83;refine(xD _ _ hf).mono ?_;rintro e W1 ⟨rfl,hb1⟩;have hrow1:=qb hrow.out hb1;have hb1s:=hb1.size)
    |(at_builtin;go_loud (refine wpList_append_own_at _ rfl _ _ 25 rfl w.heap.size 9 i0 _ 1 16 Tryz.underlying25 hi0 hz0 hz1 hz2 rfl (by decide) _ k _ rfl (hrow1.alloc _) ⟨W1.heap.size,0,none⟩ 1 1 [.string x] rfl rfl (qF _ _ _ _ rfl) (by simp[Value.oneCell']) (by unfold maxLen;omega) (by omega) (by simp;omega) ?_;intro v' W7 hown7 hgrow _ hblk;obtain⟨g',cap',rfl⟩:=ownsRow_succ hown7)))
   have hB7:Below w.heap.size w W7:=(hB.trans (hb1.mono hBs)).grown (qq hgrow) (by omega) (fun j e=>(qd hrow1 e).1)
   refine⟨⟨k+1,_,_,by omega,by go_num,rfl,hB7,?_⟩,by simp[intOf];omega⟩
   rw[htk.out,List.map_append]
   exact hown7
  ·obtain rfl:k=l.length:=by omega
   rw[List.take_length] at hrow
   replace hrow:=Lib.hid hrow
   go_wp2_with fail
   go_ret
   exact⟨⟨ra,l.length,rc⟩,rfl,hB,hrow.out⟩
theorem qaU(o:OperD)(w:World)(hf:OperFit o) :
 Calls Tryz.prog 125 #[.agg #[.string o.cls,.string o.fix]] w fun e w'=>e = .returned (.agg #[.string o.cls,.string o.fix])/\Below w.heap.size w w':=by
 obtain⟨oc,of⟩:=o
 obtain⟨f1,f2⟩:=hf
 unfold Fit48 at f1 f2
 dsimp only at f1 f2 ⊢
 obtain⟨w0,hw0⟩:∃w0,w0=(w.alloc (.cells #[.string oc,.string of] 51)).alloc (.cells #[.string ⟨#[]⟩,.string ⟨#[]⟩] 51):=⟨_,rfl⟩
 have hB0:Below w.heap.size w w0:=by rw[hw0];exact qe.alloc (by simp) _
 have h1:Cells w0 w.heap.size 51 #[.string oc,.string of]:=by rw[hw0];exact(Cells.new w _ _).alloc _
 have h2:Cells w0 (w.heap.size+1) 51 #[.string ⟨#[]⟩,.string ⟨#[]⟩]:=by
  have:=Cells.new (w.alloc (.cells #[.string oc,.string of] 51)) 51 #[.string ⟨#[]⟩,.string ⟨#[]⟩]
  rw[hw0];simpa using this
 have hread:∀W,Below w0.heap.size w0 W->W.cell? ⟨w.heap.size,0,none⟩=some (.string oc)/\W.cell? ⟨w.heap.size,1,none⟩=some (.string of)/\(W.cell? ⟨w.heap.size+1,0,none⟩=some (.string ⟨#[]⟩)/\W.cell? ⟨w.heap.size+1,1,none⟩=some (.string ⟨#[]⟩)/\W.frozen? ⟨w.heap.size+1,0,none⟩=false/\W.frozen? ⟨w.heap.size+1,1,none⟩=false):=fun W hb=>by
  have a:=h1.below hb h1.lt
  have b:=h2.below hb h2.lt
  exact⟨a.cell rfl,a.cell rfl,b.cell rfl,b.cell rfl,b.frozen 0,b.frozen 1⟩
 have hA:Below w0.heap.size w0 w0.drew:=(Below.refl _ _).drew
 have hS0:=hread _ (Below.refl _ w0)
 have hne:w.heap.size≠w.heap.size+1:=by omega
 go_enter Tryz.func125,Tryz.ntmps125
 go_wp2_with fail
 rw[←hw0]
 clear hw0
 go_region_held3 (fun w'=>w'.cell? ⟨w.heap.size,0,none⟩=some (.string oc)/\w'.cell? ⟨w.heap.size,1,none⟩=some (.string of))
  (go_keep)
  ((first
    |(go_at_call 83;refine(xD _ _ (by first|exact f1|exact f2)).mono ?_;rintro e W1 ⟨rfl,hb1⟩;have hA1:=hA.trans (hb1.mono hA.size);clear hA;have hA:=hA1;clear hA1;have hS:=hread _ hA)))
 (try simp only[Exit.then])
 go_wp2_with fail
 refine bodyPost_ret (v:=.agg #[.string oc,.string of]) ?_ rfl ⟨rfl,?_⟩
 ·rw[qr rfl]
  go_simp
 ·(repeat' (first|exact hB0.trans (hA.mono hB0.size)|refine Below.setCell ?_ (by simp) _))
theorem qfz(s:SlV)(l:List OperD)(w:World)(hl:qW w s l)(hlen:l.length<=100000)(hsz:∀x,x∈l->OperFit x) :
 Calls Tryz.prog 126 #[.slice s.a s.n s.c,.func (.func 125) #[] #[]] w fun e w'=>∃s':SlV,e = .returned (.slice s'.a s'.n s'.c)/\Below w.heap.size w w'/\w'.ownsRow w.heap.size 51 2 s'.v l.length (l.flatMap operCells):=by
 obtain⟨a,n,c⟩:=s
 obtain⟨hn,hc,hx⟩:=hl
 dsimp only at hn hc hx ⊢
 subst hn
 replace hx:=Lib.hid hx
 replace hsz:=Lib.hid hsz
 go_enter Tryz.func126,Tryz.ntmps126
 go_wp2_with fail
 go_loopw [5,10] (fun made i wr=>∃ (k:Nat) (ra:Option Addr) (rc:Nat),k<=l.length/\i = .int .i64 k/\made = .slice ra k rc/\Below w.heap.size w wr/\wr.ownsRow w.heap.size 51 2 (.slice ra k rc) k ((l.take k).flatMap operCells)) (fun _ i _=>l.length-(intOf i).toNat)
 case atStart=>exact⟨0,none,0,Nat.zero_le _,rfl,rfl,Below.refl _ _,by simpa using World.ownsRow_nil w _ _ _⟩
 case round=>
  obtain⟨k,ra,rc,hk,rfl,rfl,hB,hrow⟩:=hrel
  have k0:(0:Int)<=k:=Int.natCast_nonneg _
  by_cases hlt:k<l.length
  ·obtain⟨⟨xc,xf⟩,hxk⟩:∃x,l[k]?=some x:=⟨l[k],List.getElem?_eq_getElem hlt⟩
   have hmem:=List.mem_of_getElem? hxk
   obtain⟨b,o,rfl,hcell0,hcell1⟩:=hx.out k _ hxk
   dsimp only at hcell0 hcell1
   replace hcell0:=cell_below hB hcell0
   replace hcell1:=cell_below hB hcell1
   have hi:IntKind.i64.wrap ((k:Int)+1)=k+1:=IntWalk.i64_in _ (by omega)
   have k1:(k:Int)<l.length:=by omega
   have hf:=hsz.out _ hmem
   have htk:Hid ((l.take (k+1)).flatMap operCells=(l.take k).flatMap operCells++[.string xc,.string xf]):=Lib.hid (by rw[List.take_add_one,hxk,List.flatMap_append];rfl)
   obtain⟨i0,hi0,hz0,hz1,hz2⟩:=info_parts Tryz.infoOperT
   have hBs:=hB.size
   have hbx:Below wr.heap.size wr (wr.alloc (.cells #[.string xc,.string xf] 51)):=qe
   have K:=fun W=>qaU ⟨xc,xf⟩ W hf
   replace hrow:=Lib.hid hrow
   clear hxk hmem hf
   go_wp2_with (first
    |(go_at_call 125;refine(K _).mono ?_;clear K;rintro e W1 ⟨rfl,hb1⟩;have hb2:=hbx.trans (hb1.mono hbx.size);have hrow1:=qb hrow.out hb2;have hb1s:=hb2.size)
    |(at_builtin;go_loud (refine wpList_append_own_at _ rfl _ _ 52 rfl w.heap.size 51 i0 _ 2 32 Tryz.underlying52 hi0 hz0 hz1 hz2 rfl (by decide) _ k _ rfl (hrow1.alloc _) ⟨W1.heap.size,0,none⟩ 1 1 [.string xc,.string xf] rfl rfl (qF _ _ _ _ rfl) (by simp[Value.oneCell']) (by unfold maxLen;omega) (by omega) (by simp;omega) ?_;intro v' W7 hown7 hgrow _ hblk;obtain⟨g',cap',rfl⟩:=ownsRow_succ hown7)))
   have hB7:Below w.heap.size w W7:=(hB.trans (hb2.mono hBs)).grown (qq hgrow) (by omega) (fun j e=>(qd hrow1 e).1)
   refine⟨⟨k+1,_,_,by omega,by go_num,rfl,hB7,?_⟩,by simp[intOf];omega⟩
   rw[htk.out]
   exact hown7
  ·obtain rfl:k=l.length:=by omega
   rw[List.take_length] at hrow
   replace hrow:=Lib.hid hrow
   go_wp2_with fail
   go_ret
   exact⟨⟨ra,l.length,rc⟩,rfl,hB,hrow.out⟩
def ClassFit(k:ClassD):Prop:=Fit48 k.name/\k.regs.length<=100000/\∀x,x∈k.regs->Fit48 x
def jq(p:ClassD×SlV):List Value:=[.string p.1.name,.slice p.2.a p.2.n p.2.c]
theorem ClassesAt.of_row{W:World}{base:Nat}{s:SlV}{vs:List (ClassD×SlV)}(h:W.ownsRow base 44 2 s.v vs.length (vs.flatMap jq))(hv:∀p,p∈vs->StrsAt W p.2 p.1.regs):ClassesAt W s (vs.map (·.1)):=by
 obtain⟨h1,h2⟩:=yM h
 refine⟨by rw[List.length_map];exact h1,by omega,fun j x hj=>?_⟩
 rw[List.getElem?_map] at hj
 cases hp:vs[j]? with
 | none=>rw[hp] at hj;cases hj
 |some p=>
  rw[hp] at hj
  cases hj
  obtain⟨b,e1,c1⟩:=qz h (qG (f:=jq) (size:=2) (fun _=>rfl) hp (r:=0) rfl)
  obtain⟨b2,e2,c2⟩:=qz h (qG (f:=jq) (size:=2) (fun _=>rfl) hp (r:=1) rfl)
  rw[e1] at e2
  cases e2
  exact⟨b,0,e1,p.2,by rw[Nat.zero_add];exact c1,by rw[Nat.zero_add];exact c2,hv p (List.mem_of_getElem? hp)⟩
theorem qdU(nm:ByteArray)(s:SlV)(l:List ByteArray)(w:World)(hl:StrsAt w s l)(hf:ClassFit ⟨nm,l⟩) :
 Calls Tryz.prog 87 #[.agg #[.string nm,.slice s.a s.n s.c]] w fun e w'=>∃s':SlV,e = .returned (.agg #[.string nm,.slice s'.a s'.n s'.c])/\Below w.heap.size w w'/\w'.ownsRow w.heap.size 9 1 s'.v l.length (l.map Value.string):=by
 obtain⟨sa,sn,sc⟩:=s
 obtain⟨f1,f2,f3⟩:=hf
 unfold Fit48 at f1
 dsimp only at f1 f2 f3 ⊢
 obtain⟨w0,hw0⟩:∃w0,w0=(w.alloc (.cells #[.string nm,.slice sa sn sc] 44)).alloc (.cells #[.string ⟨#[]⟩,.slice none 0 0] 44):=⟨_,rfl⟩
 have hB0:Below w.heap.size w w0:=by rw[hw0];exact qe.alloc (by simp) _
 have h1:Cells w0 w.heap.size 44 #[.string nm,.slice sa sn sc]:=by rw[hw0];exact(Cells.new w _ _).alloc _
 have h2:Cells w0 (w.heap.size+1) 44 #[.string ⟨#[]⟩,.slice none 0 0]:=by
  have:=Cells.new (w.alloc (.cells #[.string nm,.slice sa sn sc] 44)) 44 #[.string ⟨#[]⟩,.slice none 0 0]
  rw[hw0];simpa using this
 have hread:∀W,Below w0.heap.size w0 W->W.cell? ⟨w.heap.size,0,none⟩=some (.string nm)/\W.cell? ⟨w.heap.size,1,none⟩=some (.slice sa sn sc)/\(W.cell? ⟨w.heap.size+1,0,none⟩=some (.string ⟨#[]⟩)/\W.cell? ⟨w.heap.size+1,1,none⟩=some (.slice none 0 0)/\W.frozen? ⟨w.heap.size+1,0,none⟩=false/\W.frozen? ⟨w.heap.size+1,1,none⟩=false):=fun W hb=>by
  have a:=h1.below hb h1.lt
  have b:=h2.below hb h2.lt
  exact⟨a.cell rfl,a.cell rfl,b.cell rfl,b.cell rfl,b.frozen 0,b.frozen 1⟩
 have hA:Below w0.heap.size w0 w0.drew:=(Below.refl _ _).drew
 have hS0:=hread _ (Below.refl _ w0)
 have hne:w.heap.size≠w.heap.size+1:=by omega
 have KE:=fun W (hb:Below w0.heap.size w0 W)=>Xy ⟨sa,sn,sc⟩ l W (hl.below (hB0.trans (hb.mono hB0.size))) f2 f3
 dsimp only at KE
 clear hl f3
 go_enter Tryz.func87,Tryz.ntmps87
 go_wp2_with fail
 rw[←hw0]
 clear hw0
 go_region_held3 (fun w'=>w'.cell? ⟨w.heap.size,0,none⟩=some (.string nm)/\w'.cell? ⟨w.heap.size,1,none⟩=some (.slice sa sn sc))
  (go_keep)
  ((first
    |(go_at_call 83;refine(xD _ _ f1).mono ?_;rintro e W1 ⟨rfl,hb1⟩;have hA1:=hA.trans (hb1.mono hA.size);have hS1:=hread _ hA1)
    |(go_at_call 90;refine(KE _ hA1).mono ?_;clear KE;rintro e W2 ⟨⟨qa,qn,qc⟩,rfl,hb2,hrow⟩;have hA2:=hA1.trans (hb2.mono hA1.size);have hS2:=hread _ hA2;clear hS1;replace hrow:=Lib.hid hrow)))
 (try simp only[Exit.then])
 have hq:W2.heap.size<=W2.heap.size:=Nat.le_refl _
 go_wp2_with fail
 refine bodyPost_ret (v:=.agg #[.string nm,.slice qa qn qc]) ?_ rfl ⟨⟨qa,qn,qc⟩,rfl,?_,?_⟩
 ·rw[qr rfl]
  go_simp
 ·(repeat' (first|exact hB0.trans (hA2.mono hB0.size)|refine Below.setCell ?_ (by simp) _))
 ·have hrw:W2.ownsRow w.heap.size 9 1 (.slice qa qn qc) l.length (l.map Value.string):=qj hrow.out (by have:=hA1.size;have:=hB0.size;omega)
  have h22:=h2.below hA2 h2.lt
  first
   | exact(Stays.of_set (ts:=[44]) (h22.set (j:=0) _) (by simp) _ _).row ((Stays.of_set (ts:=[44]) h22 (by simp) _ _).row hrw (by decide)) (by decide)
   | exact(Stays.of_set (ts:=[44]) h22 (by simp) _ _).row hrw (by decide)
def qfA(base:Nat)(W:World)(s:SlV)(l:List ClassD):Prop:=
 ∃vs:List (ClassD×SlV),vs.map (·.1)=l/\W.ownsRow base 44 2 s.v vs.length (vs.flatMap jq)/\∀p,p∈vs->W.ownsRow base 9 1 p.2.v p.1.regs.length (p.1.regs.map Value.string)
theorem qfA.at_{base:Nat}{W:World}{s:SlV}{l:List ClassD}(h:qfA base W s l):ClassesAt W s l:=by
 obtain⟨vs,rfl,h1,h2⟩:=h
 exact ClassesAt.of_row h1 fun p hp=>StrsAt.of_row (h2 p hp) rfl
theorem qdV(s:SlV)(l:List ClassD)(w:World)(hl:ClassesAt w s l)(hlen:l.length<=100000)(hsz:∀x,x∈l->ClassFit x) :
 Calls Tryz.prog 86 #[.slice s.a s.n s.c,.func (.func 87) #[] #[]] w fun e w'=>∃s':SlV,e = .returned (.slice s'.a s'.n s'.c)/\Below w.heap.size w w'/\qfA w.heap.size w' s' l:=by
 obtain⟨a,n,c⟩:=s
 obtain⟨hn,hc,hx⟩:=hl
 dsimp only at hn hc hx ⊢
 subst hn
 replace hx:=Lib.hid hx
 replace hsz:=Lib.hid hsz
 go_enter Tryz.func86,Tryz.ntmps86
 go_wp2_with fail
 go_loopw [5,10] (fun made i wr=>∃ (k:Nat) (ra:Option Addr) (rc:Nat),k<=l.length/\i = .int .i64 k/\made = .slice ra k rc/\Below w.heap.size w wr/\Hid (qfA w.heap.size wr ⟨ra,k,rc⟩ (l.take k))) (fun _ i _=>l.length-(intOf i).toNat)
 case atStart=>exact⟨0,none,0,Nat.zero_le _,rfl,rfl,Below.refl _ _,Lib.hid ⟨[],by simp,by simpa[SlV.v] using World.ownsRow_nil w _ _ _,fun p hp=>by simp at hp⟩⟩
 case round=>
  obtain⟨k,ra,rc,hk,rfl,rfl,hB,hrow⟩:=hrel
  have k0:(0:Int)<=k:=Int.natCast_nonneg _
  by_cases hlt:k<l.length
  ·obtain⟨x,hxk⟩:∃x,l[k]?=some x:=⟨l[k],List.getElem?_eq_getElem hlt⟩
   have hmem:=List.mem_of_getElem? hxk
   obtain⟨b,o,rfl,⟨qa,qn,qc⟩,q0,q1,hs⟩:=hx.out k _ hxk
   dsimp only at q0 q1
   replace q0:=cell_below hB q0
   replace q1:=cell_below hB q1
   have hi:IntKind.i64.wrap ((k:Int)+1)=k+1:=IntWalk.i64_in _ (by omega)
   have k1:(k:Int)<l.length:=by omega
   have hf:=hsz.out _ hmem
   have htk:Hid (l.take (k+1)=l.take k++[x]):=Lib.hid (by rw[List.take_add_one,hxk];rfl)
   obtain⟨i0,hi0,hz0,hz1,hz2⟩:=info_parts Tryz.infoClassT
   have hBs:=hB.size
   have hbx:Below wr.heap.size wr (wr.alloc (.cells #[.string x.name,.slice qa qn qc] 44)):=qe
   have K:=qdU x.name ⟨qa,qn,qc⟩ x.regs _ (hs.below (hB.trans (hbx.mono hBs))) hf
   obtain⟨vs,hv1,hv2,hv3⟩:=hrow.out
   have hvl:vs.length=k:=by have:=congrArg List.length hv1;rw[List.length_map,List.length_take] at this;omega
   rw[hvl] at hv2
   replace hv1:=Lib.hid hv1
   replace hv2:=Lib.hid hv2
   replace hv3:=Lib.hid hv3
   replace hvl:=Lib.hid hvl
   clear hxk hmem hf hs hrow
   go_wp2_with (first
    |(go_at_call 87;refine K.mono ?_;clear K;rintro e W1 ⟨⟨ya,yn,yc⟩,rfl,hb1,hy⟩;have hb2:=hbx.trans (hb1.mono hbx.size);have hrow1:=qb hv2.out hb2;have hb1s:=hb2.size;replace hy:=Lib.hid hy)
    |(at_builtin;go_loud (refine wpList_append_own_at _ rfl _ _ 23 rfl w.heap.size 44 i0 _ 2 40 Tryz.underlying23 hi0 hz0 hz1 hz2 rfl (by decide) _ k _ rfl (hrow1.alloc _) ⟨W1.heap.size,0,none⟩ 1 1 [.string x.name,.slice ya yn yc] rfl rfl (qF _ _ _ _ rfl) (by simp[Value.oneCell']) (by unfold maxLen;omega) (by omega) (by simp;omega) ?_;intro v' W7 hown7 hgrow _ hblk;obtain⟨g',cap',rfl⟩:=ownsRow_succ hown7)))
   have hgr:=qq hgrow
   have hB7:Below w.heap.size w W7:=(hB.trans (hb2.mono hBs)).grown hgr (by omega) (fun j e=>(qd hrow1 e).1)
   have hst:Stays [44] W1 W7:=Stays.of_grown hrow1 (by simp) hgr
   refine⟨⟨k+1,_,_,by omega,by go_num,rfl,hB7,Lib.hid ⟨vs++[(x,⟨ya,yn,yc⟩)],?_,?_,?_⟩⟩,by simp[intOf];omega⟩
   ·rw[htk.out,List.map_append,hv1.out];rfl
   ·rw[List.length_append,List.length_singleton,hvl.out,List.flatMap_append]
    simpa[jq,SlV.v] using hown7
   ·intro p hp
    rcases List.mem_append.1 hp with hp|hp
    ·exact hst.row (qb (hv3.out p hp) hb2) (by decide)
    ·rw[List.mem_singleton] at hp
     subst hp
     exact hst.row (qj hy.out (Nat.le_trans hBs (by simp))) (by decide)
  ·obtain rfl:k=l.length:=by omega
   rw[List.take_length] at hrow
   go_wp2_with fail
   go_ret
   exact⟨⟨ra,l.length,rc⟩,rfl,hB,hrow.out⟩
def OpFit48(o:OpD):Prop:=Fit48 o.name/\OperFit o.d/\o.uses.length<=100000/\(∀u,u∈o.uses->OperFit u)/\o.clob.length<=100000/\∀s,s∈o.clob->Fit48 s
def xM(p:OpD×SlV×SlV):List Value:=[.string p.1.name,.string p.1.d.cls,.string p.1.d.fix,.slice p.2.1.a p.2.1.n p.2.1.c,.int .i64 p.1.tie,.slice p.2.2.a p.2.2.n p.2.2.c]
def qfB(base:Nat)(W:World)(s:SlV)(l:List OpD):Prop:=
 ∃vs:List (OpD×SlV×SlV),vs.map (·.1)=l/\W.ownsRow base 54 6 s.v vs.length (vs.flatMap xM)/\∀p,p∈vs->W.ownsRow base 51 2 p.2.1.v p.1.uses.length (p.1.uses.flatMap operCells)/\W.ownsRow base 9 1 p.2.2.v p.1.clob.length (p.1.clob.map Value.string)
theorem qfB.at_{base:Nat}{W:World}{s:SlV}{l:List OpD}(h:qfB base W s l):OpsAt W s l:=by
 obtain⟨vs,rfl,h1,h2⟩:=h
 obtain⟨g1,g2⟩:=yM h1
 refine⟨by rw[List.length_map];exact g1,by omega,fun j x hj=>?_⟩
 rw[List.getElem?_map] at hj
 cases hp:vs[j]? with
 | none=>rw[hp] at hj;cases hj
 |some p=>
  rw[hp] at hj
  cases hj
  obtain⟨h3,h4⟩:=h2 p (List.mem_of_getElem? hp)
  obtain⟨b,e0,c0⟩:=qz h1 (qG (f:=xM) (size:=6) (fun _=>rfl) hp (r:=0) rfl)
  obtain⟨b1,e1,c1⟩:=qz h1 (qG (f:=xM) (size:=6) (fun _=>rfl) hp (r:=1) rfl)
  obtain⟨b2,e2,c2⟩:=qz h1 (qG (f:=xM) (size:=6) (fun _=>rfl) hp (r:=2) rfl)
  obtain⟨b3,e3,c3⟩:=qz h1 (qG (f:=xM) (size:=6) (fun _=>rfl) hp (r:=3) rfl)
  obtain⟨b4,e4,c4⟩:=qz h1 (qG (f:=xM) (size:=6) (fun _=>rfl) hp (r:=4) rfl)
  obtain⟨b5,e5,c5⟩:=qz h1 (qG (f:=xM) (size:=6) (fun _=>rfl) hp (r:=5) rfl)
  rw[e0] at e1 e2 e3 e4 e5
  cases e1
  cases e2
  cases e3
  cases e4
  cases e5
  exact⟨b,0,e0,p.2.1,p.2.2,by rw[Nat.zero_add];exact c0,by rw[Nat.zero_add];exact c1,by rw[Nat.zero_add];exact c2,by rw[Nat.zero_add];exact c3,by rw[Nat.zero_add];exact c4,by rw[Nat.zero_add];exact c5,qW.of_row h3,StrsAt.of_row h4 rfl⟩
theorem qhq(x:OpD)(u q:SlV)(w:World)(hu:qW w u x.uses)(hq:StrsAt w q x.clob)(hf:OpFit48 x) :
 Calls Tryz.prog 89 #[.agg #[.string x.name,.string x.d.cls,.string x.d.fix,.slice u.a u.n u.c,.int .i64 x.tie,.slice q.a q.n q.c]] w fun e w'=>∃u' q':SlV,e = .returned (.agg #[.string x.name,.string x.d.cls,.string x.d.fix,.slice u'.a u'.n u'.c,.int .i64 x.tie,.slice q'.a q'.n q'.c])/\Below w.heap.size w w' /\
  w'.ownsRow w.heap.size 51 2 u'.v x.uses.length (x.uses.flatMap operCells)/\w'.ownsRow w.heap.size 9 1 q'.v x.clob.length (x.clob.map Value.string):=by
 obtain⟨xn,⟨dc,df⟩,us,xt,xk⟩:=x
 obtain⟨ua,un,uc⟩:=u
 obtain⟨qa,qn,qc⟩:=q
 obtain⟨f1,f2,f3,f4,f5,f6⟩:=hf
 unfold Fit48 at f1
 dsimp only at f1 f2 f3 f4 f5 f6 hu hq ⊢
 obtain⟨w0,hw0⟩:∃w0,w0=(w.alloc (.cells #[.string xn,.string dc,.string df,.slice ua un uc,.int .i64 xt,.slice qa qn qc] 54)).alloc (.cells #[.string ⟨#[]⟩,.string ⟨#[]⟩,.string ⟨#[]⟩,.slice none 0 0,.int .i64 0,.slice none 0 0] 54):=⟨_,rfl⟩
 have hB0:Below w.heap.size w w0:=by rw[hw0];exact qe.alloc (by simp) _
 have h1:Cells w0 w.heap.size 54 #[.string xn,.string dc,.string df,.slice ua un uc,.int .i64 xt,.slice qa qn qc]:=by rw[hw0];exact(Cells.new w _ _).alloc _
 have h2:Cells w0 (w.heap.size+1) 54 #[.string ⟨#[]⟩,.string ⟨#[]⟩,.string ⟨#[]⟩,.slice none 0 0,.int .i64 0,.slice none 0 0]:=by
  have:=Cells.new (w.alloc (.cells #[.string xn,.string dc,.string df,.slice ua un uc,.int .i64 xt,.slice qa qn qc] 54)) 54 #[.string ⟨#[]⟩,.string ⟨#[]⟩,.string ⟨#[]⟩,.slice none 0 0,.int .i64 0,.slice none 0 0]
  rw[hw0];simpa using this
 have hread:∀W,Below w0.heap.size w0 W->W.cell? ⟨w.heap.size,0,none⟩=some (.string xn)/\W.cell? ⟨w.heap.size,1,none⟩=some (.string dc)/\W.cell? ⟨w.heap.size,2,none⟩=some (.string df)/\W.cell? ⟨w.heap.size,3,none⟩=some (.slice ua un uc)/\W.cell? ⟨w.heap.size,4,none⟩=some (.int .i64 xt)/\W.cell? ⟨w.heap.size,5,none⟩=some (.slice qa qn qc):=fun W hb=>by
  have a:=h1.below hb h1.lt
  exact⟨a.cell rfl,a.cell rfl,a.cell rfl,a.cell rfl,a.cell rfl,a.cell rfl⟩
 have hres:∀W,Below w0.heap.size w0 W->Cells W (w.heap.size+1) 54 #[.string ⟨#[]⟩,.string ⟨#[]⟩,.string ⟨#[]⟩,.slice none 0 0,.int .i64 0,.slice none 0 0]:=fun W hb=>h2.below hb h2.lt
 have hlt2:w.heap.size+1<w0.heap.size:=h2.lt
 have hA:Below w0.heap.size w0 w0.drew:=(Below.refl _ _).drew
 have hS0:=hread _ (Below.refl _ w0)
 have hne:w.heap.size≠w.heap.size+1:=by omega
 have KO:=fun W=>qaU ⟨dc,df⟩ W f2
 have KU:=fun W (hb:Below w0.heap.size w0 W)=>qfz ⟨ua,un,uc⟩ us W (hu.below (hB0.trans (hb.mono hB0.size))) f3 f4
 have KS:=fun W (hb:Below w0.heap.size w0 W)=>Xy ⟨qa,qn,qc⟩ xk W (hq.below (hB0.trans (hb.mono hB0.size))) f5 f6
 dsimp only at KO KU KS
 replace hres:=Lib.hid hres
 replace hread:=Lib.hid hread
 replace KU:=Lib.hid KU
 replace KS:=Lib.hid KS
 clear hu hq f2 f4 f6 h1 h2
 go_enter Tryz.func89,Tryz.ntmps89
 go_wp2_with fail
 rw[←hw0]
 clear hw0
 go_region_held3 (fun w'=>w'.cell? ⟨w.heap.size,0,none⟩=some (.string xn)/\w'.cell? ⟨w.heap.size,1,none⟩=some (.string dc)/\w'.cell? ⟨w.heap.size,2,none⟩=some (.string df)/\w'.cell? ⟨w.heap.size,3,none⟩=some (.slice ua un uc)/\w'.cell? ⟨w.heap.size,4,none⟩=some (.int .i64 xt)/\w'.cell? ⟨w.heap.size,5,none⟩=some (.slice qa qn qc))
  (go_keep)
  ((first
    |(go_at_call 83;refine(xD _ _ f1).mono ?_;rintro e W1 ⟨rfl,hb1⟩;have hA1:=hA.trans (hb1.mono hA.size);have hS1:=hread.out _ hA1)
    |(go_at_call 125;refine(KO _).mono ?_;rintro e W2 ⟨rfl,hb2⟩;have hA2:=hA1.trans (hb2.mono hA1.size);have hS2:=hread.out _ hA2;clear hS1)
    |(go_at_call 126;refine(KU.out _ hA2).mono ?_;rintro e W3 ⟨⟨ya,yn,yc⟩,rfl,hb3,hy⟩;have hA3:=hA2.trans (hb3.mono hA2.size);have hS3:=hread.out _ hA3;clear hS2;replace hy:=Lib.hid hy)
    |(go_at_call 90;refine(KS.out _ hA3).mono ?_;rintro e W4 ⟨⟨za,zn,zc⟩,rfl,hb4,hz⟩;have hA4:=hA3.trans (hb4.mono hA3.size);have hS4:=hread.out _ hA4;clear hS3;replace hz:=Lib.hid hz;have hR4:=hres.out _ hA4;have r0:=hR4.cell (j:=0) (v:=.string ⟨#[]⟩) rfl;have r1:=hR4.cell (j:=1) (v:=.string ⟨#[]⟩) rfl;have r2:=hR4.cell (j:=2) (v:=.string ⟨#[]⟩) rfl;have r3:=hR4.cell (j:=3) (v:=.slice none 0 0) rfl;have r4:=hR4.cell (j:=4) (v:=.int .i64 0) rfl;have r5:=hR4.cell (j:=5) (v:=.slice none 0 0) rfl;have r6:=fun j=>hR4.frozen j;replace hR4:=Lib.hid hR4)))
 (try simp only[Exit.then])
 go_wp2_with fail
 have hsz:w.heap.size<=w0.heap.size:=hB0.size
 refine bodyPost_ret (v:=.agg #[.string xn,.string dc,.string df,.slice ya yn yc,.int .i64 xt,.slice za zn zc]) ?_ rfl ⟨⟨ya,yn,yc⟩,⟨za,zn,zc⟩,rfl,?_,?_,?_⟩
 ·rw[qr rfl]
  go_simp
 ·(repeat' (first|exact hB0.trans (hA4.mono hB0.size)|refine Below.setCell ?_ (by simp) _))
 ·refine World.ownsRow.kept (row:=some (w.heap.size+1)) (qj (qb hy.out hb4) (Nat.le_trans hsz hA2.size)) ?_ (.inr fun e=>?_)
  ·(repeat' (first|with_reducible exact qy _ _ _ _|with_reducible refine World.grownBy.trans ?_ (qy _ _ _ _)))
  ·have:=(qd hy.out e).1
   have:=hA2.size
   omega
 ·refine World.ownsRow.kept (row:=some (w.heap.size+1)) (qj hz.out (Nat.le_trans hsz hA3.size)) ?_ (.inr fun e=>?_)
  ·(repeat' (first|with_reducible exact qy _ _ _ _|with_reducible refine World.grownBy.trans ?_ (qy _ _ _ _)))
  ·have:=(qd hz.out e).1
   have:=hA3.size
   omega
theorem qhr(s:SlV)(l:List OpD)(w:World)(hl:OpsAt w s l)(hlen:l.length<=100000)(hsz:∀x,x∈l->OpFit48 x) :
 Calls Tryz.prog 88 #[.slice s.a s.n s.c,.func (.func 89) #[] #[]] w fun e w'=>∃s':SlV,e = .returned (.slice s'.a s'.n s'.c)/\Below w.heap.size w w'/\qfB w.heap.size w' s' l:=by
 obtain⟨a,n,c⟩:=s
 obtain⟨hn,hc,hx⟩:=hl
 dsimp only at hn hc hx ⊢
 subst hn
 replace hx:=Lib.hid hx
 replace hsz:=Lib.hid hsz
 go_enter Tryz.func88,Tryz.ntmps88
 go_wp2_with fail
 go_loopw [5,10] (fun made i wr=>∃ (k:Nat) (ra:Option Addr) (rc:Nat),k<=l.length/\i = .int .i64 k/\made = .slice ra k rc/\Below w.heap.size w wr/\Hid (qfB w.heap.size wr ⟨ra,k,rc⟩ (l.take k))) (fun _ i _=>l.length-(intOf i).toNat)
 case atStart=>exact⟨0,none,0,Nat.zero_le _,rfl,rfl,Below.refl _ _,Lib.hid ⟨[],by simp,by simpa[SlV.v] using World.ownsRow_nil w _ _ _,fun p hp=>by simp at hp⟩⟩
 case round=>
  obtain⟨k,ra,rc,hk,rfl,rfl,hB,hrow⟩:=hrel
  have k0:(0:Int)<=k:=Int.natCast_nonneg _
  by_cases hlt:k<l.length
  ·obtain⟨x,hxk⟩:∃x,l[k]?=some x:=⟨l[k],List.getElem?_eq_getElem hlt⟩
   have hmem:=List.mem_of_getElem? hxk
   obtain⟨b,o,rfl,⟨ua,un,uc⟩,⟨qa,qn,qc⟩,q0,q1,q2,q3,q4,q5,hu,hs⟩:=hx.out k _ hxk
   dsimp only at q3 q5
   replace q0:=cell_below hB q0
   replace q1:=cell_below hB q1
   replace q2:=cell_below hB q2
   replace q3:=cell_below hB q3
   replace q4:=cell_below hB q4
   replace q5:=cell_below hB q5
   have hi:IntKind.i64.wrap ((k:Int)+1)=k+1:=IntWalk.i64_in _ (by omega)
   have k1:(k:Int)<l.length:=by omega
   have hf:=hsz.out _ hmem
   have htk:Hid (l.take (k+1)=l.take k++[x]):=Lib.hid (by rw[List.take_add_one,hxk];rfl)
   obtain⟨i0,hi0,hz0,hz1,hz2⟩:=info_parts Tryz.infoOpS
   have hBs:=hB.size
   have hbx:Below wr.heap.size wr (wr.alloc (.cells #[.string x.name,.string x.d.cls,.string x.d.fix,.slice ua un uc,.int .i64 x.tie,.slice qa qn qc] 54)):=qe
   have K:=qhq x ⟨ua,un,uc⟩ ⟨qa,qn,qc⟩ _ (hu.below (hB.trans (hbx.mono hBs))) (hs.below (hB.trans (hbx.mono hBs))) hf
   obtain⟨vs,hv1,hv2,hv3⟩:=hrow.out
   have hvl:vs.length=k:=by have:=congrArg List.length hv1;rw[List.length_map,List.length_take] at this;omega
   rw[hvl] at hv2
   replace hv1:=Lib.hid hv1
   replace hv2:=Lib.hid hv2
   replace hv3:=Lib.hid hv3
   replace hvl:=Lib.hid hvl
   clear hxk hmem hf hs hu hrow
   go_wp2_with (first
    |(go_at_call 89;refine K.mono ?_;clear K;rintro e W1 ⟨⟨pa,pn,pc⟩,⟨ya,yn,yc⟩,rfl,hb1,hp1,hy⟩;have hb2:=hbx.trans (hb1.mono hbx.size);have hrow1:=qb hv2.out hb2;have hb1s:=hb2.size;replace hy:=Lib.hid hy;replace hp1:=Lib.hid hp1)
    |(at_builtin;go_loud (refine wpList_append_own_at _ rfl _ _ 24 rfl w.heap.size 54 i0 _ 6 104 Tryz.underlying24 hi0 hz0 hz1 hz2 rfl (by decide) _ k _ rfl (hrow1.alloc _) ⟨W1.heap.size,0,none⟩ 1 1 [.string x.name,.string x.d.cls,.string x.d.fix,.slice pa pn pc,.int .i64 x.tie,.slice ya yn yc] rfl rfl (qF _ _ _ _ rfl) (by simp[Value.oneCell']) (by unfold maxLen;omega) (by omega) (by simp;omega) ?_;intro v' W7 hown7 hgrow _ hblk;obtain⟨g',cap',rfl⟩:=ownsRow_succ hown7)))
   have hgr:=qq hgrow
   have hB7:Below w.heap.size w W7:=(hB.trans (hb2.mono hBs)).grown hgr (by omega) (fun j e=>(qd hrow1 e).1)
   have hst:Stays [54] W1 W7:=Stays.of_grown hrow1 (by simp) hgr
   refine⟨⟨k+1,_,_,by omega,by go_num,rfl,hB7,Lib.hid ⟨vs++[(x,⟨pa,pn,pc⟩,⟨ya,yn,yc⟩)],?_,?_,?_⟩⟩,by simp[intOf];omega⟩
   ·rw[htk.out,List.map_append,hv1.out];rfl
   ·rw[List.length_append,List.length_singleton,hvl.out,List.flatMap_append]
    simpa[xM,SlV.v] using hown7
   ·intro p hp
    rcases List.mem_append.1 hp with hp|hp
    ·exact⟨hst.row (qb (hv3.out p hp).1 hb2) (by decide),hst.row (qb (hv3.out p hp).2 hb2) (by decide)⟩
    ·rw[List.mem_singleton] at hp
     subst hp
     exact⟨hst.row (qj hp1.out (Nat.le_trans hBs (by simp))) (by decide),hst.row (qj hy.out (Nat.le_trans hBs (by simp))) (by decide)⟩
  ·obtain rfl:k=l.length:=by omega
   rw[List.take_length] at hrow
   go_wp2_with fail
   go_ret
   exact⟨⟨ra,l.length,rc⟩,rfl,hB,hrow.out⟩
end Go.Proofs.YtkoloennfejaaaaGreatDoor
