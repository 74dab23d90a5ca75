/-
  A description opened; the law's Big.
-/
import Derived.Test.YtkoloennfejaaaaGreatDoorMdOne
import Derived.ChangeArms
import Derived.ChangeShapes
import Derived.DataReads
import Derived.SizedLaws
import Derived.KernelRfl
import Derived.Deep.QuietTactic
import Derived.BigQuiet
import Derived.Deep.DeepCutAuto
import Derived.RegionTactic
set_option maxHeartbeats 3200000
set_option maxRecDepth 100000
namespace Go.Proofs.YtkoloennfejaaaaGreatDoor
open Go.RowKit
def Fit47(l:List ByteArray):Prop:=l.length<=140737488355328/\∀x,x∈l->x.size<=140737488355328
def longFrom:List ByteArray->Nat->Nat
 | [],n=>n
 | x::r,n=>if 5000<n then n else longFrom r (n+x.size/8)
theorem xK:∀ (l:List ByteArray) (n:Nat),n<=longFrom l n
 | [],_=>Nat.le_refl _
 |x::r,n=>by
  unfold longFrom
  split
  ·exact Nat.le_refl _
  ·have:=xK r (n+x.size/8);omega
theorem xL:∀ {l:List ByteArray} {n:Nat},(∀x,x∈l->x.size<=140737488355328)->n<=281474976710656->longFrom l n<=281474976710656
 | [],_,_,h=>h
 |x::r,n,hf,h=>by
  unfold longFrom
  split
  ·exact h
  ·have:=hf x List.mem_cons_self
   exact xL (fun y hy=>hf y (List.mem_cons_of_mem _ hy)) (by omega)
theorem qaL(l:List ByteArray)(k:Nat)(x:ByteArray)(hx:l[k]?=some x)(n:Nat):longFrom (l.drop k) n=if 5000<n then n else longFrom (l.drop (k+1)) (n+x.size/8):=by
 obtain⟨hk,rfl⟩:=List.getElem?_eq_some_iff.1 hx
 rw[List.drop_eq_getElem_cons hk];rfl
theorem Xx(s:SlV)(l:List ByteArray)(w:World)(hl:StrsAt w s l)(hf:Fit47 l) :
 Calls Tryz.prog 44 #[.slice s.a s.n s.c] w fun e w'=>e = .returned (.int .i64 (longFrom l l.length))/\w'=w:=by
 obtain⟨a,n,c⟩:=s
 obtain⟨hn,hc,hl⟩:=hl
 dsimp only at hn hc hl ⊢
 subst hn
 obtain⟨hf1,hf2⟩:=hf
 obtain⟨z,hz⟩:∃z,z=longFrom l l.length:=⟨_,rfl⟩
 rw[←hz]
 replace hz:=Lib.hid hz
 replace hl:=Lib.hid hl
 replace hf2:=Lib.hid hf2
 go_enter Tryz.func44,Tryz.ntmps44
 go_wp2_with fail
 go_loop [3,4] (fun m i=>∃ (k m':Nat),k<=l.length/\i = .int .i64 k/\m = .int .i64 m'/\Hid (z=longFrom (l.drop k) m')/\m'<=281474976710656) (fun _ i=>l.length-(intOf i).toNat)
 case atStart=>exact⟨0,l.length,Nat.zero_le _,rfl,rfl,hz,by omega⟩
 case round=>
  obtain⟨k,m',hk,rfl,rfl,hm1,hm2⟩:=hrel
  by_cases hlt:k<l.length
  ·obtain⟨x,hx⟩:∃x,l[k]?=some x:=⟨l[k],by rw[List.getElem?_eq_getElem hlt]⟩
   have hat:=Lib.hid (qaL l k x hx m')
   by_cases hm:(m':Int)<=5000
   ·obtain⟨b,o,rfl,hcell⟩:=hl.out k x hx
    have hsz:=hf2.out x (List.mem_of_getElem? hx)
    obtain⟨q,hq⟩:∃q:Nat,q=x.size/8:=⟨_,rfl⟩
    have hqb:q<=17592186044416:=by omega
    have hq1:((x.size:Int))/8=q:=by omega
    have hq2:IntKind.i64.wrap ((x.size:Int).tdiv 8)=q:=by rw[Int.tdiv_eq_ediv_of_nonneg (by omega),hq1];exact IntWalk.i64_in _ (by omega)
    have hq3:IntKind.i64.wrap ((m':Int)+q)=(m':Int)+q:=IntWalk.i64_in _ (by omega)
    have hm3:Hid (z=longFrom (l.drop (k+1)) (m'+q)):=Lib.hid (by rw[hm1.out,hat.out,if_neg (by omega),hq])
    replace hq1:=Lib.hid hq1
    replace hq:=Lib.hid hq
    replace hx:=Lib.hid hx
    clear hm1 hat
    go_wp2_with fail
    go_round
    case rel=>
     have hq1:=hq1.out
     exact⟨k+1,m'+q,by omega,by go_num,by go_num,hm3,by omega⟩
    case measure=>simp[intOf];omega
   ·have hz2:Hid (z=m'):=Lib.hid (by rw[hm1.out,hat.out,if_pos (by omega)])
    replace hx:=Lib.hid hx
    clear hm1 hat
    go_wp2_with fail
    go_ret
    exact⟨qp (by rw[hz2.out]),rfl⟩
  ·have hz2:Hid (z=m'):=Lib.hid (by rw[hm1.out,List.drop_eq_nil_of_le (by omega)];rfl)
   clear hm1
   go_wp2_with fail
   go_ret
   exact⟨qp (by rw[hz2.out]),rfl⟩
open Go.ChangeShapes Go.WideShapes Go.RowKit
theorem qgv{α:Type}{Q:Nat->α->Prop}(n:Nat)(h:∀k,k<n->∃x,Q k x):∃l:List α,l.length=n/\∀k x,l[k]?=some x->Q k x:=by
 refine⟨List.ofFn fun i:Fin n=>Classical.choose (h i.1 i.2),by simp,fun k x hk=>?_⟩
 obtain⟨hlt,rfl⟩:=List.getElem?_eq_some_iff.1 hk
 rw[List.getElem_ofFn]
 exact Classical.choose_spec (h k (by simpa using hlt))
section
variable {H:Type} {enc:TypeId×Value->H} {P:Program} {w:World} {base:Nat} {sp:Nat->Bool} {held:Bool}
def QP(P:Program)(t:TypeId)(d:DataW H):Prop:=∀m,m∈d.weights P t->m<=140737488355328
theorem yZ{e:TypeId} : ∀ {l:List (DataW H)} {k:Nat} {d:DataW H},l[k]?=some d->∀m,m∈d.weights P e->m∈DataW.weightsAll P e l
 |x::r,0,d,hk,m,hm=>by
  simp only[List.getElem?_cons_zero,Option.some.injEq] at hk
  subst hk
  simp only[DataW.weightsAll,List.mem_append];exact .inl hm
 |x::r,k+1,d,hk,m,hm=>by
  simp only[List.getElem?_cons_succ] at hk
  simp only[DataW.weightsAll,List.mem_append];exact .inr (yZ hk m hm)
 | [],_,_,hk,_,_=>by simp at hk
theorem jS{t e:TypeId}{fuel:Nat}{cs:List Value}{x:DataW H×List MemPlace}(hsp:∀b,sp b=true)(ht:P.underlying t=some (.slice e))(hpos:0<P.cellsOf e)
 (h:DataW.trod enc P w base sp held fuel t cs=some x) :
 ∃ (a:Option Addr) (len cap n:Nat),fuel=n+1/\cs = [.slice a len cap]/\len<=cap/\((len=0/\cap=0)∨∃b o,a=some ⟨b,o,none⟩)/\(0<len->∃m,m∈x.1.weights P t/\len*P.bytesOf e<=m) /\
  ∀k,k<len->∃b o c y,a=some ⟨b,o,none⟩/\b<w.heap.size/\c.length=P.cellsOf e/\(∀j,j<P.cellsOf e->w.cell? ⟨b,o+k*P.cellsOf e+j,none⟩=c[j]?) /\
   DataW.trod enc P w base sp held n e c=some y/\∀m,m∈y.1.weights P e->m∈x.1.weights P t:=by
 rcases DataW.trod_slice ht h with⟨rfl,rfl⟩|⟨a,len,cap,elems,rest,n,hf,rfl,rfl,hb,hl,hm,hlen,hel,hs,_⟩
 ·cases fuel with
  | zero=>simp[DataW.trod] at h
  | succ n=>exact⟨none,0,0,n,rfl,rfl,Nat.le_refl _,.inl ⟨rfl,rfl⟩,fun h=>absurd h (Nat.lt_irrefl _),fun k hk=>absurd hk (Nat.not_lt_zero _)⟩
 ·obtain⟨hrl,hr⟩:=hs (hsp _)
  have cellOf:∀ (k:Nat) (c:List Value),w.cells? base (a.add (k*P.cellsOf e)) (P.cellsOf e)=some c->∃v,w.cell? ((a.add (k*P.cellsOf e)).add 0)=some v:=fun k c hc=>by
   obtain⟨_,hcl,hcc⟩:=World.cells?_some hc
   have:=hcc 0 hpos
   rw[List.getElem?_eq_getElem (by omega)] at this
   exact⟨_,this⟩
  have hW:DataW.weights P t (.slice (elems.map (·.1)) (rest.map (·.1)))=((elems.map (·.1)).length+(rest.map (·.1)).length)*P.bytesOf e::(DataW.weightsAll P e (elems.map (·.1))++DataW.weightsAll P e (rest.map (·.1))):=by
   simp only[DataW.weights,ht]
  have hspot:0<cap->a.spot=none:=fun hc=>by
   by_cases h0:0<len
   ·have h1:=hel 0 h0
    obtain⟨y,hy⟩:∃y,elems[0]?=some y:=⟨elems[0]'(by omega),List.getElem?_eq_getElem _⟩
    rw[hy,Option.bind_eq_some_iff] at h1
    obtain⟨c,hc1,_⟩:=h1
    obtain⟨v,hv⟩:=cellOf 0 c hc1
    simpa[Addr.add] using World.cell?_spot hv
   ·have hlen0:len=0:=by omega
    have h1:=hr 0 (by omega)
    obtain⟨y,hy⟩:∃y,rest[0]?=some y:=⟨rest[0]'(by omega),List.getElem?_eq_getElem _⟩
    rw[hy,Option.bind_eq_some_iff] at h1
    obtain⟨c,hc1,_⟩:=h1
    obtain⟨v,hv⟩:=cellOf (len+0) c hc1
    rw[hlen0] at hv
    simpa[Addr.add] using World.cell?_spot hv
  obtain⟨b,o,spot⟩:=a
  refine⟨some ⟨b,o,spot⟩,len,cap,n,hf,rfl,hl,?_,fun h0=>⟨_,by rw[hW];exact List.mem_cons_self,Nat.mul_le_mul_right _ (by simp;omega)⟩,fun k hk=>?_⟩
  ·by_cases hc:0<cap
   ·obtain rfl:spot=none:=hspot hc
    exact .inr ⟨b,o,rfl⟩
   ·exact .inl ⟨by omega,by omega⟩
  ·obtain rfl:spot=none:=hspot (by omega)
   have h1:=hel k hk
   obtain⟨y,hy⟩:∃y,elems[k]?=some y:=⟨elems[k]'(by omega),List.getElem?_eq_getElem _⟩
   rw[hy,Option.bind_eq_some_iff] at h1
   obtain⟨c,hc1,hy1⟩:=h1
   have hblk:=World.cells?_block hc1 hpos
   obtain⟨_,hcl,hcc⟩:=World.cells?_some hc1
   rw[add_plain] at hblk hcc
   refine⟨b,o,c,y,rfl,hblk,hcl,fun j hj=>?_,hy1,fun m hm=>?_⟩
   ·have:=hcc j hj
    rwa [add_plain] at this
   ·rw[hW]
    exact List.mem_cons_of_mem _ (List.mem_append_left _ (yZ (k:=k) (by rw[List.getElem?_map,hy];rfl) m hm))
theorem zZ{t:TypeId}{fs:Array Field}{fuel:Nat}{cs:List Value}{x:DataW H×List MemPlace}(ht:P.underlying t=some (.struct fs))(h:DataW.trod enc P w base sp held fuel t cs=some x) :
 ∃n,fuel=n+1/\cs.length=P.cellsOf t/\∀ (i:Nat) (u:TypeId) (o:Nat),(fs[i]?).map (fun f=>(f.type,f.offset))=some (u,o)->∃y,DataW.trod enc P w base sp held n u ((cs.drop o).take (P.cellsOf u))=some y/\∀m,m∈y.1.weights P u->m∈x.1.weights P t:=by
 obtain⟨xs,n,hf,rfl,hl,hlen,hall⟩:=DataW.trod_struct ht h
 refine⟨n,hf,hl,fun i u o hfu=>?_⟩
 obtain⟨f,hfi,hfe⟩:=Option.map_eq_some_iff.1 hfu
 obtain⟨rfl,rfl⟩:=Prod.mk.inj hfe
 have hi:=(Array.getElem?_eq_some_iff.1 hfi).1
 obtain⟨y,hy⟩:∃y,xs[i]?=some y:=⟨xs[i]'(by omega),List.getElem?_eq_getElem _⟩
 refine⟨y,(hall i f hfi).trans hy,fun m hm=>?_⟩
 have hW:DataW.weights P t (.agg (xs.map (·.1)))=DataW.weightsEach P (fs.toList.map (·.type)) (xs.map (·.1)):=by simp only[DataW.weights,ht]
 rw[hW]
 exact DataW.weights_mem_each (j:=i) (t:=f.type) (d:=y.1) (by rw[List.getElem?_map];simp[hfi]) (by rw[List.getElem?_map,hy];rfl) m hm
theorem zT{t:TypeId}{fuel:Nat}{cs:List Value}{x:DataW H×List MemPlace}(ht:P.underlying t=some .string)(h:DataW.trod enc P w base sp held fuel t cs=some x)(hf:QP P t x.1) :
 ∃s:ByteArray,cs = [.string s]/\s.size<=140737488355328:=by
 obtain⟨s,rfl,rfl,_⟩:=DataW.trod_string ht h
 refine⟨s,rfl,?_⟩
 have:=hf s.data.toList.length (by simp[DataW.weights])
 simpa using this
theorem zi{c:List Value}{i:Nat}{v:Value}(h:(c.drop i).take 1 = [v]):c[i]?=some v:=by
 have h1:((c.drop i).take 1)[0]?=some v:=by rw[h];rfl
 rw[List.getElem?_take_of_lt (by decide),List.getElem?_drop] at h1
 exact h1
end
theorem zy:Tryz.prog.cellsOf 9=1:=by kernel_rfl
theorem Qa:Tryz.prog.cellsOf 3=1:=by kernel_rfl
theorem yz:Tryz.prog.cellsOf 25=1:=by kernel_rfl
theorem yA:Tryz.prog.cellsOf 51=2:=by kernel_rfl
theorem JJ:Tryz.prog.cellsOf 52=1:=by kernel_rfl
theorem Jb:Tryz.prog.cellsOf 54=6:=by kernel_rfl
theorem qaM:Tryz.prog.cellsOf 24=1:=by kernel_rfl
theorem QG:Tryz.prog.cellsOf 44=2:=by kernel_rfl
theorem Xq:Tryz.prog.cellsOf 23=1:=by kernel_rfl
theorem Xa:Tryz.prog.cellsOf 68=4:=by kernel_rfl
theorem Zo:Tryz.prog.cellsOf 22=1:=by kernel_rfl
theorem YR:Tryz.prog.cellsOf 27=8:=by kernel_rfl
theorem qaN:Tryz.prog.bytesOf 9=16:=by kernel_rfl
theorem YS:Tryz.prog.bytesOf 51=32:=by kernel_rfl
theorem qci:Tryz.prog.bytesOf 54=104:=by kernel_rfl
theorem JK:Tryz.prog.bytesOf 44=40:=by kernel_rfl
theorem qaO:Tryz.prog.bytesOf 68=56:=by kernel_rfl
def Fit47O(l:List OperD):Prop:=l.length<=140737488355328/\∀x,x∈l->x.cls.size<=140737488355328/\x.fix.size<=140737488355328
def qfm(l:List ClassD):Prop:=l.length<=140737488355328/\∀x,x∈l->x.name.size<=140737488355328/\Fit47 x.regs
def qfn(l:List OpD):Prop:=l.length<=140737488355328/\∀x,x∈l->x.name.size<=140737488355328/\x.d.cls.size<=140737488355328/\x.d.fix.size<=140737488355328/\Fit47O x.uses/\Fit47 x.clob
section
variable {H:Type} {enc:TypeId×Value->H} {w:World} {base:Nat} {sp:Nat->Bool} {held:Bool}
theorem jA{fuel:Nat}{cs:List Value}{x:DataW H×List MemPlace}(hsp:∀b,sp b=true)(h:DataW.trod enc Tryz.prog w base sp held fuel 25 cs=some x)(hf:QP Tryz.prog 25 x.1) :
 ∃ (s:SlV) (l:List ByteArray),cs = [.slice s.a s.n s.c]/\StrsAt w s l/\Fit47 l:=by
 obtain⟨a,len,cap,n,_,rfl,hl,_,hw,hall⟩:=jS hsp Tryz.underlying25 (by rw[zy];decide) h
 rw[zy] at hall
 obtain⟨l,hln,hp⟩:=qgv (Q:=fun k (s:ByteArray)=>∃b o,a=some ⟨b,o,none⟩/\w.cell? ⟨b,o+k,none⟩=some (.string s)/\s.size<=140737488355328) len (fun k hk=>by
  obtain⟨b,o,c,y,ha,_,hcl,hc,hy,hm⟩:=hall k hk
  obtain⟨s,rfl,hs⟩:=zT Tryz.underlying9 hy (fun m h=>hf m (hm m h))
  exact⟨s,b,o,ha,by have:=hc 0 (by decide);simpa using this,hs⟩)
 refine⟨⟨a,len,cap⟩,l,rfl,⟨hln.symm,hl,fun j y hj=>?_⟩,?_,fun y hy=>?_⟩
 ·obtain⟨b,o,h1,h2,_⟩:=hp j y hj
  exact⟨b,o,h1,h2⟩
 ·rw[hln]
  by_cases h0:0<len
  ·obtain⟨m,h1,h2⟩:=hw h0
   rw[qaN] at h2
   have:=hf m h1
   omega
  ·omega
 ·obtain⟨j,hj⟩:=List.getElem?_of_mem hy
  exact(hp j y hj).choose_spec.choose_spec.2.2
theorem YT{fuel:Nat}{cs:List Value}{x:DataW H×List MemPlace}(hsp:∀b,sp b=true)(h:DataW.trod enc Tryz.prog w base sp held fuel 52 cs=some x)(hf:QP Tryz.prog 52 x.1) :
 ∃ (s:SlV) (l:List OperD),cs = [.slice s.a s.n s.c]/\qW w s l/\Fit47O l:=by
 obtain⟨a,len,cap,n,_,rfl,hl,_,hw,hall⟩:=jS hsp Tryz.underlying52 (by rw[yA];decide) h
 rw[yA] at hall
 obtain⟨l,hln,hp⟩:=qgv (Q:=fun k (s:OperD)=>∃b o,a=some ⟨b,o,none⟩/\(w.cell? ⟨b,o+k*2,none⟩=some (.string s.cls)/\w.cell? ⟨b,o+k*2+1,none⟩=some (.string s.fix))/\s.cls.size<=140737488355328/\s.fix.size<=140737488355328) len (fun k hk=>by
  obtain⟨b,o,c,y,ha,_,hcl,hc,hy,hm⟩:=hall k hk
  obtain⟨n',_,_,hfl⟩:=zZ Tryz.underlying51 hy
  obtain⟨y0,h0,m0⟩:=hfl 0 9 0 rfl
  obtain⟨y1,h1,m1⟩:=hfl 1 9 1 rfl
  rw[zy] at h0 h1
  obtain⟨s0,e0,z0⟩:=zT Tryz.underlying9 h0 (fun m h=>hf m (hm m (m0 m h)))
  obtain⟨s1,e1,z1⟩:=zT Tryz.underlying9 h1 (fun m h=>hf m (hm m (m1 m h)))
  exact⟨⟨s0,s1⟩,b,o,ha,⟨(hc 0 (by decide)).trans (zi e0),(hc 1 (by decide)).trans (zi e1)⟩,z0,z1⟩)
 refine⟨⟨a,len,cap⟩,l,rfl,⟨hln.symm,hl,fun j y hj=>?_⟩,?_,fun y hy=>?_⟩
 ·obtain⟨b,o,h1,h2,_⟩:=hp j y hj
  exact⟨b,o,h1,h2.1,h2.2⟩
 ·rw[hln]
  by_cases h0:0<len
  ·obtain⟨m,h1,h2⟩:=hw h0
   rw[YS] at h2
   have:=hf m h1
   omega
  ·omega
 ·obtain⟨j,hj⟩:=List.getElem?_of_mem hy
  exact(hp j y hj).choose_spec.choose_spec.2.2
theorem Jc{fuel:Nat}{cs:List Value}{x:DataW H×List MemPlace}(hsp:∀b,sp b=true)(h:DataW.trod enc Tryz.prog w base sp held fuel 23 cs=some x)(hf:QP Tryz.prog 23 x.1) :
 ∃ (s:SlV) (l:List ClassD),cs = [.slice s.a s.n s.c]/\ClassesAt w s l/\qfm l:=by
 obtain⟨a,len,cap,n,_,rfl,hl,_,hw,hall⟩:=jS hsp Tryz.underlying23 (by rw[QG];decide) h
 rw[QG] at hall
 obtain⟨l,hln,hp⟩:=qgv (Q:=fun k (s:ClassD)=>∃b o,a=some ⟨b,o,none⟩/\(∃r:SlV,w.cell? ⟨b,o+k*2,none⟩=some (.string s.name)/\w.cell? ⟨b,o+k*2+1,none⟩=some (.slice r.a r.n r.c)/\StrsAt w r s.regs)/\s.name.size<=140737488355328/\Fit47 s.regs) len (fun k hk=>by
  obtain⟨b,o,c,y,ha,_,hcl,hc,hy,hm⟩:=hall k hk
  obtain⟨n',_,_,hfl⟩:=zZ Tryz.underlying44 hy
  obtain⟨y0,h0,m0⟩:=hfl 0 9 0 rfl
  obtain⟨y1,h1,m1⟩:=hfl 1 25 1 rfl
  rw[zy] at h0
  rw[yz] at h1
  obtain⟨s0,e0,z0⟩:=zT Tryz.underlying9 h0 (fun m h=>hf m (hm m (m0 m h)))
  obtain⟨s1,l1,e1,a1,z1⟩:=jA hsp h1 (fun m h=>hf m (hm m (m1 m h)))
  exact⟨⟨s0,l1⟩,b,o,ha,⟨s1,(hc 0 (by decide)).trans (zi e0),(hc 1 (by decide)).trans (zi e1),a1⟩,z0,z1⟩)
 refine⟨⟨a,len,cap⟩,l,rfl,⟨hln.symm,hl,fun j y hj=>?_⟩,?_,fun y hy=>?_⟩
 ·obtain⟨b,o,h1,h2,_⟩:=hp j y hj
  exact⟨b,o,h1,h2⟩
 ·rw[hln]
  by_cases h0:0<len
  ·obtain⟨m,h1,h2⟩:=hw h0
   rw[JK] at h2
   have:=hf m h1
   omega
  ·omega
 ·obtain⟨j,hj⟩:=List.getElem?_of_mem hy
  exact(hp j y hj).choose_spec.choose_spec.2.2
theorem qcj{fuel:Nat}{cs:List Value}{x:DataW H×List MemPlace}(hsp:∀b,sp b=true)(h:DataW.trod enc Tryz.prog w base sp held fuel 24 cs=some x)(hf:QP Tryz.prog 24 x.1) :
 ∃ (s:SlV) (l:List OpD),cs = [.slice s.a s.n s.c]/\OpsAt w s l/\qfn l:=by
 obtain⟨a,len,cap,n,_,rfl,hl,_,hw,hall⟩:=jS hsp Tryz.underlying24 (by rw[Jb];decide) h
 rw[Jb] at hall
 obtain⟨l,hln,hp⟩:=qgv (Q:=fun k (x:OpD)=>∃b o,a=some ⟨b,o,none⟩/\(∃u k':SlV,w.cell? ⟨b,o+k*6,none⟩=some (.string x.name)/\w.cell? ⟨b,o+k*6+1,none⟩=some (.string x.d.cls)/\w.cell? ⟨b,o+k*6+2,none⟩=some (.string x.d.fix) /\
  w.cell? ⟨b,o+k*6+3,none⟩=some (.slice u.a u.n u.c)/\w.cell? ⟨b,o+k*6+4,none⟩=some (.int .i64 x.tie)/\w.cell? ⟨b,o+k*6+5,none⟩=some (.slice k'.a k'.n k'.c)/\qW w u x.uses/\StrsAt w k' x.clob) /\
   x.name.size<=140737488355328/\x.d.cls.size<=140737488355328/\x.d.fix.size<=140737488355328/\Fit47O x.uses/\Fit47 x.clob) len (fun k hk=>by
  obtain⟨b,o,c,y,ha,_,hcl,hc,hy,hm⟩:=hall k hk
  obtain⟨n',_,_,hfl⟩:=zZ Tryz.underlying54 hy
  obtain⟨y0,h0,m0⟩:=hfl 0 9 0 rfl
  obtain⟨y1,h1,m1⟩:=hfl 1 51 1 rfl
  obtain⟨y2,h2,m2⟩:=hfl 2 52 3 rfl
  obtain⟨y3,h3,m3⟩:=hfl 3 3 4 rfl
  obtain⟨y4,h4,m4⟩:=hfl 4 25 5 rfl
  rw[zy] at h0
  rw[yA] at h1
  rw[JJ] at h2
  rw[Qa] at h3
  rw[yz] at h4
  obtain⟨s0,e0,z0⟩:=zT Tryz.underlying9 h0 (fun m h=>hf m (hm m (m0 m h)))
  obtain⟨n2,_,_,hfl2⟩:=zZ Tryz.underlying51 h1
  obtain⟨x0,g0,p0⟩:=hfl2 0 9 0 rfl
  obtain⟨x1,g1,p1⟩:=hfl2 1 9 1 rfl
  rw[zy] at g0 g1
  obtain⟨d0,f0,w0⟩:=zT Tryz.underlying9 g0 (fun m h=>hf m (hm m (m1 m (p0 m h))))
  obtain⟨d1,f1,w1⟩:=zT Tryz.underlying9 g1 (fun m h=>hf m (hm m (m1 m (p1 m h))))
  obtain⟨s2,l2,e2,a2,z2⟩:=YT hsp h2 (fun m h=>hf m (hm m (m2 m h)))
  obtain⟨i3,e3,_,_⟩:=DataW.trod_int Tryz.underlying3 h3
  obtain⟨s4,l4,e4,a4,z4⟩:=jA hsp h4 (fun m h=>hf m (hm m (m4 m h)))
  have k0:=zi f0
  have k1:=zi f1
  rw[List.getElem?_take_of_lt (by decide),List.getElem?_drop] at k0 k1
  exact⟨⟨s0,⟨d0,d1⟩,l2,i3,l4⟩,b,o,ha,⟨s2,s4,(hc 0 (by decide)).trans (zi e0),(hc 1 (by decide)).trans k0,(hc 2 (by decide)).trans k1,(hc 3 (by decide)).trans (zi e2),(hc 4 (by decide)).trans (zi e3),(hc 5 (by decide)).trans (zi e4),a2,a4⟩,z0,w0,w1,z2,z4⟩)
 refine⟨⟨a,len,cap⟩,l,rfl,⟨hln.symm,hl,fun j y hj=>?_⟩,?_,fun y hy=>?_⟩
 ·obtain⟨b,o,h1,h2,_⟩:=hp j y hj
  exact⟨b,o,h1,h2⟩
 ·rw[hln]
  by_cases h0:0<len
  ·obtain⟨m,h1,h2⟩:=hw h0
   rw[qci] at h2
   have:=hf m h1
   omega
  ·omega
 ·obtain⟨j,hj⟩:=List.getElem?_of_mem hy
  exact(hp j y hj).choose_spec.choose_spec.2.2
def qZ(n₀:Nat)(W:World)(b:Nat):Nat->RegL->Prop
 | _,.nil=>True
 | o,.cons nm wd at_ sv subs rest=>b<n₀/\RegAt W b o ⟨nm,wd,at_,sv⟩/\nm.size<=140737488355328/\qZ n₀ W b (o+4) rest /\
    (((∃a,sv = .slice a 0 0)/\subs = .nil)∨∃b' o' c',sv = .slice (some ⟨b',o',none⟩) subs.length c'/\subs.length<=c'/\subs.length<=140737488355328/\qZ n₀ W b' o' subs)
def qgV(w:World)(a:Option Addr)(n c:Nat)(L:RegL):Prop:=
 L.length=n/\n<=c/\n<=140737488355328/\((n=0/\c=0)∨∃b o,a=some ⟨b,o,none⟩)/\∀b o,a=some ⟨b,o,none⟩->qZ w.heap.size w b o L
theorem qaP(hsp:∀b,sp b=true):∀ (fuel:Nat) (cs:List Value) (x:DataW H×List MemPlace),DataW.trod enc Tryz.prog w base sp held fuel 22 cs=some x->QP Tryz.prog 22 x.1 ->
 ∃ (a:Option Addr) (n c:Nat) (L:RegL),cs = [.slice a n c]/\qgV w a n c L:=by
 intro fuel
 induction fuel using Nat.strongRecOn with
 |ind fuel ih=>
  intro cs x h hf
  obtain⟨a,len,cap,n,hfu,rfl,hl,hsh,hw,hall⟩:=jS hsp Tryz.underlying22 (by rw[Xa];decide) h
  rw[Xa] at hall
  have each:∀k,k<len->∃b o,a=some ⟨b,o,none⟩/\b<w.heap.size/\∃nm wd at_ sv subs,RegAt w b (o+k*4) ⟨nm,wd,at_,sv⟩/\nm.size<=140737488355328 /\
   (((∃a,sv = .slice a 0 0)/\subs = .nil)∨∃b' o' c',sv = .slice (some ⟨b',o',none⟩) subs.length c'/\subs.length<=c'/\subs.length<=140737488355328/\qZ w.heap.size w b' o' subs):=fun k hk=>by
   obtain⟨b,o,c,y,ha,hb,hcl,hc,hy,hm⟩:=hall k hk
   obtain⟨n',hn',_,hfl⟩:=zZ Tryz.underlying68 hy
   obtain⟨y0,h0,m0⟩:=hfl 0 9 0 rfl
   obtain⟨y1,h1,m1⟩:=hfl 1 3 1 rfl
   obtain⟨y2,h2,m2⟩:=hfl 2 3 2 rfl
   obtain⟨y3,h3,m3⟩:=hfl 3 22 3 rfl
   rw[zy] at h0
   rw[Qa] at h1 h2
   rw[Zo] at h3
   obtain⟨s0,e0,z0⟩:=zT Tryz.underlying9 h0 (fun m h=>hf m (hm m (m0 m h)))
   obtain⟨i1,e1,_,_⟩:=DataW.trod_int Tryz.underlying3 h1
   obtain⟨i2,e2,_,_⟩:=DataW.trod_int Tryz.underlying3 h2
   obtain⟨a3,n3,c3,L3,e3,hL3,hc3,hn3,hs3,hh3⟩:=ih n' (by omega) _ y3 h3 (fun m h=>hf m (hm m (m3 m h)))
   refine⟨b,o,ha,hb,s0,i1,i2,.slice a3 n3 c3,L3,⟨(hc 0 (by decide)).trans (zi e0),(hc 1 (by decide)).trans (zi e1),(hc 2 (by decide)).trans (zi e2),(hc 3 (by decide)).trans (zi e3)⟩,z0,?_⟩
   rcases hs3 with⟨rfl,rfl⟩|⟨b3,o3,rfl⟩
   ·cases L3 with
    | nil=>exact .inl ⟨⟨a3,rfl⟩,rfl⟩
    | cons=>simp[RegL.length] at hL3
   ·exact .inr ⟨b3,o3,c3,by rw[hL3],by rw[hL3];exact hc3,by rw[hL3];exact hn3,hh3 b3 o3 rfl⟩
  have down:∀m,m<=len->∃L:RegL,L.length=m/\∀b o,a=some ⟨b,o,none⟩->qZ w.heap.size w b (o+(len-m)*4) L:=fun m=>by
   induction m with
   | zero=>exact fun _=>⟨.nil,rfl,fun _ _ _=>trivial⟩
   |succ m ihm=>
    intro hm
    obtain⟨L,hL,hh⟩:=ihm (by omega)
    obtain⟨b,o,ha,hb,nm,wd,at_,sv,subs,hr,hz,hs⟩:=each (len-(m+1)) (by omega)
    refine⟨.cons nm wd at_ sv subs L,by simp[RegL.length,hL],fun b2 o2 ha2=>?_⟩
    rw[ha] at ha2
    cases ha2
    refine⟨hb,hr,hz,?_,hs⟩
    have:=hh b o ha
    rwa [show o+(len-m)*4=o+(len-(m+1))*4+4 by omega] at this
  obtain⟨L,hL,hh⟩:=down len (Nat.le_refl _)
  refine⟨a,len,cap,L,rfl,hL,hl,?_,hsh,fun b o ha=>by have:=hh b o ha;simpa using this⟩
  by_cases h0:0<len
  ·obtain⟨m,h1,h2⟩:=hw h0
   rw[qaO] at h2
   have:=hf m h1
   omega
  ·omega
structure Xb(w:World)(m:MV)(d:MachD)(L:RegL):Prop where
 same:m.name=d.name
 result:m.result=d.result
 slots:m.slots=d.slots
 nz:d.name.size<=140737488355328
 rz:d.result.size<=140737488355328
 regs:qgV w m.regs.a m.regs.n m.regs.c L
 spot:m.regs.a=none∨∃b o,m.regs.a=some ⟨b,o,none⟩
 classes:ClassesAt w m.classes d.classes
 ops:OpsAt w m.ops d.ops
 args:StrsAt w m.args d.args
 saved:StrsAt w m.saved d.saved
 fk:qfm d.classes
 fp:qfn d.ops
 fa:Fit47 d.args
 fs:Fit47 d.saved
theorem qhC{r:Reach}{b0:Nat}{v:Value}{dt:DataW H}{ps:List MemPlace}(hsp:∀b,sp b=true)(hval:Value.okWide Tryz.prog w r b0 27 v)(h:DataW.Trod enc Tryz.prog w base sp held 27 v dt ps)(hf:QP Tryz.prog 27 dt) :
 ∃ (m:MV) (d:MachD) (L:RegL),v=m.val/\Xb w m d L:=by
 unfold Value.okWide at hval
 rw[Tryz.underlying27] at hval
 obtain⟨cv,rfl,hcs,ts,hts,_,hrow⟩:=hval
 obtain rfl:=Option.some.inj ((show Tryz.prog.cellTypes Tryz.prog.depth 27=some [9,22,23,24,25,9,25,3] by kernel_rfl).symm.trans hts)
 obtain⟨fuel,h⟩:=h
 obtain⟨n',_,hcl,hfl⟩:=zZ Tryz.underlying27 h
 rw[YR] at hcl hcs
 obtain⟨y0,h0,m0⟩:=hfl 0 9 0 rfl
 obtain⟨y1,h1,m1⟩:=hfl 1 22 1 rfl
 obtain⟨y2,h2,m2⟩:=hfl 2 23 2 rfl
 obtain⟨y3,h3,m3⟩:=hfl 3 24 3 rfl
 obtain⟨y4,h4,m4⟩:=hfl 4 25 4 rfl
 obtain⟨y5,h5,m5⟩:=hfl 5 9 5 rfl
 obtain⟨y6,h6,m6⟩:=hfl 6 25 6 rfl
 obtain⟨y7,h7,m7⟩:=hfl 7 3 7 rfl
 rw[zy] at h0 h5
 rw[Zo] at h1
 rw[Xq] at h2
 rw[qaM] at h3
 rw[yz] at h4 h6
 rw[Qa] at h7
 obtain⟨s0,e0,z0⟩:=zT Tryz.underlying9 h0 (fun m h=>hf m (m0 m h))
 obtain⟨ra,rn,rc,L,e1,hL⟩:=qaP hsp _ _ y1 h1 (fun m h=>hf m (m1 m h))
 obtain⟨s2,l2,e2,a2,z2⟩:=Jc hsp h2 (fun m h=>hf m (m2 m h))
 obtain⟨s3,l3,e3,a3,z3⟩:=qcj hsp h3 (fun m h=>hf m (m3 m h))
 obtain⟨s4,l4,e4,a4,z4⟩:=jA hsp h4 (fun m h=>hf m (m4 m h))
 obtain⟨s5,e5,z5⟩:=zT Tryz.underlying9 h5 (fun m h=>hf m (m5 m h))
 obtain⟨s6,l6,e6,a6,z6⟩:=jA hsp h6 (fun m h=>hf m (m6 m h))
 obtain⟨i7,e7,_,_⟩:=DataW.trod_int Tryz.underlying3 h7
 have g0:=zi e0
 have g1:=zi e1
 have g2:=zi e2
 have g3:=zi e3
 have g4:=zi e4
 have g5:=zi e5
 have g6:=zi e6
 have g7:=zi e7
 have hcv:cv=#[.string s0,.slice ra rn rc,.slice s2.a s2.n s2.c,.slice s3.a s3.n s3.c,.slice s4.a s4.n s4.c,.string s5,.slice s6.a s6.n s6.c,.int .i64 i7]:=by
  change cv.toList[_]?=_ at g0 g1 g2 g3 g4 g5 g6 g7
  apply Array.ext'
  have hlen:cv.toList.length=8:=by simpa using hcs
  refine List.ext_getElem? fun i=>?_
  match i with
  | 0=>exact g0
  | 1=>exact g1
  | 2=>exact g2
  | 3=>exact g3
  | 4=>exact g4
  | 5=>exact g5
  | 6=>exact g6
  | 7=>exact g7
  | i+8=>rw[List.getElem?_eq_none (by omega),List.getElem?_eq_none (by simp)]
 have hspot:ra=none∨∃b o,ra=some ⟨b,o,none⟩:=by
  cases ra with
  | none=>exact .inl rfl
  |some ad=>
   obtain⟨u,hu,hc⟩:=hrow 1 (.slice (some ad) rn rc) (by rw[hcv];rfl)
   obtain rfl:u=22:=(Option.some.inj hu).symm
   unfold Cell.okWide at hc
   rw[Tryz.underlying22] at hc
   have hc2:Cell.ok Tryz.prog w r b0 22 (.slice (some ad) rn rc):=hc
   unfold Cell.ok at hc2
   rw[Tryz.underlying22] at hc2
   obtain⟨_,_,_,hs,_⟩:=hc2
   obtain⟨b,o,sp⟩:=ad
   obtain rfl:sp=none:=hs
   exact .inr ⟨b,o,rfl⟩
 exact⟨⟨s0,⟨ra,rn,rc⟩,s2,s3,s4,s5,s6,i7⟩,⟨s0,l2,l3,l4,s5,l6,i7⟩,L,by rw[hcv];rfl,⟨rfl,rfl,rfl,z0,z5,hL,hspot,a2,a3,a4,a6,z2,z3,z4,z6⟩⟩
end
end Go.Proofs.YtkoloennfejaaaaGreatDoor
namespace Go.Proofs.YtkoloennfejaaaaGreatDoor
open Go.RowKit
theorem qZ.of{n₀:Nat}{W W':World}(hc:∀b j v,b<n₀->W.cell? ⟨b,j,none⟩=some v->W'.cell? ⟨b,j,none⟩=some v):∀ {L:RegL} {b o:Nat},qZ n₀ W b o L->qZ n₀ W' b o L
 | .nil,_,_,_=>trivial
 | .cons _ _ _ _ _ _,b,_,⟨h1,h2,h3,h4,h5⟩=>⟨h1,yT h2 (fun j v hv=>hc b j v h1 hv),h3,qZ.of hc h4,
    h5.imp id fun⟨b',o',c',e1,e2,e3,e4⟩=>⟨b',o',c',e1,e2,e3,qZ.of hc e4⟩⟩
def sizeFrom:RegL->Nat->Nat->Nat
 | .nil,_,n=>n
 | .cons nm _ _ _ subs rest,dp,n=>if 5000<n then n else if dp=0 then 5001 else sizeFrom rest dp (n+nm.size/8+sizeFrom subs (dp-1) subs.length)
theorem JL(nm:ByteArray)(wd at_:Int)(sv:Value)(subs rest:RegL)(dp n:Nat):sizeFrom (.cons nm wd at_ sv subs rest) dp n=if 5000<n then n else if dp=0 then 5001 else sizeFrom rest dp (n+nm.size/8+sizeFrom subs (dp-1) subs.length):=rfl
theorem jB{n₀:Nat}{W:World} : ∀ {L:RegL} {b o dp n:Nat},qZ n₀ W b o L->n<=(dp+1)*281474976710656->sizeFrom L dp n<=(dp+1)*281474976710656
 | .nil,_,_,_,_,_,h=>h
 |.cons nm _ _ _ subs rest,b,o,dp,n,⟨_,_,h3,h4,h5⟩,h=>by
  unfold sizeFrom
  split
  ·exact h
  ·split
   ·omega
   ·rename_i h6 h7
    obtain⟨d,rfl⟩:∃d,dp=d+1:=⟨dp-1,by omega⟩
    have hs:sizeFrom subs d subs.length<=(d+1)*281474976710656:=by
     rcases h5 with⟨_,rfl⟩|⟨b',o',c',_,_,e3,e4⟩
     ·simp[sizeFrom,RegL.length]
     ·exact jB e4 (by omega)
    rw[show d+1-1=d from rfl]
    exact jB h4 (by omega)
theorem Qb:∀ (L:RegL) (dp n:Nat),sizeFrom L dp n<=5000->n<=sizeFrom L dp n
 | .nil,_,_,_=>Nat.le_refl _
 |.cons nm _ _ _ subs rest,dp,n,h=>by
  unfold sizeFrom at h ⊢
  split
  ·exact Nat.le_refl _
  ·rename_i h6
   rw[if_neg h6] at h
   split
   ·omega
   ·rename_i h7
    rw[if_neg h7] at h
    have:=Qb rest dp _ h
    omega
theorem jp{n₀:Nat}{W:World} : ∀ {L:RegL} {b o dp n:Nat},qZ n₀ W b o L->sizeFrom L dp n<=5000->ql n₀ W b o L
 | .nil,_,_,_,_,_,_=>trivial
 |.cons nm _ _ _ subs rest,b,o,dp,n,⟨h1,h2,h3,h4,h5⟩,h=>by
  unfold sizeFrom at h
  split at h
  ·omega
  ·split at h
   ·omega
   ·have hge:=Qb rest dp _ h
    refine⟨h1,h2,jp h4 h,?_⟩
    rcases h5 with⟨ha,hn⟩|⟨b',o',c',e1,e2,_,e4⟩
    ·exact .inl ⟨ha,hn⟩
    ·have hs:sizeFrom subs (dp-1) subs.length<=5000:=by omega
     have:=Qb subs (dp-1) _ hs
     exact .inr ⟨b',o',c',e1,e2,by omega,jp e4 hs⟩
theorem qgw(n₀:Nat):∀ (dp:Nat),dp<=30->∀ (a:Option Addr) (c:Nat) (L:RegL) (w:World),n₀<=w.heap.size->L.length<=c->L.length<=140737488355328->(L = .nil∨∃b o,a=some ⟨b,o,none⟩/\qZ n₀ w b o L) ->
 Calls Tryz.prog 43 #[.slice a L.length c,.int .i64 dp] w fun e w'=>e = .returned (.int .i64 (sizeFrom L dp L.length))/\∃m,w'=w.drewN m:=by
 intro dp
 induction dp with
 |zero=>
  intro _ a c L w hn₀ hc hbig hL
  cases L with
  |nil=>
   clear hL
   go_enter Tryz.func43,Tryz.ntmps43
   go_wp2_with fail
   refine wp_loop_rounds 1 ?_
   rw[rounds_succ]
   go_wp2_with fail
   go_ret
   exact⟨rfl,0,rfl⟩
  |cons nm wd at_ sv subs rest=>
   obtain⟨n,hn⟩:∃n,n=(RegL.cons nm wd at_ sv subs rest).length:=⟨_,rfl⟩
   have hn1:0<n:=by rw[hn];simp[RegL.length]
   have hn2:(0:Int)<n:=by omega
   rw[←hn] at hc hbig ⊢
   have hr:Hid (sizeFrom (RegL.cons nm wd at_ sv subs rest) 0 n=if 5000<n then n else 5001):=Lib.hid (by unfold sizeFrom;simp)
   generalize sizeFrom (RegL.cons nm wd at_ sv subs rest) 0 n=z at *
   clear hL hn
   by_cases h5:(5000:Int)<n
   ·have hz:Hid (z=n):=Lib.hid (by rw[hr.out,if_pos (by omega)])
    clear hr
    go_enter Tryz.func43,Tryz.ntmps43
    go_wp2_with fail
    refine wp_loop_rounds 1 ?_
    rw[rounds_succ]
    go_wp2_with fail
    go_ret
    exact⟨qp (by rw[hz.out]),0,rfl⟩
   ·have hz:Hid (z=5001):=Lib.hid (by rw[hr.out,if_neg (by omega)])
    clear hr
    go_enter Tryz.func43,Tryz.ntmps43
    go_wp2_with fail
    refine wp_loop_rounds 1 ?_
    rw[rounds_succ]
    go_wp2_with fail
    go_ret
    exact⟨qp (by rw[hz.out];rfl),0,rfl⟩
 |succ dp ih=>
  intro hdp a c L w hn₀ hc hbig hL
  obtain⟨z,hz⟩:∃z,z=sizeFrom L (dp+1) L.length:=⟨_,rfl⟩
  rw[←hz]
  obtain⟨n,hn⟩:∃n,n=L.length:=⟨_,rfl⟩
  rw[←hn] at hc hbig ⊢
  have hI:Hid (∃ (k:Nat) (rest:RegL),k=0/\rest.length+k=n/\(rest = .nil∨∃b o,a=some ⟨b,o,none⟩/\qZ n₀ w b (o+k*4) rest)/\z=sizeFrom rest (dp+1) n):=Lib.hid ⟨0,L,rfl,by omega,by simpa using hL,by rw[hz,hn]⟩
  replace ih:=Lib.hid (ih (by omega))
  have hdpi:(dp:Int)<=29:=by omega
  clear hL hz hn
  go_enter Tryz.func43,Tryz.ntmps43
  go_wp2_with fail
  go_loopw [5,6] (fun v i wr=>∃ (k m:Nat) (rest:RegL),k<=n/\i = .int .i64 k/\v = .int .i64 m/\Hid (rest.length+k=n)/\Hid (rest = .nil∨∃b o,a=some ⟨b,o,none⟩/\qZ n₀ w b (o+k*4) rest)/\Hid (z=sizeFrom rest (dp+1) m)/\m<=(dp+2)*281474976710656/\Hid (∃q,wr=w.drewN q)) (fun _ i _=>n-(intOf i).toNat)
  case atStart=>
   obtain⟨k,rest,rfl,h1,h2,h3⟩:=hI.out
   exact⟨0,n,rest,Nat.zero_le _,rfl,rfl,Lib.hid h1,Lib.hid h2,Lib.hid h3,by omega,Lib.hid ⟨0,rfl⟩⟩
  case round=>
   obtain⟨k,m,rest,hk,rfl,rfl,hlen,hold,hsz,hm,hq⟩:=hrel
   clear hI
   cases rest with
   |nil=>
    have hkn:¬ k<n:=by have:=hlen.out;simp only[RegL.length] at this;omega
    have hfin:Hid (∃q,wr=w.drewN q):=hq
    have hz2:Hid (z=m):=Lib.hid hsz.out
    clear hlen hold hsz hq
    go_wp2_with fail
    go_ret
    exact⟨qp (by rw[hz2.out]),hfin.out⟩
   |cons nm wd at_ sv subs rest=>
    have hkn:k<n:=by have:=hlen.out;simp only[RegL.length] at this;omega
    by_cases h5:(5000:Int)<m
    ·have hz2:Hid (z=m):=Lib.hid (by rw[hsz.out];unfold sizeFrom;rw[if_pos (by omega)])
     clear hlen hold hsz
     go_wp2_with fail
     go_ret
     exact⟨qp (by rw[hz2.out]),hq.out⟩
    ·rcases hold.out with h|⟨b,o,rfl,hh⟩
     ·cases h
     ·have hb:Below w.heap.size w wr:=by obtain⟨q,hq⟩:=hq.out;rw[hq];exact below_drewN (Below.refl _ _) q
      obtain⟨hb1,⟨e0,e1,e2,e3⟩,hnz,hrest,hsub⟩:=hh
      have e0:=cell_below hb e0
      have e3:=cell_below hb e3
      clear e1 e2
      obtain⟨sa,sc,hsv,hs1,hs2,hs3⟩:∃sa sc,sv = .slice sa subs.length sc/\subs.length<=sc/\subs.length<=140737488355328/\(subs = .nil∨∃b o,sa=some ⟨b,o,none⟩/\qZ n₀ w b o subs):=by
       rcases hsub with⟨⟨sa,rfl⟩,rfl⟩|⟨b',o',c',rfl,g1,g2,g3⟩
       ·exact⟨sa,0,rfl,Nat.le_refl _,Nat.zero_le _,.inl rfl⟩
       ·exact⟨_,c',rfl,g1,g2,.inr ⟨b',o',rfl,g3⟩⟩
      subst hsv
      obtain⟨y,hy⟩:∃y,y=sizeFrom subs dp subs.length:=⟨_,rfl⟩
      have hyb:y<=(dp+1)*281474976710656:=by
       rw[hy]
       rcases hs3 with rfl|⟨b',o',_,g3⟩
       ·simp[sizeFrom,RegL.length]
       ·exact jB g3 (by omega)
      have K:∀q',Calls Tryz.prog 43 #[.slice sa subs.length sc,.int .i64 dp] (wr.drewN q') fun e w'=>e = .returned (.int .i64 y)/\∃m,w'=(wr.drewN q').drewN m:=fun q'=>by
       rw[hy]
       have hb2:=below_drewN hb q'
       exact ih.out sa sc subs (wr.drewN q') (Nat.le_trans hn₀ hb2.size) hs1 hs2 (hs3.imp id fun⟨b',o',g1,g2⟩=>⟨b',o',g1,qZ.of (fun b j v hb hv=>cell_below hb2 hv) g2⟩)
      obtain⟨x,hx⟩:∃x:Nat,x=nm.size/8:=⟨_,rfl⟩
      have hxb:x<=17592186044416:=by omega
      have hx1:((nm.size:Int))/8=x:=by omega
      have hx2:IntKind.i64.wrap ((nm.size:Int).tdiv 8)=x:=by rw[Int.tdiv_eq_ediv_of_nonneg (by omega),hx1];exact IntWalk.i64_in _ (by omega)
      have hx3:IntKind.i64.wrap ((m:Int)+x)=(m:Int)+x:=IntWalk.i64_in _ (by omega)
      have hx4:IntKind.i64.wrap ((m:Int)+x+y)=(m:Int)+x+y:=IntWalk.i64_in _ (by omega)
      have hx5:IntKind.i64.wrap (((dp+1:Nat):Int)-1)=dp:=by rw[IntWalk.i64_in _ (by omega)];omega
      have hz2:Hid (z=sizeFrom rest (dp+1) (m+x+y)):=Lib.hid (by rw[hsz.out,JL,if_neg (show ¬ 5000<m by omega),if_neg (Nat.succ_ne_zero dp),hx,hy];rfl)
      have hrest2:Hid (rest = .nil∨∃b' o',some (⟨b,o,none⟩:Addr)=some ⟨b',o',none⟩/\qZ n₀ w b' (o'+(k+1)*4) rest):=Lib.hid (.inr ⟨b,o,rfl,by rwa [show o+(k+1)*4=o+k*4+4 by omega]⟩)
      have hlen2:Hid (rest.length+(k+1)=n):=Lib.hid (by have:=hlen.out;simp only[RegL.length] at this;omega)
      replace hx1:=Lib.hid hx1
      replace hx:=Lib.hid hx
      replace hy:=Lib.hid hy
      have hkn2:(k:Int)<n:=by omega
      generalize subs.length=sl at *
      clear hlen hold hsz hs1 hs2 hs3 hsub hrest
      go_upto_region 7 with fail
      go_quiet ((go_at_call 43;exact Calls.quiet_of (K _)))
      go_wp2_with fail
      go_round
      case rel=>
       have hx1:=hx1.out
       refine⟨k+1,m+x+y,rest,by omega,by go_num,by go_num,hlen2,hrest2,hz2,by omega,?_⟩
       obtain⟨q,hq⟩:=hq.out
       exact Lib.hid ⟨_,by rw[hq,World.drewN_drewN]⟩
      case measure=>simp[intOf];omega
def Nb0(w:World)(a:Option Addr)(d:MachD)(L:RegL):Prop:=(∀b o,a=some ⟨b,o,none⟩->ql w.heap.size w b o L)/\d.args.length<=5000/\d.saved.length<=5000
def Nb1(w:World)(a:Option Addr)(d:MachD)(L:RegL):Prop:=Nb0 w a d L/\d.classes.length<=5000/\∀x:ClassD,x∈d.classes->x.regs.length<=5000
def Nb2(w:World)(a:Option Addr)(d:MachD)(L:RegL):Prop:=Nb1 w a d L/\d.ops.length<=5000/\∀x:OpD,x∈d.ops->x.clob.length<=5000/\x.uses.length<=5000
def qgx(w:World)(a:Option Addr)(d:MachD)(L:RegL)(e:Ending)(w':World):Prop:=∃g:Bool,e = .returned (.bool g)/\(g=false->Nb2 w a d L)/\Below w.heap.size w w'
theorem w64(n:Int)(h:0<=n/\n<=4611686018427387904):wrap64 n=n:=by
 have h1:=IntWalk.i64_in n (by omega)
 rw[IntKind.wrap_i64] at h1
 unfold wrap64
 exact h1
theorem qdO(s:Nat)(h:s<=281474976710656):∃x:Nat,x<=35184372088832/\Hid ((s:Int)/8=x)/\IntKind.i64.wrap ((s:Int).tdiv 8)=x:=by
 have h1:(s:Int)/8=(s/8:Nat):=by omega
 exact⟨s/8,by omega,Lib.hid h1,by rw[Int.tdiv_eq_ediv_of_nonneg (by omega),h1];exact IntWalk.i64_in _ (by omega)⟩
theorem qic{w:World}{m:MV}{d:MachD}{L:RegL}(h:Xb w m d L) :
 Calls Tryz.prog 8 #[m.val] w (qgx w m.regs.a d L):=by
 obtain⟨mn,⟨ra,rn,rc⟩,⟨ka,kn,kc⟩,⟨oa,on,oc⟩,ar,rs,sv,sl⟩:=m
 obtain⟨hL1,hL2,hL3,hL4,hL5⟩:=h.regs
 have hsame:=h.same
 have hresult:=h.result
 have hK:=h.classes
 have hO:=h.ops
 dsimp only at hL1 hL2 hL3 hL4 hL5 hsame hresult hK hO ⊢
 have hkn:=hK.1
 have hkc:=hK.2.1
 have hon:=hO.1
 have hoc:=hO.2.1
 dsimp only at hkn hkc hon hoc
 have hnz:=h.nz
 have hrz:=h.rz
 rw[←hsame] at hnz
 rw[←hresult] at hrz
 show Calls Tryz.prog 8 #[.agg #[.string mn,.slice ra rn rc,.slice ka kn kc,.slice oa on oc,.slice ar.a ar.n ar.c,.string rs,.slice sv.a sv.n sv.c,.int .i64 sl]] w _
 obtain⟨W0,hW0⟩:∃W0,W0=w.alloc (.cells #[.string mn,.slice ra rn rc,.slice ka kn kc,.slice oa on oc,.slice ar.a ar.n ar.c,.string rs,.slice sv.a sv.n sv.c,.int .i64 sl] 27):=⟨_,rfl⟩
 have hb0:Below w.heap.size w W0:=by rw[hW0];exact qe
 have hbx:Cells W0 w.heap.size 27 #[.string mn,.slice ra rn rc,.slice ka kn kc,.slice oa on oc,.slice ar.a ar.n ar.c,.string rs,.slice sv.a sv.n sv.c,.int .i64 sl]:=by rw[hW0];exact Cells.new _ _ _
 have hold:L = .nil∨∃b o,ra=some ⟨b,o,none⟩/\qZ w.heap.size w b o L:=by
  rcases hL4 with⟨h0,_⟩|⟨b,o,hb⟩
  ·cases L with
   | nil=>exact .inl rfl
   | cons=>simp[RegL.length] at hL1;omega
  ·exact .inr ⟨b,o,hb,hL5 b o hb⟩
 obtain⟨S,hS⟩:∃S,S=sizeFrom L 30 L.length:=⟨_,rfl⟩
 obtain⟨A,hA⟩:∃A,A=longFrom d.args d.args.length:=⟨_,rfl⟩
 obtain⟨V,hV⟩:∃V,V=longFrom d.saved d.saved.length:=⟨_,rfl⟩
 have hSb:S<=31*281474976710656:=by
  rw[hS]
  rcases hold with rfl|⟨b,o,_,hh⟩
  ·simp[sizeFrom,RegL.length]
  ·exact jB hh (by omega)
 have hAb:A<=281474976710656:=by rw[hA];exact xL h.fa.2 (by have:=h.fa.1;omega)
 have hVb:V<=281474976710656:=by rw[hV];exact xL h.fs.2 (by have:=h.fs.1;omega)
 have KS:∀n,Calls Tryz.prog 43 #[.slice ra rn rc,.int .i64 30] (W0.drewN n) fun e w'=>e = .returned (.int .i64 S)/\∃m,w'=(W0.drewN n).drewN m:=fun n=>by
  have hb:=below_drewN hb0 n
  have:=qgw w.heap.size 30 (Nat.le_refl _) ra rc L (W0.drewN n) hb.size (by omega) (by omega) (hold.imp id fun⟨b,o,g1,g2⟩=>⟨b,o,g1,qZ.of (fun b j v hbb hv=>cell_below hb hv) g2⟩)
  rw[←hS,hL1] at this
  exact this
 have KA:∀n,Calls Tryz.prog 44 #[.slice ar.a ar.n ar.c] (W0.drewN n) fun e w'=>e = .returned (.int .i64 A)/\w'=W0.drewN n:=fun n=>by
  have:=Xx ar d.args (W0.drewN n) (h.args.below (below_drewN hb0 n)) h.fa
  rwa [←hA] at this
 have KV:∀n,Calls Tryz.prog 44 #[.slice sv.a sv.n sv.c] (W0.drewN n) fun e w'=>e = .returned (.int .i64 V)/\w'=W0.drewN n:=fun n=>by
  have:=Xx sv d.saved (W0.drewN n) (h.saved.below (below_drewN hb0 n)) h.fs
  rwa [←hV] at this
 obtain⟨x,hxb,hx1,hx2⟩:=qdO mn.size (by omega)
 obtain⟨y,hyb,hy1,hy2⟩:=qdO rs.size (by omega)
 have s1:IntKind.i64.wrap ((S:Int)+A)=(S:Int)+A:=IntWalk.i64_in _ (by omega)
 have s2:IntKind.i64.wrap ((S:Int)+A+V)=(S:Int)+A+V:=IntWalk.i64_in _ (by omega)
 have s3:IntKind.i64.wrap ((S:Int)+A+V+x)=(S:Int)+A+V+x:=IntWalk.i64_in _ (by omega)
 have s4:IntKind.i64.wrap ((S:Int)+A+V+x+y)=(S:Int)+A+V+x+y:=IntWalk.i64_in _ (by omega)
 have hG0:S+A+V+x+y<=5000->Nb0 w ra d L:=fun hle=>by
  have h1:=xK d.args d.args.length
  have h2:=xK d.saved d.saved.length
  refine⟨fun b o hb=>?_,by omega,by omega⟩
  exact jp (hL5 b o hb) (dp:=30) (n:=L.length) (by omega)
 have x0:=hbx.cell (j:=0) (v:=.string mn) rfl
 have x1:=hbx.cell (j:=1) (v:=.slice ra rn rc) rfl
 have x2:=hbx.cell (j:=2) (v:=.slice ka kn kc) rfl
 have x3:=hbx.cell (j:=3) (v:=.slice oa on oc) rfl
 have x4:=hbx.cell (j:=4) (v:=.slice ar.a ar.n ar.c) rfl
 have x5:=hbx.cell (j:=5) (v:=.string rs) rfl
 have x6:=hbx.cell (j:=6) (v:=.slice sv.a sv.n sv.c) rfl
 have hkl:kn<=140737488355328:=by have:=h.fk.1;omega
 have hol:on<=140737488355328:=by have:=h.fp.1;omega
 have hfk:=h.fk.2
 have hfp:=h.fp.2
 have hK0:=hK.below hb0
 have hO0:=hO.below hb0
 replace hG0:=Lib.hid hG0
 replace hK0:=Lib.hid hK0
 replace hO0:=Lib.hid hO0
 replace hfk:=Lib.hid hfk
 replace hfp:=Lib.hid hfp
 replace hkn:=Lib.hid hkn
 replace hon:=Lib.hid hon
 replace hb0:=Lib.hid hb0
 replace hW0:=Lib.hid hW0
 clear hL1 hL2 hL3 hL4 hL5 hold hS hA hV hsame hresult hK hO h hnz hrz
 go_enter Tryz.func8,Tryz.ntmps8
 go_upto_region 1 with fail
 rw[←hW0.out]
 go_quiet ((first
  |(go_at_call 43;exact Calls.quiet_of (KS _))
  |(go_at_call 44;first|with_reducible exact Calls.quiet_of_same (KA _)|with_reducible exact Calls.quiet_of_same (KV _))))
 go_wp2_with fail
 go_loopw [3,4] (fun v i W=>∃ (k n:Nat),k<=kn/\i = .int .i64 k/\v = .int .i64 n/\n<=36028797018963968/\Hid (n<=5000->Nb0 w ra d L/\k<=n/\∀ (j:Nat) (x:ClassD),j<k->d.classes[j]?=some x->x.regs.length<=5000)/\Below W0.heap.size W0 W) (fun _ i _=>kn-(intOf i).toNat)
 case atStart=>
  have hx1:=hx1.out
  have hy1:=hy1.out
  exact⟨0,S+A+V+x+y,Nat.zero_le _,rfl,by refine congrArg (Value.int .i64) ?_;rw[hx1,hy1,w64 (x:Int) (by omega),w64 (y:Int) (by omega),w64 ((S:Int)+A+V+x) (by omega),w64 ((S:Int)+A+V+x+y) (by omega)];omega,by omega,Lib.hid fun hle=>⟨hG0.out hle,Nat.zero_le _,fun j x hj=>absurd hj (Nat.not_lt_zero _)⟩,below_drewN (Below.refl _ _) _⟩
 case round=>
  obtain⟨k,n,hk,rfl,rfl,hn,hG,hB⟩:=hrel
  have k0:(0:Int)<=k:=Int.natCast_nonneg _
  have y2:=cell_below hB x2
  clear KS KA KV s1 s2 s3 s4 hx1 hx2 hy1 hy2 hG0 x0 x1 x4 x5 x6
  rcases(show(k<kn/\(n:Int)<=5000)∨(k<kn/\¬ (n:Int)<=5000/\Hid (n<=5000->Nb1 w ra d L))∨(¬ k<kn/\Hid (n<=5000->Nb1 w ra d L)) by
   by_cases h1:k<kn
   ·by_cases h2:(n:Int)<=5000
    ·exact .inl ⟨h1,h2⟩
    ·exact .inr (.inl ⟨h1,h2,Lib.hid fun h3=>absurd h3 (by omega)⟩)
   ·refine .inr (.inr ⟨h1,Lib.hid fun h3=>?_⟩)
    obtain⟨g1,g2,g3⟩:=hG.out h3
    have:=hkn.out
    refine⟨g1,by omega,fun x hx=>?_⟩
    obtain⟨j,hj⟩:=List.getElem?_of_mem hx
    exact g3 j x (by have:=(List.getElem?_eq_some_iff.1 hj).1;omega) hj) with⟨hlt,h5⟩|⟨hlt,h5,hG1⟩|⟨hlt,hG1⟩
  ·obtain⟨x,hx⟩:∃x,d.classes[k]?=some x:=⟨d.classes[k]'(by have:=hkn.out;omega),List.getElem?_eq_getElem _⟩
   obtain⟨b,o,hka,r,hc0,hc1,hcr⟩:=hK0.out.2.2 k x hx
   dsimp only at hka
   obtain⟨hxz,hxf⟩:=hfk.out x (List.mem_of_getElem? hx)
   have e0:=cell_below hB hc0
   have e1:=cell_below hB hc1
   obtain⟨z,hz⟩:∃z,z=longFrom x.regs x.regs.length:=⟨_,rfl⟩
   have hzb:z<=281474976710656:=by rw[hz];exact xL hxf.2 (by have:=hxf.1;omega)
   have hzg:x.regs.length<=z:=by rw[hz];exact xK _ _
   have KL:∀q,Calls Tryz.prog 44 #[.slice r.a r.n r.c] (wr.drewN q) fun e w'=>e = .returned (.int .i64 z)/\w'=wr.drewN q:=fun q=>by
    have:=Xx r x.regs (wr.drewN q) (hcr.below (below_drewN hB q)) hxf
    rwa [←hz] at this
   obtain⟨q,hqb,hq1,hq2⟩:=qdO x.name.size (by omega)
   have s1:IntKind.i64.wrap ((n:Int)+1)=(n:Int)+1:=IntWalk.i64_in _ (by omega)
   have s2:IntKind.i64.wrap ((n:Int)+1+z)=(n:Int)+1+z:=IntWalk.i64_in _ (by omega)
   have s3:IntKind.i64.wrap ((n:Int)+1+z+q)=(n:Int)+1+z+q:=IntWalk.i64_in _ (by omega)
   have hG2:Hid (n+1+z+q<=5000->Nb0 w ra d L/\k+1<=n+1+z+q/\∀ (j:Nat) (x:ClassD),j<k+1->d.classes[j]?=some x->x.regs.length<=5000):=Lib.hid fun hle=>by
    obtain⟨g1,g2,g3⟩:=hG.out (by omega)
    refine⟨g1,by omega,fun j y hj hy=>?_⟩
    by_cases hjk:j<k
    ·exact g3 j y hjk hy
    ·obtain rfl:j=k:=by omega
     rw[hx] at hy;cases hy
     omega
   have hlt2:(k:Int)<kn:=by omega
   subst hka
   replace hx:=Lib.hid hx
   replace hz:=Lib.hid hz
   clear hG hc0 hc1 hcr hzg
   go_upto_region 5 with fail
   go_quiet ((go_at_call 44;exact Calls.quiet_of_same (KL _)))
   go_wp2_with fail
   have hq1:=hq1.out
   exact⟨⟨k+1,n+1+z+q,by omega,by go_num,by go_num,by omega,hG2,below_drewN hB _⟩,by simp[intOf];omega⟩
  all_goals
   obtain⟨w1,rfl⟩:∃w1:World,w1=wr:=⟨_,rfl⟩
   clear hG
   go_wp2_with fail
   go_loopw [3,5] (fun v i W=>∃ (k n:Nat),k<=on/\i = .int .i64 k/\v = .int .i64 n/\n<=36028797018963968/\Hid (n<=5000->Nb1 w ra d L/\k<=n/\∀ (j:Nat) (x:OpD),j<k->d.ops[j]?=some x->x.clob.length<=5000/\x.uses.length<=5000)/\Below W0.heap.size W0 W) (fun _ i _=>on-(intOf i).toNat)
   case atStart=>exact⟨0,n,Nat.zero_le _,rfl,rfl,hn,Lib.hid fun hle=>⟨hG1.out hle,Nat.zero_le _,fun j x hj=>absurd hj (Nat.not_lt_zero _)⟩,hB⟩
   case round=>
    obtain⟨k,n,hk,rfl,rfl,hn,hG,hB⟩:=hrel
    have k0:(0:Int)<=k:=Int.natCast_nonneg _
    have y3:=cell_below hB x3
    clear hG1
    rcases(show(k<on/\(n:Int)<=5000)∨(k<on/\¬ (n:Int)<=5000/\Hid (n<=5000->Nb2 w ra d L))∨(¬ k<on/\Hid (n<=5000->Nb2 w ra d L)) by
     by_cases h1:k<on
     ·by_cases h2:(n:Int)<=5000
      ·exact .inl ⟨h1,h2⟩
      ·exact .inr (.inl ⟨h1,h2,Lib.hid fun h3=>absurd h3 (by omega)⟩)
     ·refine .inr (.inr ⟨h1,Lib.hid fun h3=>?_⟩)
      obtain⟨g1,g2,g3⟩:=hG.out h3
      have:=hon.out
      refine⟨g1,by omega,fun x hx=>?_⟩
      obtain⟨j,hj⟩:=List.getElem?_of_mem hx
      exact g3 j x (by have:=(List.getElem?_eq_some_iff.1 hj).1;omega) hj) with⟨hlt,h5⟩|⟨hlt,h5,hG2⟩|⟨hlt,hG2⟩
    ·obtain⟨x,hx⟩:∃x,d.ops[k]?=some x:=⟨d.ops[k]'(by have:=hon.out;omega),List.getElem?_eq_getElem _⟩
     obtain⟨b,o,hoa,u,kk,hc0,hc1,hc2,hc3,hc4,hc5,hcu,hck⟩:=hO0.out.2.2 k x hx
     dsimp only at hoa
     obtain⟨hxz,hxd,hxf,hxu,hxc⟩:=hfp.out x (List.mem_of_getElem? hx)
     obtain⟨ua,un,uc⟩:=u
     have hun:=hcu.1
     have huc:=hcu.2.1
     dsimp only at hun huc hc3
     subst hun
     have e0:=cell_below hB hc0
     have e1:=cell_below hB hc1
     have e2:=cell_below hB hc2
     have e3:=cell_below hB hc3
     have e4:=cell_below hB hc4
     have e5:=cell_below hB hc5
     obtain⟨W2,hW2⟩:∃W2,W2=wr.alloc (.cells #[.string x.name,.string x.d.cls,.string x.d.fix,.slice ua x.uses.length uc,.int .i64 x.tie,.slice kk.a kk.n kk.c] 54):=⟨_,rfl⟩
     have hb2:Below wr.heap.size wr W2:=by rw[hW2];exact qe
     have hbx2:Cells W2 wr.heap.size 54 #[.string x.name,.string x.d.cls,.string x.d.fix,.slice ua x.uses.length uc,.int .i64 x.tie,.slice kk.a kk.n kk.c]:=by rw[hW2];exact Cells.new _ _ _
     have hB2:Below W0.heap.size W0 W2:=hB.trans (hb2.mono hB.size)
     obtain⟨z,hz⟩:∃z,z=longFrom x.clob x.clob.length:=⟨_,rfl⟩
     have hzb:z<=281474976710656:=by rw[hz];exact xL hxc.2 (by have:=hxc.1;omega)
     have hzg:x.clob.length<=z:=by rw[hz];exact xK _ _
     have KL:∀q,Calls Tryz.prog 44 #[.slice kk.a kk.n kk.c] (W2.drewN q) fun e w'=>e = .returned (.int .i64 z)/\w'=W2.drewN q:=fun q=>by
      have:=Xx kk x.clob (W2.drewN q) (hck.below (below_drewN hB2 q)) hxc
      rwa [←hz] at this
     have hcu2:=hcu.below hB2
     have hul:=hxu.1
     obtain⟨q,hqb,hq1,hq2⟩:=qdO x.name.size (by omega)
     obtain⟨r,hrb,hr1,hr2⟩:=qdO (x.d.cls.size+x.d.fix.size) (by omega)
     rw[Int.natCast_add] at hr1 hr2
     have s0:IntKind.i64.wrap ((x.d.cls.size:Int)+x.d.fix.size)=(x.d.cls.size:Int)+x.d.fix.size:=IntWalk.i64_in _ (by omega)
     have s1:IntKind.i64.wrap ((n:Int)+2)=(n:Int)+2:=IntWalk.i64_in _ (by omega)
     have s2:IntKind.i64.wrap ((n:Int)+2+z)=(n:Int)+2+z:=IntWalk.i64_in _ (by omega)
     have s3:IntKind.i64.wrap ((n:Int)+2+z+q)=(n:Int)+2+z+q:=IntWalk.i64_in _ (by omega)
     have s4:IntKind.i64.wrap ((n:Int)+2+z+q+r)=(n:Int)+2+z+q+r:=IntWalk.i64_in _ (by omega)
     have s5:IntKind.i64.wrap ((n:Int)+2+z+q+r+x.uses.length)=(n:Int)+2+z+q+r+x.uses.length:=IntWalk.i64_in _ (by omega)
     have hG3:Hid (∀n':Nat,n+2+z+q+r+x.uses.length<=n'->n'<=5000->Nb1 w ra d L/\k+1<=n'/\∀ (j:Nat) (x:OpD),j<k+1->d.ops[j]?=some x->x.clob.length<=5000/\x.uses.length<=5000):=Lib.hid fun n' hle hle2=>by
      obtain⟨g1,g2,g3⟩:=hG.out (by omega)
      refine⟨g1,by omega,fun j y hj hy=>?_⟩
      by_cases hjk:j<k
      ·exact g3 j y hjk hy
      ·obtain rfl:j=k:=by omega
       rw[hx] at hy;cases hy
       exact⟨by omega,by omega⟩
     have x0:=hbx2.cell (j:=0) (v:=.string x.name) rfl
     have x1:=hbx2.cell (j:=1) (v:=.string x.d.cls) rfl
     have x2':=hbx2.cell (j:=2) (v:=.string x.d.fix) rfl
     have x3':=hbx2.cell (j:=3) (v:=.slice ua x.uses.length uc) rfl
     have x5:=hbx2.cell (j:=5) (v:=.slice kk.a kk.n kk.c) rfl
     have hlt2:(k:Int)<on:=by omega
     subst hoa
     replace hx:=Lib.hid hx
     replace hz:=Lib.hid hz
     replace hcu2:=Lib.hid hcu2
     replace hxu:=Lib.hid hxu
     replace hW2:=Lib.hid hW2
     clear hG hc0 hc1 hc2 hc3 hc4 hc5 hcu hck hzg
     obtain⟨w4,rfl⟩:∃w4:World,w4=wr:=⟨_,rfl⟩
     go_upto_region 10 with fail
     rw[←hW2.out]
     go_quiet ((go_at_call 44;exact Calls.quiet_of_same (KL _)))
     go_wp2_with fail
     go_loopw [3,7] (fun v i W=>∃ (j n':Nat),j<=x.uses.length/\i = .int .i64 j/\v = .int .i64 n'/\n'<=36028797018963968/\n+2+z+q+r+x.uses.length<=n'/\Below W2.heap.size W2 W) (fun _ i _=>x.uses.length-(intOf i).toNat)
     case atStart=>
      have hq1:=hq1.out
      have hr1:=hr1.out
      exact⟨0,n+2+z+q+r+x.uses.length,Nat.zero_le _,rfl,by go_num,by omega,Nat.le_refl _,below_drewN (Below.refl _ _) _⟩
     case round=>
      obtain⟨j,n',hj,rfl,rfl,hn',hle,hB4⟩:=hrel
      have j0:(0:Int)<=j:=Int.natCast_nonneg _
      have z3:=cell_below hB4 x3'
      have hB5:Below W0.heap.size W0 wr:=hB2.trans (hB4.mono hB2.size)
      by_cases hjl:j<x.uses.length
      ·by_cases h6:(n':Int)<=5000
       ·obtain⟨v,hv⟩:∃v,x.uses[j]?=some v:=⟨x.uses[j],List.getElem?_eq_getElem hjl⟩
        obtain⟨bu,ou,hua,v0,v1⟩:=hcu2.out.2.2 j v hv
        dsimp only at hua
        obtain⟨hv1,hv2⟩:=hxu.out.2 v (List.mem_of_getElem? hv)
        have f0:=cell_below hB4 v0
        have f1:=cell_below hB4 v1
        obtain⟨t,htb,ht1,ht2⟩:=qdO (v.cls.size+v.fix.size) (by omega)
        rw[Int.natCast_add] at ht1 ht2
        have s6:IntKind.i64.wrap ((v.cls.size:Int)+v.fix.size)=(v.cls.size:Int)+v.fix.size:=IntWalk.i64_in _ (by omega)
        have s7:IntKind.i64.wrap ((n':Int)+t)=(n':Int)+t:=IntWalk.i64_in _ (by omega)
        have hjl2:(j:Int)<x.uses.length:=by omega
        subst hua
        replace hv:=Lib.hid hv
        clear v0 v1 s0 s1 s2 s3 s4 s5 hq2 hr2 KL
        go_upto_region 14 with fail
        go_quiet (fail)
        go_wp2_with fail
        have ht1:=ht1.out
        exact⟨⟨j+1,n'+t,by omega,by go_num,by go_num,by omega,by omega,below_drewN hB4 _⟩,by simp[intOf];omega⟩
       ·have hG4:=Lib.hid (hG3.out n' hle)
        clear s0 s1 s2 s3 s4 s5 hq2 hr2 KL hG3
        go_wp2_with fail
        exact⟨⟨k+1,n',by omega,by go_num,rfl,hn',hG4,hB5⟩,by simp[intOf];omega⟩
      ·have hG4:=Lib.hid (hG3.out n' hle)
       clear s0 s1 s2 s3 s4 s5 hq2 hr2 KL hG3
       go_wp2_with fail
       exact⟨⟨k+1,n',by omega,by go_num,rfl,hn',hG4,hB5⟩,by simp[intOf];omega⟩
    all_goals
     have hend:=Lib.hid (hb0.out.trans (hB.mono hb0.out.size))
     clear hG
     by_cases h25:(2500:Int)<n
     ·go_wp2_with fail
      go_ret
      exact⟨true,rfl,fun h=>(by cases h),hend.out⟩
     ·first
       |(exfalso;omega)
       |(go_wp2_with fail
         go_ret
         exact⟨_,rfl,fun _=>hG2.out (by omega),hend.out⟩)
end Go.Proofs.YtkoloennfejaaaaGreatDoor
