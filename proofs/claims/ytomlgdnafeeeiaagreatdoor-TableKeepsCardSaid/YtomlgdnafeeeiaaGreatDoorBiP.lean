
import Derived.Test.YtomlgdnafeeeiaaGreatDoorMdOne
import Derived.ChangeArms
import Derived.ChangeShapes
import Derived.DataReads
import Derived.SizedLaws
import Derived.KernelRfl
import Derived.Deep.DeepCutAuto
set_option maxHeartbeats 3200000
set_option maxRecDepth 100000
/-
 A description opened;the law's Big.
-/
namespace Go.Proofs.YtomlgdnafeeeiaaGreatDoor
open Proofs.Tryz
section
open Go.RowKit
def Kh(l:List ByteArray):Prop:=l.length<=140737488355328/\∀x,x∈l->x.size<=140737488355328
def xU:List ByteArray->Nat->Nat
 | [],n=>n
 | x::r,n=>if 5000<n then n else xU r (n+x.size/8)
theorem yU:∀ (l:List ByteArray) (n:Nat),n<=xU l n
 | [],_=>vL _
 |x::r,n=>by
  unfold xU
  split
  ·exact vL _
  ·have:=yU r (n+x.size/8);omega
theorem yV:∀ {l:List ByteArray} {n:Nat},(∀x,x∈l->x.size<=140737488355328)->n<=281474976710656->xU l n<=281474976710656
 | [],_,_,h=>h
 |x::r,n,hf,h=>by
  unfold xU
  split
  ·exact h
  ·have:=hf x List.mem_cons_self
   exact yV (fun y hy=>hf y (List.mem_cons_of_mem _ hy)) (by omega)
theorem qel(l:List ByteArray)(k:Nat)(x:ByteArray)(hx:l[k]?=some x)(n:Nat):xU (l.drop k) n=if 5000<n then n else xU (l.drop (k+1)) (n+x.size/8):=by
 obtain⟨hk,rfl⟩:=vS.1 hx
 rw[List.drop_eq_getElem_cons hk];rfl
theorem qag(s:SlV)(l:List ByteArray)(w:World)(hl:qG w s l)(hf:Kh l) :
 Calls prog 19 #[.slice s.a s.n s.c] w fun e w'=>e = .returned (.int .i64 (xU l l.length))/\w'=w:=by
 obtain⟨a,n,c⟩:=s
 obtain⟨hn,hc,hl⟩:=hl
 dsimp only at hn hc hl ⊢
 subst hn
 obtain⟨hf1,hf2⟩:=hf
 obtain⟨z,hz⟩:∃z,z=xU l l.length:=⟨_,rfl⟩
 rw[←hz]
 replace hz:=vH hz
 replace hl:=vH hl
 replace hf2:=vH hf2
 go_enter func19,ntmps19
 go_wp2_with fail
 go_loop [3,4] (fun m i=>∃ (k m':Nat),k<=l.length/\i = .int .i64 k/\m = .int .i64 m'/\Hid (z=xU (l.drop k) m')/\m'<=281474976710656) (fun _ i=>l.length-(intOf i).toNat)
 case atStart=>exact⟨0,l.length,vO _,rfl,rfl,hz,by omega⟩
 case round=>
  obtain⟨k,m',hk,rfl,rfl,hm1,hm2⟩:=hrel
  by_cases hlt:k<l.length
  ·obtain⟨x,hx⟩:∃x,l[k]?=some x:=⟨l[k],by rw[vE hlt]⟩
   have hat:=vH (qel l k x hx m')
   by_cases hm:(m':Int)<=5000
   ·obtain⟨b,o,rfl,hcell⟩:=hl.out k x hx
    have hsz:=hf2.out x (vM hx)
    obtain⟨q,hq⟩:∃q:Nat,q=x.size/8:=⟨_,rfl⟩
    have hqb:q<=17592186044416:=by omega
    have hq1:((x.size:Int))/8=q:=by omega
    have hq2:IntKind.i64.wrap ((x.size:Int).tdiv 8)=q:=by rw[Int.tdiv_eq_ediv_of_nonneg (by omega),hq1];exact vI _ (by omega)
    have hq3:IntKind.i64.wrap ((m':Int)+q)=(m':Int)+q:=vI _ (by omega)
    have hm3:Hid (z=xU (l.drop (k+1)) (m'+q)):=vH (by rw[hm1.out,hat.out,if_neg (by omega),hq])
    replace hq1:=vH hq1
    replace hq:=vH hq
    replace hx:=vH hx
    clear hm1 hat
    go_wp2_with fail
    go_round
    case rel=>
     have hq1:=hq1.out
     exact⟨k+1,m'+q,by omega,by go_num,by go_num,hm3,by omega⟩
    case measure=>simp[intOf];omega
   ·have hz2:Hid (z=m'):=vH (by rw[hm1.out,hat.out,if_pos (by omega)])
    replace hx:=vH hx
    clear hm1 hat
    go_wp2_with fail
    go_ret
    exact⟨qI (by rw[hz2.out]),rfl⟩
  ·have hz2:Hid (z=m'):=vH (by rw[hm1.out,List.drop_eq_nil_of_le (by omega)];rfl)
   clear hm1
   go_wp2_with fail
   go_ret
   exact⟨qI (by rw[hz2.out]),rfl⟩
end
section
open Go.ChangeShapes Go.WideShapes Go.RowKit
theorem qky{α:Type}{Q:Nat->α->Prop}(n:Nat)(h:∀k,k<n->∃x,Q k x):∃l:List α,l.length=n/\∀k x,l[k]?=some x->Q k x:=by
 refine⟨List.ofFn fun i:Fin n=>Classical.choose (h i.1 i.2),by simp,fun k x hk=>?_⟩
 obtain⟨hlt,rfl⟩:=vS.1 hk
 rw[List.getElem_ofFn]
 exact Classical.choose_spec (h k (by simpa using hlt))
section
variable {H:Type} {enc:TypeId×Value->H} {P:Program} {w:World} {base:Nat} {sp:Nat->Bool} {held:Bool}
def Xt(P:Program)(t:TypeId)(d:DataW H):Prop:=∀m,m∈d.weights P t->m<=140737488355328
theorem Xu{e:TypeId} : ∀ {l:List (DataW H)} {k:Nat} {d:DataW H},l[k]?=some d->∀m,m∈d.weights P e->m∈DataW.weightsAll P e l
 |x::r,0,d,hk,m,hm=>by
  simp only[List.getElem?_cons_zero,Option.some.injEq] at hk
  subst hk
  simp only[DataW.weightsAll,vC];exact .inl hm
 |x::r,k+1,d,hk,m,hm=>by
  simp only[List.getElem?_cons_succ] at hk
  simp only[DataW.weightsAll,vC];exact .inr (Xu hk m hm)
 | [],_,_,hk,_,_=>by simp at hk
theorem Zo{t e:TypeId}{fuel:Nat}{cs:List Value}{x:DataW H×List MemPlace}(hsp:∀b,sp b=true)(ht:P.underlying t=some (.slice e))(hpos:0<P.cellsOf e)
 (h:DataW.trod enc P w base sp held fuel t cs=some x) :
 ∃ (a:Option Addr) (len cap n:Nat),fuel=n+1/\cs = [.slice a len cap]/\len<=cap/\((len=0/\cap=0)∨∃b o,a=some ⟨b,o,none⟩)/\(0<len->∃m,m∈x.1.weights P t/\len*P.bytesOf e<=m) /\
  ∀k,k<len->∃b o c y,a=some ⟨b,o,none⟩/\b<w.heap.size/\c.length=P.cellsOf e/\(∀j,j<P.cellsOf e->w.cell? ⟨b,o+k*P.cellsOf e+j,none⟩=c[j]?) /\
   DataW.trod enc P w base sp held n e c=some y/\∀m,m∈y.1.weights P e->m∈x.1.weights P t:=by
 rcases DataW.trod_slice ht h with⟨rfl,rfl⟩|⟨a,len,cap,elems,rest,n,hf,rfl,rfl,hb,hl,hm,hlen,hel,hs,_⟩
 ·cases fuel with
  | zero=>simp[DataW.trod] at h
  | succ n=>exact⟨none,0,0,n,rfl,rfl,vL _,.inl ⟨rfl,rfl⟩,fun h=>absurd h (Nat.lt_irrefl _),fun k hk=>absurd hk (Nat.not_lt_zero _)⟩
 ·obtain⟨hrl,hr⟩:=hs (hsp _)
  have cellOf:∀ (k:Nat) (c:List Value),w.cells? base (a.add (k*P.cellsOf e)) (P.cellsOf e)=some c->∃v,w.cell? ((a.add (k*P.cellsOf e)).add 0)=some v:=fun k c hc=>by
   obtain⟨_,hcl,hcc⟩:=World.cells?_some hc
   have:=hcc 0 hpos
   rw[vE (by omega)] at this
   exact⟨_,this⟩
  have hW:DataW.weights P t (.slice (elems.map (·.1)) (rest.map (·.1)))=((elems.map (·.1)).length+(rest.map (·.1)).length)*P.bytesOf e::(DataW.weightsAll P e (elems.map (·.1))++DataW.weightsAll P e (rest.map (·.1))):=by
   simp only[DataW.weights,ht]
  have hspot:0<cap->a.spot=none:=fun hc=>by
   by_cases h0:0<len
   ·have h1:=hel 0 h0
    obtain⟨y,hy⟩:∃y,elems[0]?=some y:=⟨elems[0]'(by omega),vE _⟩
    rw[hy,Option.bind_eq_some_iff] at h1
    obtain⟨c,hc1,_⟩:=h1
    obtain⟨v,hv⟩:=cellOf 0 c hc1
    simpa[Addr.add] using World.cell?_spot hv
   ·have hlen0:len=0:=by omega
    have h1:=hr 0 (by omega)
    obtain⟨y,hy⟩:∃y,rest[0]?=some y:=⟨rest[0]'(by omega),vE _⟩
    rw[hy,Option.bind_eq_some_iff] at h1
    obtain⟨c,hc1,_⟩:=h1
    obtain⟨v,hv⟩:=cellOf (len+0) c hc1
    rw[hlen0] at hv
    simpa[Addr.add] using World.cell?_spot hv
  obtain⟨b,o,spot⟩:=a
  refine⟨some ⟨b,o,spot⟩,len,cap,n,hf,rfl,hl,?_,fun h0=>⟨_,by rw[hW];exact List.mem_cons_self,Nat.mul_le_mul_right _ (by simp;omega)⟩,fun k hk=>?_⟩
  ·by_cases hc:0<cap
   ·obtain rfl:spot=none:=hspot hc
    exact .inr ⟨b,o,rfl⟩
   ·exact .inl ⟨by omega,by omega⟩
  ·obtain rfl:spot=none:=hspot (by omega)
   have h1:=hel k hk
   obtain⟨y,hy⟩:∃y,elems[k]?=some y:=⟨elems[k]'(by omega),vE _⟩
   rw[hy,Option.bind_eq_some_iff] at h1
   obtain⟨c,hc1,hy1⟩:=h1
   have hblk:=World.cells?_block hc1 hpos
   obtain⟨_,hcl,hcc⟩:=World.cells?_some hc1
   rw[add_plain] at hblk hcc
   refine⟨b,o,c,y,rfl,hblk,hcl,fun j hj=>?_,hy1,fun m hm=>?_⟩
   ·have:=hcc j hj
    rwa [add_plain] at this
   ·rw[hW]
    exact List.mem_cons_of_mem _ (List.mem_append_left _ (Xu (k:=k) (by rw[vY,hy];rfl) m hm))
theorem yp{t:TypeId}{fs:Array Field}{fuel:Nat}{cs:List Value}{x:DataW H×List MemPlace}(ht:P.underlying t=some (.struct fs))(h:DataW.trod enc P w base sp held fuel t cs=some x) :
 ∃n,fuel=n+1/\cs.length=P.cellsOf t/\∀ (i:Nat) (u:TypeId) (o:Nat),(fs[i]?).map (fun f=>(f.type,f.offset))=some (u,o)->∃y,DataW.trod enc P w base sp held n u ((cs.drop o).take (P.cellsOf u))=some y/\∀m,m∈y.1.weights P u->m∈x.1.weights P t:=by
 obtain⟨xs,n,hf,rfl,hl,hlen,hall⟩:=DataW.trod_struct ht h
 refine⟨n,hf,hl,fun i u o hfu=>?_⟩
 obtain⟨f,hfi,hfe⟩:=Option.map_eq_some_iff.1 hfu
 obtain⟨rfl,rfl⟩:=Prod.mk.inj hfe
 have hi:=(Array.getElem?_eq_some_iff.1 hfi).1
 obtain⟨y,hy⟩:∃y,xs[i]?=some y:=⟨xs[i]'(by omega),vE _⟩
 refine⟨y,(hall i f hfi).trans hy,fun m hm=>?_⟩
 have hW:DataW.weights P t (.agg (xs.map (·.1)))=DataW.weightsEach P (fs.toList.map (·.type)) (xs.map (·.1)):=by simp only[DataW.weights,ht]
 rw[hW]
 exact DataW.weights_mem_each (j:=i) (t:=f.type) (d:=y.1) (by rw[vY];simp[hfi]) (by rw[vY,hy];rfl) m hm
theorem yh{t:TypeId}{fuel:Nat}{cs:List Value}{x:DataW H×List MemPlace}(ht:P.underlying t=some .string)(h:DataW.trod enc P w base sp held fuel t cs=some x)(hf:Xt P t x.1) :
 ∃s:ByteArray,cs = [.string s]/\s.size<=140737488355328:=by
 obtain⟨s,rfl,rfl,_⟩:=DataW.trod_string ht h
 refine⟨s,rfl,?_⟩
 have:=hf s.data.toList.length (by simp[DataW.weights])
 simpa using this
theorem xS{c:List Value}{i:Nat}{v:Value}(h:(c.drop i).take 1 = [v]):c[i]?=some v:=by
 have h1:((c.drop i).take 1)[0]?=some v:=by rw[h];rfl
 rw[List.getElem?_take_of_lt (by decide),List.getElem?_drop] at h1
 exact h1
end
theorem jp:prog.cellsOf 9=1:=by kernel_rfl
theorem Xv:prog.cellsOf 3=1:=by kernel_rfl
theorem ZQ:prog.cellsOf 25=1:=by kernel_rfl
theorem ZR:prog.cellsOf 44=2:=by kernel_rfl
theorem qbC:prog.cellsOf 45=1:=by kernel_rfl
theorem qaN:prog.cellsOf 47=6:=by kernel_rfl
theorem qem:prog.cellsOf 24=1:=by kernel_rfl
theorem Jm:prog.cellsOf 42=2:=by kernel_rfl
theorem KW:prog.cellsOf 23=1:=by kernel_rfl
theorem YT:prog.cellsOf 40=4:=by kernel_rfl
theorem JW:prog.cellsOf 22=1:=by kernel_rfl
theorem qcU:prog.cellsOf 27=8:=by kernel_rfl
theorem qen:prog.bytesOf 9=16:=by kernel_rfl
theorem qcV:prog.bytesOf 44=32:=by kernel_rfl
theorem qfN:prog.bytesOf 47=104:=by kernel_rfl
theorem qbD:prog.bytesOf 42=40:=by kernel_rfl
theorem qeo:prog.bytesOf 40=56:=by kernel_rfl
def qgj(l:List zL):Prop:=l.length<=140737488355328/\∀x,x∈l->x.cls.size<=140737488355328/\x.fix.size<=140737488355328
def qjn(l:List qp):Prop:=l.length<=140737488355328/\∀x,x∈l->x.name.size<=140737488355328/\Kh x.regs
def qjo(l:List OpD):Prop:=l.length<=140737488355328/\∀x,x∈l->x.name.size<=140737488355328/\x.d.cls.size<=140737488355328/\x.d.fix.size<=140737488355328/\qgj x.uses/\Kh x.clob
section
variable {H:Type} {enc:TypeId×Value->H} {w:World} {base:Nat} {sp:Nat->Bool} {held:Bool}
theorem QT{fuel:Nat}{cs:List Value}{x:DataW H×List MemPlace}(hsp:∀b,sp b=true)(h:DataW.trod enc prog w base sp held fuel 25 cs=some x)(hf:Xt prog 25 x.1) :
 ∃ (s:SlV) (l:List ByteArray),cs = [.slice s.a s.n s.c]/\qG w s l/\Kh l:=by
 obtain⟨a,len,cap,n,_,rfl,hl,_,hw,hall⟩:=Zo hsp underlying25 (by rw[jp];decide) h
 rw[jp] at hall
 obtain⟨l,hln,hp⟩:=qky (Q:=fun k (s:ByteArray)=>∃b o,a=some ⟨b,o,none⟩/\w.cell? ⟨b,o+k,none⟩=some (.string s)/\s.size<=140737488355328) len (fun k hk=>by
  obtain⟨b,o,c,y,ha,_,hcl,hc,hy,hm⟩:=hall k hk
  obtain⟨s,rfl,hs⟩:=yh underlying9 hy (fun m h=>hf m (hm m h))
  exact⟨s,b,o,ha,by have:=hc 0 (by decide);simpa using this,hs⟩)
 refine⟨⟨a,len,cap⟩,l,rfl,⟨hln.symm,hl,fun j y hj=>?_⟩,?_,fun y hy=>?_⟩
 ·obtain⟨b,o,h1,h2,_⟩:=hp j y hj
  exact⟨b,o,h1,h2⟩
 ·rw[hln]
  by_cases h0:0<len
  ·obtain⟨m,h1,h2⟩:=hw h0
   rw[qen] at h2
   have:=hf m h1
   omega
  ·omega
 ·obtain⟨j,hj⟩:=List.getElem?_of_mem hy
  exact(hp j y hj).choose_spec.choose_spec.2.2
theorem qcW{fuel:Nat}{cs:List Value}{x:DataW H×List MemPlace}(hsp:∀b,sp b=true)(h:DataW.trod enc prog w base sp held fuel 45 cs=some x)(hf:Xt prog 45 x.1) :
 ∃ (s:SlV) (l:List zL),cs = [.slice s.a s.n s.c]/\zY w s l/\qgj l:=by
 obtain⟨a,len,cap,n,_,rfl,hl,_,hw,hall⟩:=Zo hsp underlying45 (by rw[ZR];decide) h
 rw[ZR] at hall
 obtain⟨l,hln,hp⟩:=qky (Q:=fun k (s:zL)=>∃b o,a=some ⟨b,o,none⟩/\(w.cell? ⟨b,o+k*2,none⟩=some (.string s.cls)/\w.cell? ⟨b,o+k*2+1,none⟩=some (.string s.fix))/\s.cls.size<=140737488355328/\s.fix.size<=140737488355328) len (fun k hk=>by
  obtain⟨b,o,c,y,ha,_,hcl,hc,hy,hm⟩:=hall k hk
  obtain⟨n',_,_,hfl⟩:=yp underlying44 hy
  obtain⟨y0,h0,m0⟩:=hfl 0 9 0 rfl
  obtain⟨y1,h1,m1⟩:=hfl 1 9 1 rfl
  rw[jp] at h0 h1
  obtain⟨s0,e0,z0⟩:=yh underlying9 h0 (fun m h=>hf m (hm m (m0 m h)))
  obtain⟨s1,e1,z1⟩:=yh underlying9 h1 (fun m h=>hf m (hm m (m1 m h)))
  exact⟨⟨s0,s1⟩,b,o,ha,⟨(hc 0 (by decide)).trans (xS e0),(hc 1 (by decide)).trans (xS e1)⟩,z0,z1⟩)
 refine⟨⟨a,len,cap⟩,l,rfl,⟨hln.symm,hl,fun j y hj=>?_⟩,?_,fun y hy=>?_⟩
 ·obtain⟨b,o,h1,h2,_⟩:=hp j y hj
  exact⟨b,o,h1,h2.1,h2.2⟩
 ·rw[hln]
  by_cases h0:0<len
  ·obtain⟨m,h1,h2⟩:=hw h0
   rw[qcV] at h2
   have:=hf m h1
   omega
  ·omega
 ·obtain⟨j,hj⟩:=List.getElem?_of_mem hy
  exact(hp j y hj).choose_spec.choose_spec.2.2
theorem qaO{fuel:Nat}{cs:List Value}{x:DataW H×List MemPlace}(hsp:∀b,sp b=true)(h:DataW.trod enc prog w base sp held fuel 23 cs=some x)(hf:Xt prog 23 x.1) :
 ∃ (s:SlV) (l:List qp),cs = [.slice s.a s.n s.c]/\qS w s l/\qjn l:=by
 obtain⟨a,len,cap,n,_,rfl,hl,_,hw,hall⟩:=Zo hsp underlying23 (by rw[Jm];decide) h
 rw[Jm] at hall
 obtain⟨l,hln,hp⟩:=qky (Q:=fun k (s:qp)=>∃b o,a=some ⟨b,o,none⟩/\(∃r:SlV,w.cell? ⟨b,o+k*2,none⟩=some (.string s.name)/\w.cell? ⟨b,o+k*2+1,none⟩=some (.slice r.a r.n r.c)/\qG w r s.regs)/\s.name.size<=140737488355328/\Kh s.regs) len (fun k hk=>by
  obtain⟨b,o,c,y,ha,_,hcl,hc,hy,hm⟩:=hall k hk
  obtain⟨n',_,_,hfl⟩:=yp underlying42 hy
  obtain⟨y0,h0,m0⟩:=hfl 0 9 0 rfl
  obtain⟨y1,h1,m1⟩:=hfl 1 25 1 rfl
  rw[jp] at h0
  rw[ZQ] at h1
  obtain⟨s0,e0,z0⟩:=yh underlying9 h0 (fun m h=>hf m (hm m (m0 m h)))
  obtain⟨s1,l1,e1,a1,z1⟩:=QT hsp h1 (fun m h=>hf m (hm m (m1 m h)))
  exact⟨⟨s0,l1⟩,b,o,ha,⟨s1,(hc 0 (by decide)).trans (xS e0),(hc 1 (by decide)).trans (xS e1),a1⟩,z0,z1⟩)
 refine⟨⟨a,len,cap⟩,l,rfl,⟨hln.symm,hl,fun j y hj=>?_⟩,?_,fun y hy=>?_⟩
 ·obtain⟨b,o,h1,h2,_⟩:=hp j y hj
  exact⟨b,o,h1,h2⟩
 ·rw[hln]
  by_cases h0:0<len
  ·obtain⟨m,h1,h2⟩:=hw h0
   rw[qbD] at h2
   have:=hf m h1
   omega
  ·omega
 ·obtain⟨j,hj⟩:=List.getElem?_of_mem hy
  exact(hp j y hj).choose_spec.choose_spec.2.2
theorem qfO{fuel:Nat}{cs:List Value}{x:DataW H×List MemPlace}(hsp:∀b,sp b=true)(h:DataW.trod enc prog w base sp held fuel 24 cs=some x)(hf:Xt prog 24 x.1) :
 ∃ (s:SlV) (l:List OpD),cs = [.slice s.a s.n s.c]/\jP w s l/\qjo l:=by
 obtain⟨a,len,cap,n,_,rfl,hl,_,hw,hall⟩:=Zo hsp underlying24 (by rw[qaN];decide) h
 rw[qaN] at hall
 obtain⟨l,hln,hp⟩:=qky (Q:=fun k (x:OpD)=>∃b o,a=some ⟨b,o,none⟩/\(∃u k':SlV,w.cell? ⟨b,o+k*6,none⟩=some (.string x.name)/\w.cell? ⟨b,o+k*6+1,none⟩=some (.string x.d.cls)/\w.cell? ⟨b,o+k*6+2,none⟩=some (.string x.d.fix) /\
  w.cell? ⟨b,o+k*6+3,none⟩=some (.slice u.a u.n u.c)/\w.cell? ⟨b,o+k*6+4,none⟩=some (.int .i64 x.tie)/\w.cell? ⟨b,o+k*6+5,none⟩=some (.slice k'.a k'.n k'.c)/\zY w u x.uses/\qG w k' x.clob) /\
   x.name.size<=140737488355328/\x.d.cls.size<=140737488355328/\x.d.fix.size<=140737488355328/\qgj x.uses/\Kh x.clob) len (fun k hk=>by
  obtain⟨b,o,c,y,ha,_,hcl,hc,hy,hm⟩:=hall k hk
  obtain⟨n',_,_,hfl⟩:=yp underlying47 hy
  obtain⟨y0,h0,m0⟩:=hfl 0 9 0 rfl
  obtain⟨y1,h1,m1⟩:=hfl 1 44 1 rfl
  obtain⟨y2,h2,m2⟩:=hfl 2 45 3 rfl
  obtain⟨y3,h3,m3⟩:=hfl 3 3 4 rfl
  obtain⟨y4,h4,m4⟩:=hfl 4 25 5 rfl
  rw[jp] at h0
  rw[ZR] at h1
  rw[qbC] at h2
  rw[Xv] at h3
  rw[ZQ] at h4
  obtain⟨s0,e0,z0⟩:=yh underlying9 h0 (fun m h=>hf m (hm m (m0 m h)))
  obtain⟨n2,_,_,hfl2⟩:=yp underlying44 h1
  obtain⟨x0,g0,p0⟩:=hfl2 0 9 0 rfl
  obtain⟨x1,g1,p1⟩:=hfl2 1 9 1 rfl
  rw[jp] at g0 g1
  obtain⟨d0,f0,w0⟩:=yh underlying9 g0 (fun m h=>hf m (hm m (m1 m (p0 m h))))
  obtain⟨d1,f1,w1⟩:=yh underlying9 g1 (fun m h=>hf m (hm m (m1 m (p1 m h))))
  obtain⟨s2,l2,e2,a2,z2⟩:=qcW hsp h2 (fun m h=>hf m (hm m (m2 m h)))
  obtain⟨i3,e3,_,_⟩:=DataW.trod_int underlying3 h3
  obtain⟨s4,l4,e4,a4,z4⟩:=QT hsp h4 (fun m h=>hf m (hm m (m4 m h)))
  have k0:=xS f0
  have k1:=xS f1
  rw[List.getElem?_take_of_lt (by decide),List.getElem?_drop] at k0 k1
  exact⟨⟨s0,⟨d0,d1⟩,l2,i3,l4⟩,b,o,ha,⟨s2,s4,(hc 0 (by decide)).trans (xS e0),(hc 1 (by decide)).trans k0,(hc 2 (by decide)).trans k1,(hc 3 (by decide)).trans (xS e2),(hc 4 (by decide)).trans (xS e3),(hc 5 (by decide)).trans (xS e4),a2,a4⟩,z0,w0,w1,z2,z4⟩)
 refine⟨⟨a,len,cap⟩,l,rfl,⟨hln.symm,hl,fun j y hj=>?_⟩,?_,fun y hy=>?_⟩
 ·obtain⟨b,o,h1,h2,_⟩:=hp j y hj
  exact⟨b,o,h1,h2⟩
 ·rw[hln]
  by_cases h0:0<len
  ·obtain⟨m,h1,h2⟩:=hw h0
   rw[qfN] at h2
   have:=hf m h1
   omega
  ·omega
 ·obtain⟨j,hj⟩:=List.getElem?_of_mem hy
  exact(hp j y hj).choose_spec.choose_spec.2.2
def xE(n₀:Nat)(W:World)(b:Nat):Nat->qg->Prop
 | _,.nil=>True
 | o,.cons nm wd at_ sv subs rest=>b<n₀/\yW W b o ⟨nm,wd,at_,sv⟩/\nm.size<=140737488355328/\xE n₀ W b (o+4) rest /\
    (((∃a,sv = .slice a 0 0)/\subs = .nil)∨∃b' o' c',sv = .slice (some ⟨b',o',none⟩) subs.length c'/\subs.length<=c'/\subs.length<=140737488355328/\xE n₀ W b' o' subs)
def qld(w:World)(a:Option Addr)(n c:Nat)(L:qg):Prop:=
 L.length=n/\n<=c/\n<=140737488355328/\((n=0/\c=0)∨∃b o,a=some ⟨b,o,none⟩)/\∀b o,a=some ⟨b,o,none⟩->xE w.heap.size w b o L
theorem qep(hsp:∀b,sp b=true):∀ (fuel:Nat) (cs:List Value) (x:DataW H×List MemPlace),DataW.trod enc prog w base sp held fuel 22 cs=some x->Xt prog 22 x.1 ->
 ∃ (a:Option Addr) (n c:Nat) (L:qg),cs = [.slice a n c]/\qld w a n c L:=by
 intro fuel
 induction fuel using Nat.strongRecOn with
 |ind fuel ih=>
  intro cs x h hf
  obtain⟨a,len,cap,n,hfu,rfl,hl,hsh,hw,hall⟩:=Zo hsp underlying22 (by rw[YT];decide) h
  rw[YT] at hall
  have each:∀k,k<len->∃b o,a=some ⟨b,o,none⟩/\b<w.heap.size/\∃nm wd at_ sv subs,yW w b (o+k*4) ⟨nm,wd,at_,sv⟩/\nm.size<=140737488355328 /\
   (((∃a,sv = .slice a 0 0)/\subs = .nil)∨∃b' o' c',sv = .slice (some ⟨b',o',none⟩) subs.length c'/\subs.length<=c'/\subs.length<=140737488355328/\xE w.heap.size w b' o' subs):=fun k hk=>by
   obtain⟨b,o,c,y,ha,hb,hcl,hc,hy,hm⟩:=hall k hk
   obtain⟨n',hn',_,hfl⟩:=yp underlying40 hy
   obtain⟨y0,h0,m0⟩:=hfl 0 9 0 rfl
   obtain⟨y1,h1,m1⟩:=hfl 1 3 1 rfl
   obtain⟨y2,h2,m2⟩:=hfl 2 3 2 rfl
   obtain⟨y3,h3,m3⟩:=hfl 3 22 3 rfl
   rw[jp] at h0
   rw[Xv] at h1 h2
   rw[JW] at h3
   obtain⟨s0,e0,z0⟩:=yh underlying9 h0 (fun m h=>hf m (hm m (m0 m h)))
   obtain⟨i1,e1,_,_⟩:=DataW.trod_int underlying3 h1
   obtain⟨i2,e2,_,_⟩:=DataW.trod_int underlying3 h2
   obtain⟨a3,n3,c3,L3,e3,hL3,hc3,hn3,hs3,hh3⟩:=ih n' (by omega) _ y3 h3 (fun m h=>hf m (hm m (m3 m h)))
   refine⟨b,o,ha,hb,s0,i1,i2,.slice a3 n3 c3,L3,⟨(hc 0 (by decide)).trans (xS e0),(hc 1 (by decide)).trans (xS e1),(hc 2 (by decide)).trans (xS e2),(hc 3 (by decide)).trans (xS e3)⟩,z0,?_⟩
   rcases hs3 with⟨rfl,rfl⟩|⟨b3,o3,rfl⟩
   ·cases L3 with
    | nil=>exact .inl ⟨⟨a3,rfl⟩,rfl⟩
    | cons=>simp[qg.length] at hL3
   ·exact .inr ⟨b3,o3,c3,by rw[hL3],by rw[hL3];exact hc3,by rw[hL3];exact hn3,hh3 b3 o3 rfl⟩
  have down:∀m,m<=len->∃L:qg,L.length=m/\∀b o,a=some ⟨b,o,none⟩->xE w.heap.size w b (o+(len-m)*4) L:=fun m=>by
   induction m with
   | zero=>exact fun _=>⟨.nil,rfl,fun _ _ _=>trivial⟩
   |succ m ihm=>
    intro hm
    obtain⟨L,hL,hh⟩:=ihm (by omega)
    obtain⟨b,o,ha,hb,nm,wd,at_,sv,subs,hr,hz,hs⟩:=each (len-(m+1)) (by omega)
    refine⟨.cons nm wd at_ sv subs L,by simp[qg.length,hL],fun b2 o2 ha2=>?_⟩
    rw[ha] at ha2
    cases ha2
    refine⟨hb,hr,hz,?_,hs⟩
    have:=hh b o ha
    rwa [show o+(len-m)*4=o+(len-(m+1))*4+4 by omega] at this
  obtain⟨L,hL,hh⟩:=down len (vL _)
  refine⟨a,len,cap,L,rfl,hL,hl,?_,hsh,fun b o ha=>by have:=hh b o ha;simpa using this⟩
  by_cases h0:0<len
  ·obtain⟨m,h1,h2⟩:=hw h0
   rw[qeo] at h2
   have:=hf m h1
   omega
  ·omega
structure Xf(w:World)(m:MV)(d:qz)(L:qg):Prop where
 same:m.name=d.name
 result:m.result=d.result
 slots:m.slots=d.slots
 nz:d.name.size<=140737488355328
 rz:d.result.size<=140737488355328
 regs:qld w m.regs.a m.regs.n m.regs.c L
 spot:m.regs.a=none∨∃b o,m.regs.a=some ⟨b,o,none⟩
 classes:qS w m.classes d.classes
 ops:jP w m.ops d.ops
 args:qG w m.args d.args
 saved:qG w m.saved d.saved
 fk:qjn d.classes
 fp:qjo d.ops
 fa:Kh d.args
 fs:Kh d.saved
theorem qhC{r:Reach}{b0:Nat}{v:Value}{dt:DataW H}{ps:List MemPlace}(hsp:∀b,sp b=true)(hval:Value.okWide prog w r b0 27 v)(h:DataW.Trod enc prog w base sp held 27 v dt ps)(hf:Xt prog 27 dt) :
 ∃ (m:MV) (d:qz) (L:qg),v=m.val/\Xf w m d L:=by
 unfold Value.okWide at hval
 rw[underlying27] at hval
 obtain⟨cv,rfl,hcs,ts,hts,_,hrow⟩:=hval
 obtain rfl:=Option.some.inj ((show prog.cellTypes prog.depth 27=some [9,22,23,24,25,9,25,3] by kernel_rfl).symm.trans hts)
 obtain⟨fuel,h⟩:=h
 obtain⟨n',_,hcl,hfl⟩:=yp underlying27 h
 rw[qcU] at hcl hcs
 obtain⟨y0,h0,m0⟩:=hfl 0 9 0 rfl
 obtain⟨y1,h1,m1⟩:=hfl 1 22 1 rfl
 obtain⟨y2,h2,m2⟩:=hfl 2 23 2 rfl
 obtain⟨y3,h3,m3⟩:=hfl 3 24 3 rfl
 obtain⟨y4,h4,m4⟩:=hfl 4 25 4 rfl
 obtain⟨y5,h5,m5⟩:=hfl 5 9 5 rfl
 obtain⟨y6,h6,m6⟩:=hfl 6 25 6 rfl
 obtain⟨y7,h7,m7⟩:=hfl 7 3 7 rfl
 rw[jp] at h0 h5
 rw[JW] at h1
 rw[KW] at h2
 rw[qem] at h3
 rw[ZQ] at h4 h6
 rw[Xv] at h7
 obtain⟨s0,e0,z0⟩:=yh underlying9 h0 (fun m h=>hf m (m0 m h))
 obtain⟨ra,rn,rc,L,e1,hL⟩:=qep hsp _ _ y1 h1 (fun m h=>hf m (m1 m h))
 obtain⟨s2,l2,e2,a2,z2⟩:=qaO hsp h2 (fun m h=>hf m (m2 m h))
 obtain⟨s3,l3,e3,a3,z3⟩:=qfO hsp h3 (fun m h=>hf m (m3 m h))
 obtain⟨s4,l4,e4,a4,z4⟩:=QT hsp h4 (fun m h=>hf m (m4 m h))
 obtain⟨s5,e5,z5⟩:=yh underlying9 h5 (fun m h=>hf m (m5 m h))
 obtain⟨s6,l6,e6,a6,z6⟩:=QT hsp h6 (fun m h=>hf m (m6 m h))
 obtain⟨i7,e7,_,_⟩:=DataW.trod_int underlying3 h7
 have g0:=xS e0
 have g1:=xS e1
 have g2:=xS e2
 have g3:=xS e3
 have g4:=xS e4
 have g5:=xS e5
 have g6:=xS e6
 have g7:=xS e7
 have hcv:cv=#[.string s0,.slice ra rn rc,.slice s2.a s2.n s2.c,.slice s3.a s3.n s3.c,.slice s4.a s4.n s4.c,.string s5,.slice s6.a s6.n s6.c,.int .i64 i7]:=by
  change cv.toList[_]?=_ at g0 g1 g2 g3 g4 g5 g6 g7
  apply Array.ext'
  have hlen:cv.toList.length=8:=by simpa using hcs
  refine List.ext_getElem? fun i=>?_
  match i with
  | 0=>exact g0
  | 1=>exact g1
  | 2=>exact g2
  | 3=>exact g3
  | 4=>exact g4
  | 5=>exact g5
  | 6=>exact g6
  | 7=>exact g7
  | i+8=>rw[List.getElem?_eq_none (by omega),List.getElem?_eq_none (by simp)]
 have hspot:ra=none∨∃b o,ra=some ⟨b,o,none⟩:=by
  cases ra with
  | none=>exact .inl rfl
  |some ad=>
   obtain⟨u,hu,hc⟩:=hrow 1 (.slice (some ad) rn rc) (by rw[hcv];rfl)
   obtain rfl:u=22:=(Option.some.inj hu).symm
   unfold Cell.okWide at hc
   rw[underlying22] at hc
   have hc2:Cell.ok prog w r b0 22 (.slice (some ad) rn rc):=hc
   unfold Cell.ok at hc2
   rw[underlying22] at hc2
   obtain⟨_,_,_,hs,_⟩:=hc2
   obtain⟨b,o,sp⟩:=ad
   obtain rfl:sp=none:=hs
   exact .inr ⟨b,o,rfl⟩
 exact⟨⟨s0,⟨ra,rn,rc⟩,s2,s3,s4,s5,s6,i7⟩,⟨s0,l2,l3,l4,s5,l6,i7⟩,L,by rw[hcv];rfl,⟨rfl,rfl,rfl,z0,z5,hL,hspot,a2,a3,a4,a6,z2,z3,z4,z6⟩⟩
end
end
section
open Go.RowKit
theorem xE.of{n₀:Nat}{W W':World}(hc:∀b j v,b<n₀->W.cell? ⟨b,j,none⟩=some v->W'.cell? ⟨b,j,none⟩=some v):∀ {L:qg} {b o:Nat},xE n₀ W b o L->xE n₀ W' b o L
 | .nil,_,_,_=>trivial
 | .cons _ _ _ _ _ _,b,_,⟨h1,h2,h3,h4,h5⟩=>⟨h1,Xm h2 (fun j v hv=>hc b j v h1 hv),h3,xE.of hc h4,
    h5.imp id fun⟨b',o',c',e1,e2,e3,e4⟩=>⟨b',o',c',e1,e2,e3,xE.of hc e4⟩⟩
def zm:qg->Nat->Nat->Nat
 | .nil,_,n=>n
 | .cons nm _ _ _ subs rest,dp,n=>if 5000<n then n else if dp=0 then 5001 else zm rest dp (n+nm.size/8+zm subs (dp-1) subs.length)
theorem qbE(nm:ByteArray)(wd at_:Int)(sv:Value)(subs rest:qg)(dp n:Nat):zm (.cons nm wd at_ sv subs rest) dp n=if 5000<n then n else if dp=0 then 5001 else zm rest dp (n+nm.size/8+zm subs (dp-1) subs.length):=rfl
theorem QU{n₀:Nat}{W:World} : ∀ {L:qg} {b o dp n:Nat},xE n₀ W b o L->n<=(dp+1)*281474976710656->zm L dp n<=(dp+1)*281474976710656
 | .nil,_,_,_,_,_,h=>h
 |.cons nm _ _ _ subs rest,b,o,dp,n,⟨_,_,h3,h4,h5⟩,h=>by
  unfold zm
  split
  ·exact h
  ·split
   ·omega
   ·rename_i h6 h7
    obtain⟨d,rfl⟩:∃d,dp=d+1:=⟨dp-1,by omega⟩
    have hs:zm subs d subs.length<=(d+1)*281474976710656:=by
     rcases h5 with⟨_,rfl⟩|⟨b',o',c',_,_,e3,e4⟩
     ·simp[zm,qg.length]
     ·exact QU e4 (by omega)
    rw[show d+1-1=d from rfl]
    exact QU h4 (by omega)
theorem Xw:∀ (L:qg) (dp n:Nat),zm L dp n<=5000->n<=zm L dp n
 | .nil,_,_,_=>vL _
 |.cons nm _ _ _ subs rest,dp,n,h=>by
  unfold zm at h ⊢
  split
  ·exact vL _
  ·rename_i h6
   rw[if_neg h6] at h
   split
   ·omega
   ·rename_i h7
    rw[if_neg h7] at h
    have:=Xw rest dp _ h
    omega
theorem QE{n₀:Nat}{W:World} : ∀ {L:qg} {b o dp n:Nat},xE n₀ W b o L->zm L dp n<=5000->qB n₀ W b o L
 | .nil,_,_,_,_,_,_=>trivial
 |.cons nm _ _ _ subs rest,b,o,dp,n,⟨h1,h2,h3,h4,h5⟩,h=>by
  unfold zm at h
  split at h
  ·omega
  ·split at h
   ·omega
   ·have hge:=Xw rest dp _ h
    refine⟨h1,h2,QE h4 h,?_⟩
    rcases h5 with⟨ha,hn⟩|⟨b',o',c',e1,e2,_,e4⟩
    ·exact .inl ⟨ha,hn⟩
    ·have hs:zm subs (dp-1) subs.length<=5000:=by omega
     have:=Xw subs (dp-1) _ hs
     exact .inr ⟨b',o',c',e1,e2,by omega,QE e4 hs⟩
theorem qkz(n₀:Nat):∀ (dp:Nat),dp<=30->∀ (a:Option Addr) (c:Nat) (L:qg) (w:World),n₀<=w.heap.size->L.length<=c->L.length<=140737488355328->(L = .nil∨∃b o,a=some ⟨b,o,none⟩/\xE n₀ w b o L) ->
 Calls prog 18 #[.slice a L.length c,.int .i64 dp] w fun e w'=>e = .returned (.int .i64 (zm L dp L.length))/\∃m,w'=w.drewN m:=by
 intro dp
 induction dp with
 |zero=>
  intro _ a c L w hn₀ hc hbig hL
  cases L with
  |nil=>
   clear hL
   go_enter func18,ntmps18
   go_wp2_with fail
   refine wp_loop_rounds 1 ?_
   rw[rounds_succ]
   go_wp2_with fail
   go_ret
   exact⟨rfl,0,rfl⟩
  |cons nm wd at_ sv subs rest=>
   obtain⟨n,hn⟩:∃n,n=(qg.cons nm wd at_ sv subs rest).length:=⟨_,rfl⟩
   have hn1:0<n:=by rw[hn];simp[qg.length]
   have hn2:(0:Int)<n:=by omega
   rw[←hn] at hc hbig ⊢
   have hr:Hid (zm (qg.cons nm wd at_ sv subs rest) 0 n=if 5000<n then n else 5001):=vH (by unfold zm;simp)
   generalize zm (qg.cons nm wd at_ sv subs rest) 0 n=z at *
   clear hL hn
   by_cases h5:(5000:Int)<n
   ·have hz:Hid (z=n):=vH (by rw[hr.out,if_pos (by omega)])
    clear hr
    go_enter func18,ntmps18
    go_wp2_with fail
    refine wp_loop_rounds 1 ?_
    rw[rounds_succ]
    go_wp2_with fail
    go_ret
    exact⟨qI (by rw[hz.out]),0,rfl⟩
   ·have hz:Hid (z=5001):=vH (by rw[hr.out,if_neg (by omega)])
    clear hr
    go_enter func18,ntmps18
    go_wp2_with fail
    refine wp_loop_rounds 1 ?_
    rw[rounds_succ]
    go_wp2_with fail
    go_ret
    exact⟨qI (by rw[hz.out];rfl),0,rfl⟩
 |succ dp ih=>
  intro hdp a c L w hn₀ hc hbig hL
  obtain⟨z,hz⟩:∃z,z=zm L (dp+1) L.length:=⟨_,rfl⟩
  rw[←hz]
  obtain⟨n,hn⟩:∃n,n=L.length:=⟨_,rfl⟩
  rw[←hn] at hc hbig ⊢
  have hI:Hid (∃ (k:Nat) (rest:qg),k=0/\rest.length+k=n/\(rest = .nil∨∃b o,a=some ⟨b,o,none⟩/\xE n₀ w b (o+k*4) rest)/\z=zm rest (dp+1) n):=vH ⟨0,L,rfl,by omega,by simpa using hL,by rw[hz,hn]⟩
  replace ih:=vH (ih (by omega))
  have hdpi:(dp:Int)<=29:=by omega
  clear hL hz hn
  go_enter func18,ntmps18
  go_wp2_with fail
  go_loopw [5,6] (fun v i wr=>∃ (k m:Nat) (rest:qg),k<=n/\i = .int .i64 k/\v = .int .i64 m/\Hid (rest.length+k=n)/\Hid (rest = .nil∨∃b o,a=some ⟨b,o,none⟩/\xE n₀ w b (o+k*4) rest)/\Hid (z=zm rest (dp+1) m)/\m<=(dp+2)*281474976710656/\Hid (∃q,wr=w.drewN q)) (fun _ i _=>n-(intOf i).toNat)
  case atStart=>
   obtain⟨k,rest,rfl,h1,h2,h3⟩:=hI.out
   exact⟨0,n,rest,vO _,rfl,rfl,vH h1,vH h2,vH h3,by omega,vH ⟨0,rfl⟩⟩
  case round=>
   obtain⟨k,m,rest,hk,rfl,rfl,hlen,hold,hsz,hm,hq⟩:=hrel
   clear hI
   cases rest with
   |nil=>
    have hkn:¬ k<n:=by have:=hlen.out;simp only[qg.length] at this;omega
    have hfin:Hid (∃q,wr=w.drewN q):=hq
    have hz2:Hid (z=m):=vH hsz.out
    clear hlen hold hsz hq
    go_wp2_with fail
    go_ret
    exact⟨qI (by rw[hz2.out]),hfin.out⟩
   |cons nm wd at_ sv subs rest=>
    have hkn:k<n:=by have:=hlen.out;simp only[qg.length] at this;omega
    by_cases h5:(5000:Int)<m
    ·have hz2:Hid (z=m):=vH (by rw[hsz.out];unfold zm;rw[if_pos (by omega)])
     clear hlen hold hsz
     go_wp2_with fail
     go_ret
     exact⟨qI (by rw[hz2.out]),hq.out⟩
    ·rcases hold.out with h|⟨b,o,rfl,hh⟩
     ·cases h
     ·have hb:BX w wr:=by obtain⟨q,hq⟩:=hq.out;rw[hq];exact below_drewN (kB _ _) q
      obtain⟨hb1,⟨e0,e1,e2,e3⟩,hnz,hrest,hsub⟩:=hh
      have e0:=qb hb e0
      have e3:=qb hb e3
      clear e1 e2
      obtain⟨sa,sc,hsv,hs1,hs2,hs3⟩:∃sa sc,sv = .slice sa subs.length sc/\subs.length<=sc/\subs.length<=140737488355328/\(subs = .nil∨∃b o,sa=some ⟨b,o,none⟩/\xE n₀ w b o subs):=by
       rcases hsub with⟨⟨sa,rfl⟩,rfl⟩|⟨b',o',c',rfl,g1,g2,g3⟩
       ·exact⟨sa,0,rfl,vL _,vO _,.inl rfl⟩
       ·exact⟨_,c',rfl,g1,g2,.inr ⟨b',o',rfl,g3⟩⟩
      subst hsv
      obtain⟨y,hy⟩:∃y,y=zm subs dp subs.length:=⟨_,rfl⟩
      have hyb:y<=(dp+1)*281474976710656:=by
       rw[hy]
       rcases hs3 with rfl|⟨b',o',_,g3⟩
       ·simp[zm,qg.length]
       ·exact QU g3 (by omega)
      have K:∀q',Calls prog 18 #[.slice sa subs.length sc,.int .i64 dp] (wr.drewN q') fun e w'=>e = .returned (.int .i64 y)/\∃m,w'=(wr.drewN q').drewN m:=fun q'=>by
       rw[hy]
       have hb2:=below_drewN hb q'
       exact ih.out sa sc subs (wr.drewN q') (vR hn₀ hb2.size) hs1 hs2 (hs3.imp id fun⟨b',o',g1,g2⟩=>⟨b',o',g1,xE.of (fun b j v hb hv=>qb hb2 hv) g2⟩)
      obtain⟨x,hx⟩:∃x:Nat,x=nm.size/8:=⟨_,rfl⟩
      have hxb:x<=17592186044416:=by omega
      have hx1:((nm.size:Int))/8=x:=by omega
      have hx2:IntKind.i64.wrap ((nm.size:Int).tdiv 8)=x:=by rw[Int.tdiv_eq_ediv_of_nonneg (by omega),hx1];exact vI _ (by omega)
      have hx3:IntKind.i64.wrap ((m:Int)+x)=(m:Int)+x:=vI _ (by omega)
      have hx4:IntKind.i64.wrap ((m:Int)+x+y)=(m:Int)+x+y:=vI _ (by omega)
      have hx5:IntKind.i64.wrap (((dp+1:Nat):Int)-1)=dp:=by rw[vI _ (by omega)];omega
      have hz2:Hid (z=zm rest (dp+1) (m+x+y)):=vH (by rw[hsz.out,qbE,if_neg (show ¬ 5000<m by omega),if_neg (Nat.succ_ne_zero dp),hx,hy];rfl)
      have hrest2:Hid (rest = .nil∨∃b' o',some (⟨b,o,none⟩:Addr)=some ⟨b',o',none⟩/\xE n₀ w b' (o'+(k+1)*4) rest):=vH (.inr ⟨b,o,rfl,by rwa [show o+(k+1)*4=o+k*4+4 by omega]⟩)
      have hlen2:Hid (rest.length+(k+1)=n):=vH (by have:=hlen.out;simp only[qg.length] at this;omega)
      replace hx1:=vH hx1
      replace hx:=vH hx
      replace hy:=vH hy
      have hkn2:(k:Int)<n:=by omega
      generalize subs.length=sl at *
      clear hlen hold hsz hs1 hs2 hs3 hsub hrest
      go_upto_region 7 with fail
      go_quiet ((go_at_call 18;exact Calls.quiet_of (K _)))
      go_wp2_with fail
      go_round
      case rel=>
       have hx1:=hx1.out
       refine⟨k+1,m+x+y,rest,by omega,by go_num,by go_num,hlen2,hrest2,hz2,by omega,?_⟩
       obtain⟨q,hq⟩:=hq.out
       exact vH ⟨_,by rw[hq,World.drewN_drewN]⟩
      case measure=>simp[intOf];omega
end
section
open Go.RowKit
def Nb0(w:World)(a:Option Addr)(d:qz)(L:qg):Prop:=(∀b o,a=some ⟨b,o,none⟩->qB w.heap.size w b o L)/\d.args.length<=5000/\d.saved.length<=5000
def Nb1(w:World)(a:Option Addr)(d:qz)(L:qg):Prop:=Nb0 w a d L/\d.classes.length<=5000/\∀x:qp,x∈d.classes->x.regs.length<=5000
def Nb2(w:World)(a:Option Addr)(d:qz)(L:qg):Prop:=Nb1 w a d L/\d.ops.length<=5000/\∀x:OpD,x∈d.ops->x.clob.length<=5000/\x.uses.length<=5000
def qkA(w:World)(a:Option Addr)(d:qz)(L:qg)(e:Ending)(w':World):Prop:=∃g:Bool,e = .returned (.bool g)/\(g=false->Nb2 w a d L)/\BX w w'
theorem w64(n:Int)(h:0<=n/\n<=4611686018427387904):wrap64 n=n:=by
 have h1:=vI n (by omega)
 rw[IntKind.wrap_i64] at h1
 unfold wrap64
 exact h1
theorem qhD(s:Nat)(h:s<=281474976710656):∃x:Nat,x<=35184372088832/\Hid ((s:Int)/8=x)/\IntKind.i64.wrap ((s:Int).tdiv 8)=x:=by
 have h1:(s:Int)/8=(s/8:Nat):=by omega
 exact⟨s/8,by omega,vH h1,by rw[Int.tdiv_eq_ediv_of_nonneg (by omega),h1];exact vI _ (by omega)⟩
theorem qlq{w:World}{m:MV}{d:qz}{L:qg}(h:Xf w m d L) :
 Calls prog 5 #[m.val] w (qkA w m.regs.a d L):=by
 obtain⟨mn,⟨ra,rn,rc⟩,⟨ka,kn,kc⟩,⟨oa,on,oc⟩,ar,rs,sv,sl⟩:=m
 obtain⟨hL1,hL2,hL3,hL4,hL5⟩:=h.regs
 have hsame:=h.same
 have hresult:=h.result
 have hK:=h.classes
 have hO:=h.ops
 dsimp only at hL1 hL2 hL3 hL4 hL5 hsame hresult hK hO ⊢
 have hkn:=hK.1
 have hkc:=hK.2.1
 have hon:=hO.1
 have hoc:=hO.2.1
 dsimp only at hkn hkc hon hoc
 have hnz:=h.nz
 have hrz:=h.rz
 rw[←hsame] at hnz
 rw[←hresult] at hrz
 show Calls prog 5 #[.agg #[.string mn,.slice ra rn rc,.slice ka kn kc,.slice oa on oc,.slice ar.a ar.n ar.c,.string rs,.slice sv.a sv.n sv.c,.int .i64 sl]] w _
 obtain⟨W0,hW0⟩:∃W0,W0=w.alloc (.cells #[.string mn,.slice ra rn rc,.slice ka kn kc,.slice oa on oc,.slice ar.a ar.n ar.c,.string rs,.slice sv.a sv.n sv.c,.int .i64 sl] 27):=⟨_,rfl⟩
 have hb0:BX w W0:=by rw[hW0];exact qi
 have hbx:qd W0 w.heap.size 27 #[.string mn,.slice ra rn rc,.slice ka kn kc,.slice oa on oc,.slice ar.a ar.n ar.c,.string rs,.slice sv.a sv.n sv.c,.int .i64 sl]:=by rw[hW0];exact qd.new _ _ _
 have hold:L = .nil∨∃b o,ra=some ⟨b,o,none⟩/\xE w.heap.size w b o L:=by
  rcases hL4 with⟨h0,_⟩|⟨b,o,hb⟩
  ·cases L with
   | nil=>exact .inl rfl
   | cons=>simp[qg.length] at hL1;omega
  ·exact .inr ⟨b,o,hb,hL5 b o hb⟩
 obtain⟨S,hS⟩:∃S,S=zm L 30 L.length:=⟨_,rfl⟩
 obtain⟨A,hA⟩:∃A,A=xU d.args d.args.length:=⟨_,rfl⟩
 obtain⟨V,hV⟩:∃V,V=xU d.saved d.saved.length:=⟨_,rfl⟩
 have hSb:S<=31*281474976710656:=by
  rw[hS]
  rcases hold with rfl|⟨b,o,_,hh⟩
  ·simp[zm,qg.length]
  ·exact QU hh (by omega)
 have hAb:A<=281474976710656:=by rw[hA];exact yV h.fa.2 (by have:=h.fa.1;omega)
 have hVb:V<=281474976710656:=by rw[hV];exact yV h.fs.2 (by have:=h.fs.1;omega)
 have KS:∀n,Calls prog 18 #[.slice ra rn rc,.int .i64 30] (W0.drewN n) fun e w'=>e = .returned (.int .i64 S)/\∃m,w'=(W0.drewN n).drewN m:=fun n=>by
  have hb:=below_drewN hb0 n
  have:=qkz w.heap.size 30 (vL _) ra rc L (W0.drewN n) hb.size (by omega) (by omega) (hold.imp id fun⟨b,o,g1,g2⟩=>⟨b,o,g1,xE.of (fun b j v hbb hv=>qb hb hv) g2⟩)
  rw[←hS,hL1] at this
  exact this
 have KA:∀n,Calls prog 19 #[.slice ar.a ar.n ar.c] (W0.drewN n) fun e w'=>e = .returned (.int .i64 A)/\w'=W0.drewN n:=fun n=>by
  have:=qag ar d.args (W0.drewN n) (h.args.below (below_drewN hb0 n)) h.fa
  rwa [←hA] at this
 have KV:∀n,Calls prog 19 #[.slice sv.a sv.n sv.c] (W0.drewN n) fun e w'=>e = .returned (.int .i64 V)/\w'=W0.drewN n:=fun n=>by
  have:=qag sv d.saved (W0.drewN n) (h.saved.below (below_drewN hb0 n)) h.fs
  rwa [←hV] at this
 obtain⟨x,hxb,hx1,hx2⟩:=qhD mn.size (by omega)
 obtain⟨y,hyb,hy1,hy2⟩:=qhD rs.size (by omega)
 have s1:IntKind.i64.wrap ((S:Int)+A)=(S:Int)+A:=vI _ (by omega)
 have s2:IntKind.i64.wrap ((S:Int)+A+V)=(S:Int)+A+V:=vI _ (by omega)
 have s3:IntKind.i64.wrap ((S:Int)+A+V+x)=(S:Int)+A+V+x:=vI _ (by omega)
 have s4:IntKind.i64.wrap ((S:Int)+A+V+x+y)=(S:Int)+A+V+x+y:=vI _ (by omega)
 have hG0:S+A+V+x+y<=5000->Nb0 w ra d L:=fun hle=>by
  have h1:=yU d.args d.args.length
  have h2:=yU d.saved d.saved.length
  refine⟨fun b o hb=>?_,by omega,by omega⟩
  exact QE (hL5 b o hb) (dp:=30) (n:=L.length) (by omega)
 have x0:=hbx.cell (j:=0) (v:=.string mn) rfl
 have x1:=hbx.cell (j:=1) (v:=.slice ra rn rc) rfl
 have x2:=hbx.cell (j:=2) (v:=.slice ka kn kc) rfl
 have x3:=hbx.cell (j:=3) (v:=.slice oa on oc) rfl
 have x4:=hbx.cell (j:=4) (v:=.slice ar.a ar.n ar.c) rfl
 have x5:=hbx.cell (j:=5) (v:=.string rs) rfl
 have x6:=hbx.cell (j:=6) (v:=.slice sv.a sv.n sv.c) rfl
 have hkl:kn<=140737488355328:=by have:=h.fk.1;omega
 have hol:on<=140737488355328:=by have:=h.fp.1;omega
 have hfk:=h.fk.2
 have hfp:=h.fp.2
 have hK0:=hK.below hb0
 have hO0:=hO.below hb0
 replace hG0:=vH hG0
 replace hK0:=vH hK0
 replace hO0:=vH hO0
 replace hfk:=vH hfk
 replace hfp:=vH hfp
 replace hkn:=vH hkn
 replace hon:=vH hon
 replace hb0:=vH hb0
 replace hW0:=vH hW0
 clear hL1 hL2 hL3 hL4 hL5 hold hS hA hV hsame hresult hK hO h hnz hrz
 go_enter func5,ntmps5
 go_upto_region 1 with fail
 rw[←hW0.out]
 go_quiet ((first
  |(go_at_call 18;exact Calls.quiet_of (KS _))
  |(go_at_call 19;first|with_reducible exact Calls.quiet_of_same (KA _)|with_reducible exact Calls.quiet_of_same (KV _))))
 go_wp2_with fail
 go_loopw [3,4] (fun v i W=>∃ (k n:Nat),k<=kn/\i = .int .i64 k/\v = .int .i64 n/\n<=36028797018963968/\Hid (n<=5000->Nb0 w ra d L/\k<=n/\∀ (j:Nat) (x:qp),j<k->d.classes[j]?=some x->x.regs.length<=5000)/\BX W0 W) (fun _ i _=>kn-(intOf i).toNat)
 case atStart=>
  have hx1:=hx1.out
  have hy1:=hy1.out
  exact⟨0,S+A+V+x+y,vO _,rfl,by refine congrArg (Value.int .i64) ?_;rw[hx1,hy1,w64 (x:Int) (by omega),w64 (y:Int) (by omega),w64 ((S:Int)+A+V+x) (by omega),w64 ((S:Int)+A+V+x+y) (by omega)];omega,by omega,vH fun hle=>⟨hG0.out hle,vO _,fun j x hj=>absurd hj (Nat.not_lt_zero _)⟩,below_drewN (kB _ _) _⟩
 case round=>
  obtain⟨k,n,hk,rfl,rfl,hn,hG,hB⟩:=hrel
  have k0:(0:Int)<=k:=vN _
  have y2:=qb hB x2
  clear KS KA KV s1 s2 s3 s4 hx1 hx2 hy1 hy2 hG0 x0 x1 x4 x5 x6
  rcases(show(k<kn/\(n:Int)<=5000)∨(k<kn/\¬ (n:Int)<=5000/\Hid (n<=5000->Nb1 w ra d L))∨(¬ k<kn/\Hid (n<=5000->Nb1 w ra d L)) by
   by_cases h1:k<kn
   ·by_cases h2:(n:Int)<=5000
    ·exact .inl ⟨h1,h2⟩
    ·exact .inr (.inl ⟨h1,h2,vH fun h3=>absurd h3 (by omega)⟩)
   ·refine .inr (.inr ⟨h1,vH fun h3=>?_⟩)
    obtain⟨g1,g2,g3⟩:=hG.out h3
    have:=hkn.out
    refine⟨g1,by omega,fun x hx=>?_⟩
    obtain⟨j,hj⟩:=List.getElem?_of_mem hx
    exact g3 j x (by have:=(vS.1 hj).1;omega) hj) with⟨hlt,h5⟩|⟨hlt,h5,hG1⟩|⟨hlt,hG1⟩
  ·obtain⟨x,hx⟩:∃x,d.classes[k]?=some x:=⟨d.classes[k]'(by have:=hkn.out;omega),vE _⟩
   obtain⟨b,o,hka,r,hc0,hc1,hcr⟩:=hK0.out.2.2 k x hx
   dsimp only at hka
   obtain⟨hxz,hxf⟩:=hfk.out x (vM hx)
   have e0:=qb hB hc0
   have e1:=qb hB hc1
   obtain⟨z,hz⟩:∃z,z=xU x.regs x.regs.length:=⟨_,rfl⟩
   have hzb:z<=281474976710656:=by rw[hz];exact yV hxf.2 (by have:=hxf.1;omega)
   have hzg:x.regs.length<=z:=by rw[hz];exact yU _ _
   have KL:∀q,Calls prog 19 #[.slice r.a r.n r.c] (wr.drewN q) fun e w'=>e = .returned (.int .i64 z)/\w'=wr.drewN q:=fun q=>by
    have:=qag r x.regs (wr.drewN q) (hcr.below (below_drewN hB q)) hxf
    rwa [←hz] at this
   obtain⟨q,hqb,hq1,hq2⟩:=qhD x.name.size (by omega)
   have s1:IntKind.i64.wrap ((n:Int)+1)=(n:Int)+1:=vI _ (by omega)
   have s2:IntKind.i64.wrap ((n:Int)+1+z)=(n:Int)+1+z:=vI _ (by omega)
   have s3:IntKind.i64.wrap ((n:Int)+1+z+q)=(n:Int)+1+z+q:=vI _ (by omega)
   have hG2:Hid (n+1+z+q<=5000->Nb0 w ra d L/\k+1<=n+1+z+q/\∀ (j:Nat) (x:qp),j<k+1->d.classes[j]?=some x->x.regs.length<=5000):=vH fun hle=>by
    obtain⟨g1,g2,g3⟩:=hG.out (by omega)
    refine⟨g1,by omega,fun j y hj hy=>?_⟩
    by_cases hjk:j<k
    ·exact g3 j y hjk hy
    ·obtain rfl:j=k:=by omega
     rw[hx] at hy;cases hy
     omega
   have hlt2:(k:Int)<kn:=by omega
   subst hka
   replace hx:=vH hx
   replace hz:=vH hz
   clear hG hc0 hc1 hcr hzg
   go_upto_region 5 with fail
   go_quiet ((go_at_call 19;exact Calls.quiet_of_same (KL _)))
   go_wp2_with fail
   have hq1:=hq1.out
   exact⟨⟨k+1,n+1+z+q,by omega,by go_num,by go_num,by omega,hG2,below_drewN hB _⟩,by simp[intOf];omega⟩
  all_goals
   obtain⟨w1,rfl⟩:∃w1:World,w1=wr:=⟨_,rfl⟩
   clear hG
   go_wp2_with fail
   go_loopw [3,5] (fun v i W=>∃ (k n:Nat),k<=on/\i = .int .i64 k/\v = .int .i64 n/\n<=36028797018963968/\Hid (n<=5000->Nb1 w ra d L/\k<=n/\∀ (j:Nat) (x:OpD),j<k->d.ops[j]?=some x->x.clob.length<=5000/\x.uses.length<=5000)/\BX W0 W) (fun _ i _=>on-(intOf i).toNat)
   case atStart=>exact⟨0,n,vO _,rfl,rfl,hn,vH fun hle=>⟨hG1.out hle,vO _,fun j x hj=>absurd hj (Nat.not_lt_zero _)⟩,hB⟩
   case round=>
    obtain⟨k,n,hk,rfl,rfl,hn,hG,hB⟩:=hrel
    have k0:(0:Int)<=k:=vN _
    have y3:=qb hB x3
    clear hG1
    rcases(show(k<on/\(n:Int)<=5000)∨(k<on/\¬ (n:Int)<=5000/\Hid (n<=5000->Nb2 w ra d L))∨(¬ k<on/\Hid (n<=5000->Nb2 w ra d L)) by
     by_cases h1:k<on
     ·by_cases h2:(n:Int)<=5000
      ·exact .inl ⟨h1,h2⟩
      ·exact .inr (.inl ⟨h1,h2,vH fun h3=>absurd h3 (by omega)⟩)
     ·refine .inr (.inr ⟨h1,vH fun h3=>?_⟩)
      obtain⟨g1,g2,g3⟩:=hG.out h3
      have:=hon.out
      refine⟨g1,by omega,fun x hx=>?_⟩
      obtain⟨j,hj⟩:=List.getElem?_of_mem hx
      exact g3 j x (by have:=(vS.1 hj).1;omega) hj) with⟨hlt,h5⟩|⟨hlt,h5,hG2⟩|⟨hlt,hG2⟩
    ·obtain⟨x,hx⟩:∃x,d.ops[k]?=some x:=⟨d.ops[k]'(by have:=hon.out;omega),vE _⟩
     obtain⟨b,o,hoa,u,kk,hc0,hc1,hc2,hc3,hc4,hc5,hcu,hck⟩:=hO0.out.2.2 k x hx
     dsimp only at hoa
     obtain⟨hxz,hxd,hxf,hxu,hxc⟩:=hfp.out x (vM hx)
     obtain⟨ua,un,uc⟩:=u
     have hun:=hcu.1
     have huc:=hcu.2.1
     dsimp only at hun huc hc3
     subst hun
     have e0:=qb hB hc0
     have e1:=qb hB hc1
     have e2:=qb hB hc2
     have e3:=qb hB hc3
     have e4:=qb hB hc4
     have e5:=qb hB hc5
     obtain⟨W2,hW2⟩:∃W2,W2=wr.alloc (.cells #[.string x.name,.string x.d.cls,.string x.d.fix,.slice ua x.uses.length uc,.int .i64 x.tie,.slice kk.a kk.n kk.c] 47):=⟨_,rfl⟩
     have hb2:BX wr W2:=by rw[hW2];exact qi
     have hbx2:qd W2 wr.heap.size 47 #[.string x.name,.string x.d.cls,.string x.d.fix,.slice ua x.uses.length uc,.int .i64 x.tie,.slice kk.a kk.n kk.c]:=by rw[hW2];exact qd.new _ _ _
     have hB2:BX W0 W2:=hB.trans (hb2.mono hB.size)
     obtain⟨z,hz⟩:∃z,z=xU x.clob x.clob.length:=⟨_,rfl⟩
     have hzb:z<=281474976710656:=by rw[hz];exact yV hxc.2 (by have:=hxc.1;omega)
     have hzg:x.clob.length<=z:=by rw[hz];exact yU _ _
     have KL:∀q,Calls prog 19 #[.slice kk.a kk.n kk.c] (W2.drewN q) fun e w'=>e = .returned (.int .i64 z)/\w'=W2.drewN q:=fun q=>by
      have:=qag kk x.clob (W2.drewN q) (hck.below (below_drewN hB2 q)) hxc
      rwa [←hz] at this
     have hcu2:=hcu.below hB2
     have hul:=hxu.1
     obtain⟨q,hqb,hq1,hq2⟩:=qhD x.name.size (by omega)
     obtain⟨r,hrb,hr1,hr2⟩:=qhD (x.d.cls.size+x.d.fix.size) (by omega)
     rw[Int.natCast_add] at hr1 hr2
     have s0:IntKind.i64.wrap ((x.d.cls.size:Int)+x.d.fix.size)=(x.d.cls.size:Int)+x.d.fix.size:=vI _ (by omega)
     have s1:IntKind.i64.wrap ((n:Int)+2)=(n:Int)+2:=vI _ (by omega)
     have s2:IntKind.i64.wrap ((n:Int)+2+z)=(n:Int)+2+z:=vI _ (by omega)
     have s3:IntKind.i64.wrap ((n:Int)+2+z+q)=(n:Int)+2+z+q:=vI _ (by omega)
     have s4:IntKind.i64.wrap ((n:Int)+2+z+q+r)=(n:Int)+2+z+q+r:=vI _ (by omega)
     have s5:IntKind.i64.wrap ((n:Int)+2+z+q+r+x.uses.length)=(n:Int)+2+z+q+r+x.uses.length:=vI _ (by omega)
     have hG3:Hid (∀n':Nat,n+2+z+q+r+x.uses.length<=n'->n'<=5000->Nb1 w ra d L/\k+1<=n'/\∀ (j:Nat) (x:OpD),j<k+1->d.ops[j]?=some x->x.clob.length<=5000/\x.uses.length<=5000):=vH fun n' hle hle2=>by
      obtain⟨g1,g2,g3⟩:=hG.out (by omega)
      refine⟨g1,by omega,fun j y hj hy=>?_⟩
      by_cases hjk:j<k
      ·exact g3 j y hjk hy
      ·obtain rfl:j=k:=by omega
       rw[hx] at hy;cases hy
       exact⟨by omega,by omega⟩
     have x0:=hbx2.cell (j:=0) (v:=.string x.name) rfl
     have x1:=hbx2.cell (j:=1) (v:=.string x.d.cls) rfl
     have x2':=hbx2.cell (j:=2) (v:=.string x.d.fix) rfl
     have x3':=hbx2.cell (j:=3) (v:=.slice ua x.uses.length uc) rfl
     have x5:=hbx2.cell (j:=5) (v:=.slice kk.a kk.n kk.c) rfl
     have hlt2:(k:Int)<on:=by omega
     subst hoa
     replace hx:=vH hx
     replace hz:=vH hz
     replace hcu2:=vH hcu2
     replace hxu:=vH hxu
     replace hW2:=vH hW2
     clear hG hc0 hc1 hc2 hc3 hc4 hc5 hcu hck hzg
     obtain⟨w4,rfl⟩:∃w4:World,w4=wr:=⟨_,rfl⟩
     go_upto_region 10 with fail
     rw[←hW2.out]
     go_quiet ((go_at_call 19;exact Calls.quiet_of_same (KL _)))
     go_wp2_with fail
     go_loopw [3,7] (fun v i W=>∃ (j n':Nat),j<=x.uses.length/\i = .int .i64 j/\v = .int .i64 n'/\n'<=36028797018963968/\n+2+z+q+r+x.uses.length<=n'/\BX W2 W) (fun _ i _=>x.uses.length-(intOf i).toNat)
     case atStart=>
      have hq1:=hq1.out
      have hr1:=hr1.out
      exact⟨0,n+2+z+q+r+x.uses.length,vO _,rfl,by go_num,by omega,vL _,below_drewN (kB _ _) _⟩
     case round=>
      obtain⟨j,n',hj,rfl,rfl,hn',hle,hB4⟩:=hrel
      have j0:(0:Int)<=j:=vN _
      have z3:=qb hB4 x3'
      have hB5:BX W0 wr:=hB2.trans (hB4.mono hB2.size)
      by_cases hjl:j<x.uses.length
      ·by_cases h6:(n':Int)<=5000
       ·obtain⟨v,hv⟩:∃v,x.uses[j]?=some v:=⟨x.uses[j],vE hjl⟩
        obtain⟨bu,ou,hua,v0,v1⟩:=hcu2.out.2.2 j v hv
        dsimp only at hua
        obtain⟨hv1,hv2⟩:=hxu.out.2 v (vM hv)
        have f0:=qb hB4 v0
        have f1:=qb hB4 v1
        obtain⟨t,htb,ht1,ht2⟩:=qhD (v.cls.size+v.fix.size) (by omega)
        rw[Int.natCast_add] at ht1 ht2
        have s6:IntKind.i64.wrap ((v.cls.size:Int)+v.fix.size)=(v.cls.size:Int)+v.fix.size:=vI _ (by omega)
        have s7:IntKind.i64.wrap ((n':Int)+t)=(n':Int)+t:=vI _ (by omega)
        have hjl2:(j:Int)<x.uses.length:=by omega
        subst hua
        replace hv:=vH hv
        clear v0 v1 s0 s1 s2 s3 s4 s5 hq2 hr2 KL
        go_upto_region 14 with fail
        go_quiet (fail)
        go_wp2_with fail
        have ht1:=ht1.out
        exact⟨⟨j+1,n'+t,by omega,by go_num,by go_num,by omega,by omega,below_drewN hB4 _⟩,by simp[intOf];omega⟩
       ·have hG4:=vH (hG3.out n' hle)
        clear s0 s1 s2 s3 s4 s5 hq2 hr2 KL hG3
        go_wp2_with fail
        exact⟨⟨k+1,n',by omega,by go_num,rfl,hn',hG4,hB5⟩,by simp[intOf];omega⟩
      ·have hG4:=vH (hG3.out n' hle)
       clear s0 s1 s2 s3 s4 s5 hq2 hr2 KL hG3
       go_wp2_with fail
       exact⟨⟨k+1,n',by omega,by go_num,rfl,hn',hG4,hB5⟩,by simp[intOf];omega⟩
    all_goals
     have hend:=vH (hb0.out.trans (hB.mono hb0.out.size))
     clear hG
     by_cases h25:(2500:Int)<n
     ·go_wp2_with fail
      go_ret
      exact⟨true,rfl,fun h=>(by cases h),hend.out⟩
     ·first
       |(exfalso;omega)
       |(go_wp2_with fail
         go_ret
         exact⟨_,rfl,fun _=>hG2.out (by omega),hend.out⟩)
end
end Go.Proofs.YtomlgdnafeeeiaaGreatDoor
