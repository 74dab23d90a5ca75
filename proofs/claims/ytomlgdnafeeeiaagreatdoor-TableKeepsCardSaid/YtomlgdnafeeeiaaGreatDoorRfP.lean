
import Derived.Test.YtomlgdnafeeeiaaGreatDoorMdOne
/-
 The document's own checks of a machine,one by one,brought to the numbers by which `Check` answers (zV): text only,no program.
-/
namespace Go.Proofs.YtomlgdnafeeeiaaGreatDoor
open Go.RowKit
theorem qcl{α:Type}(p:α->Bool)(l:List α):(zM p l = -1/\∀x,x∈l->p x=false)∨∃ (k:Nat) (x:α),l[k]?=some x/\p x=true/\(∀ (j:Nat) (b:α),j<k->l[j]?=some b->p b=false)/\zM p l=(k:Int):=by
 unfold zM
 cases h:l.findIdx? p with
 | none=>exact .inl ⟨rfl,fun x hx=>by simpa using(List.findIdx?_eq_none_iff.1 h) x hx⟩
 |some k=>
  obtain⟨hk,hp,hj⟩:=List.findIdx?_eq_some_iff_getElem.1 h
  refine .inr ⟨k,l[k],vE hk,hp,fun j b hjk hb=>?_,rfl⟩
  obtain⟨hlt,rfl⟩:=vS.1 hb
  simpa using hj j hjk
theorem ZJ{α:Type}{p:α->Bool}{l:List α}{i:Nat}{x:α}(hx:l[i]?=some x)(hp:p x=true):zM p l<(i:Int)↔0<=zM p (l.take i):=by
 have hi:=(vS.1 hx).1
 rcases qcl p l with⟨h,hn⟩|⟨k,y,hk,hpy,hj,h⟩
 ·have:=hn x (vM hx);rw[hp] at this;cases this
 ·have hki:k<=i:=by
   rcases Nat.lt_or_ge i k with h1|h1
   ·have:=hj i x h1 hx;rw[hp] at this;cases this
   ·exact h1
  rw[h]
  by_cases hlt:k<i
  ·have:zM p (l.take i)=(k:Int):=qau (a:=y) (fun j hjk b hb=>hj j b hjk (by rw[List.getElem?_take_of_lt (by omega)] at hb;exact hb)) (by rw[List.getElem?_take_of_lt hlt];exact hk) hpy
   rw[this];omega
  ·have:zM p (l.take i) = -1:=Yq fun j b hb=>by
    have hjl:j<i:=by have:=(vS.1 hb).1;simp at this;omega
    rw[List.getElem?_take_of_lt hjl] at hb
    exact hj j b (by omega) hb
   rw[this];omega
theorem Za:∀ (l pre:List Int),qW pre l=false↔∀ (j:Nat) (x:Int),l[j]?=some x->(pre++l.take j).contains x=false
 | [],pre=>by simp[qW]
 |a::r,pre=>by
  unfold qW
  rw[Bool.or_eq_false_iff,Za r (pre++[a])]
  constructor
  ·rintro⟨h1,h2⟩ j x hj
   cases j with
   | zero=>simp only[List.getElem?_cons_zero,Option.some.injEq] at hj;subst hj;simpa using h1
   | succ j=>have:=h2 j x (by simpa using hj);simpa using this
  ·intro h
   refine⟨by simpa using h 0 a rfl,fun j x hj=>?_⟩
   have:=h (j+1) x (by simpa using hj)
   simpa using this
theorem Jh(ps:List Plc):∀ (l pre:List Int),xA ps pre l=true↔∀ (j:Nat) (x:Int),l[j]?=some x->zN ps x (pre++l.take j)=false
 | [],pre=>by simp[xA]
 |a::r,pre=>by
  unfold xA
  rw[Bool.and_eq_true,Jh ps r (pre++[a])]
  constructor
  ·rintro⟨h1,h2⟩ j x hj
   cases j with
   | zero=>simp only[List.getElem?_cons_zero,Option.some.injEq] at hj;subst hj;simpa using h1
   | succ j=>have:=h2 j x (by simpa using hj);simpa using this
  ·intro h
   refine⟨by simpa using h 0 a rfl,fun j x hj=>?_⟩
   have:=h (j+1) x (by simpa using hj)
   simpa using this
theorem QB{ns l:List ByteArray} : (qh ns l).contains (-1)=false↔∀x,x∈l->0<=qv ns x:=by
 unfold qh
 constructor
 ·intro h x hx
  have hr:=zO ns x
  rcases Int.lt_or_le (qv ns x) 0 with h1|h1
  ·have h2:(-1:Int)∈l.map (qv ns):=List.mem_map.2 ⟨x,hx,by omega⟩
   rw[List.contains_eq_mem,decide_eq_false_iff_not] at h
   exact absurd h2 h
  ·exact h1
 ·intro h
  rw[List.contains_eq_mem,decide_eq_false_iff_not]
  intro h2
  obtain⟨x,hx,he⟩:=List.mem_map.1 h2
  have:=h x hx
  omega
def JR(ns:List ByteArray)(ps:List Plc)(l:List ByteArray)(j:Nat)(x:ByteArray):Prop:=
 0<=qv ns x/\(qh ns (l.take j)).contains (qv ns x)=false/\(0<j->(plc ps (qv ns x)).2.2=(plc ps ((qh ns l).headD 0)).2.2)
theorem ym(ns l:List ByteArray)(j:Nat):qh ns (l.take j)=(qh ns l).take j:=by unfold qh;rw[List.map_take]
theorem Ji(ns:List ByteArray)(ps:List Plc)(k:qp):zw ns ps k=true↔(1<=k.regs.length/\k.regs.length<=64)/\∀ (j:Nat) (x:ByteArray),k.regs[j]?=some x->JR ns ps k.regs j x:=by
 unfold zw zx xJ
 simp only[Bool.and_eq_true,decide_eq_true_eq,Bool.not_eq_true',decide_eq_false_iff_not]
 rw[QB,Za]
 constructor
 ·rintro⟨⟨⟨⟨h1,h2⟩,h3⟩,h4⟩,h5⟩
  refine⟨⟨by rcases hk:k.regs with _|⟨a,r⟩;exact absurd hk h3;simp,h1⟩,fun j x hj=>⟨h2 x (vM hj),?_,fun _=>?_⟩⟩
  ·have:=h4 j (qv ns x) (by unfold qh;rw[vY,hj];rfl)
   rw[ym];simpa using this
  ·have:=List.any_eq_false.1 h5 (qv ns x) (List.mem_map.2 ⟨x,vM hj,rfl⟩)
   simpa using this
 ·rintro⟨⟨h1,h2⟩,h3⟩
  refine⟨⟨⟨⟨h2,fun x hx=>?_⟩,fun e=>by rw[e] at h1;simp at h1⟩,fun j y hj=>?_⟩,?_⟩
  ·obtain⟨j,hj⟩:=List.getElem?_of_mem hx
   exact(h3 j x hj).1
  ·unfold qh at hj
   rw[vY] at hj
   cases hx:k.regs[j]? with
   | none=>rw[hx] at hj;cases hj
   |some x=>
    rw[hx] at hj
    cases hj
    have:=(h3 j x hx).2.1
    rw[ym] at this;simpa using this
  ·rw[List.any_eq_false]
   intro y hy
   obtain⟨x,hx,rfl⟩:=List.mem_map.1 hy
   obtain⟨j,hj⟩:=List.getElem?_of_mem hx
   cases j with
   |zero=>
    cases hk:k.regs with
    | nil=>rw[hk] at hj;cases hj
    | cons a r=>rw[hk] at hj;cases hj;simp[qh]
   | succ j=>simpa using(h3 (j+1) x hj).2.2 (by omega)
def xB(cs:List qp)(s:ByteArray):Int:=zM (fun x:qp=>eqB x.name s) cs
def inC(cls:List (List Int))(c r:Int):Bool:=(decide (0<=c)&&decide (c<cls.length))&&(cls.getD c.toNat []).contains r
def zI(ns:List ByteArray)(cs:List qp)(o:zL):Bool:=decide (0<=xB cs o.cls)&&(decide (o.fix.toList = [])||inC (qr ns cs) (xB cs o.cls) (qv ns o.fix))
def jZ(ps:List Plc)(cls:List (List Int))(c:Int):Int:=if 0<=c/\c<cls.length/\cls.getD c.toNat [] ≠ [] then(plc ps ((cls.getD c.toNat []).headD 0)).2.2 else 0
theorem QC(cs:List qp)(s:ByteArray) : -1<=xB cs s/\xB cs s<cs.length:=by
 unfold xB
 rcases xh (fun x:qp=>eqB x.name s) cs with⟨h,_⟩|⟨k,hk,h,_⟩ <;> omega
theorem ZK(ns:List ByteArray)(cs:List qp)(o:zL):ql ns cs o=if xB cs o.cls<0 then [] else if o.fix.toList = [] then(qr ns cs).getD (xB cs o.cls).toNat [] else if((qr ns cs).getD (xB cs o.cls).toNat []).contains (qv ns o.fix) then [qv ns o.fix] else []:=by
 unfold ql xB zM
 cases h:cs.findIdx? (fun x=>eqB x.name o.cls) with
 | none=>simp
 |some k=>
  have h0:¬ ((k:Int)<0):=by omega
  by_cases hf:o.fix.toList = []
  ·simp[hf,h0]
  ·simp[hf,h0]
theorem qfC{ns:List ByteArray}{cs:List qp}(o:zL)(hne:∀l,l∈qr ns cs->l ≠ []):zI ns cs o = !decide (ql ns cs o = []):=by
 have hr:=QC cs o.cls
 rw[ZK]
 unfold zI inC
 have hlen:(qr ns cs).length=cs.length:=by simp[qr]
 by_cases h0:xB cs o.cls<0
 ·rw[if_pos h0];simp;omega
 ·rw[if_neg h0]
  have hlt:(xB cs o.cls).toNat<(qr ns cs).length:=by omega
  have hmem:(qr ns cs).getD (xB cs o.cls).toNat [] ≠ []:=by
   rw[List.getD,vE hlt];exact hne _ (List.getElem_mem _)
  have e1:decide (0<=xB cs o.cls)=true:=by simpa using h0
  have e2:decide (xB cs o.cls<((qr ns cs).length:Int))=true:=by simp;omega
  rw[e1,e2]
  by_cases hf:o.fix.toList = []
  ·rw[if_pos hf];simpa[hf] using hmem
  ·rw[if_neg hf]
   cases hc:((qr ns cs).getD (xB cs o.cls).toNat []).contains (qv ns o.fix)
   ·simp[hf]
   ·simp[hf]
def ZL(ps:List Plc)(cls:List (List Int)):Prop:=∀l,l∈cls->l ≠ []/\∀x,x∈l->(plc ps x).2.2=(plc ps (l.headD 0)).2.2
theorem Qk{ns:List ByteArray}{ps:List Plc}{cs:List qp}{o:zL}(h:ZL ps (qr ns cs)){x:Int}(hx:x∈ql ns cs o):(plc ps x).2.2=jZ ps (qr ns cs) (xB cs o.cls):=by
 have hr:=QC cs o.cls
 have hlen:(qr ns cs).length=cs.length:=by simp[qr]
 rw[ZK] at hx
 by_cases h0:xB cs o.cls<0
 ·rw[if_pos h0] at hx;cases hx
 ·rw[if_neg h0] at hx
  have hlt:(xB cs o.cls).toNat<(qr ns cs).length:=by omega
  have hget:(qr ns cs).getD (xB cs o.cls).toNat []=(qr ns cs)[(xB cs o.cls).toNat]:=by rw[List.getD,vE hlt];rfl
  obtain⟨h1,h2⟩:=h _ (List.getElem_mem hlt)
  rw[←hget] at h1 h2
  unfold jZ
  rw[if_pos ⟨by omega,by omega,h1⟩]
  apply h2
  by_cases hf:o.fix.toList = []
  ·rwa [if_pos hf] at hx
  ·rw[if_neg hf] at hx
   cases hc:((qr ns cs).getD (xB cs o.cls).toNat []).contains (qv ns o.fix)
   ·rw[hc] at hx;cases hx
   ·rw[hc] at hx
    have:x=qv ns o.fix:=by simpa using hx
    subst this
    simpa[List.contains_eq_mem] using hc
theorem qdY{ns:List ByteArray}{x:ByteArray}(h:0<=qv ns x):ns[(qv ns x).toNat]?=some x:=by
 unfold qv at h ⊢
 rcases qcl (fun y=>eqB y x) ns with⟨e,_⟩|⟨k,y,hk,hp,_,e⟩
 ·rw[e] at h;omega
 ·rw[e]
  have:y=x:=by simpa[eqB] using hp
  subst this
  simpa using hk
theorem qiV{ns:List ByteArray}{x y:ByteArray}(h:0<=qv ns x)(he:qv ns x=qv ns y):x=y:=by
 have h1:=qdY h
 have h2:=qdY (ns:=ns) (x:=y) (by omega)
 rw[he] at h1
 exact Option.some.inj (h1.symm.trans h2)
def Xp(ns l:List ByteArray)(j:Nat)(x:ByteArray):Prop:=0<=qv ns x/\(j:Int)<=zM (fun y=>eqB y x) l
theorem ZM(ns l:List ByteArray):(zx ns l 64 && !qW [] (qh ns l))=true↔l.length<=64/\∀ (j:Nat) (x:ByteArray),l[j]?=some x->Xp ns l j x:=by
 unfold zx
 simp only[Bool.and_eq_true,decide_eq_true_eq,Bool.not_eq_true']
 rw[QB,Za]
 constructor
 ·rintro⟨⟨h1,h2⟩,h3⟩
  refine⟨h1,fun j x hj=>⟨h2 x (vM hj),?_⟩⟩
  have hp:(fun y=>eqB y x) x=true:=by simp[eqB]
  rcases Int.lt_or_le (zM (fun y=>eqB y x) l) (j:Int) with h|h
  ·exfalso
   have h4:=(ZJ (p:=fun y=>eqB y x) hj hp).1 h
   rcases xh (fun y=>eqB y x) (l.take j) with⟨e,_⟩|⟨k,hk,e,hpk⟩
   ·omega
   ·have hx2:(l.take j)[k]=x:=by simpa[eqB] using hpk
    have:=h3 j (qv ns x) (by unfold qh;rw[vY,hj];rfl)
    rw[List.nil_append,←ym,List.contains_eq_mem,decide_eq_false_iff_not] at this
    exact this (List.mem_map.2 ⟨x,by rw[←hx2];exact List.getElem_mem hk,rfl⟩)
  ·exact h
 ·rintro⟨h1,h2⟩
  refine⟨⟨h1,fun x hx=>?_⟩,fun j y hj=>?_⟩
  ·obtain⟨j,hj⟩:=List.getElem?_of_mem hx
   exact(h2 j x hj).1
  ·unfold qh at hj
   rw[vY] at hj
   cases hx:l[j]? with
   | none=>rw[hx] at hj;cases hj
   |some x=>
    rw[hx] at hj
    cases hj
    rw[List.nil_append,←ym,List.contains_eq_mem,decide_eq_false_iff_not]
    intro hm
    obtain⟨z,hz,he⟩:=List.mem_map.1 hm
    obtain⟨h3,h4⟩:=h2 j x hx
    have:x=z:=qiV h3 he.symm
    subst this
    have hp:(fun y=>eqB y x) x=true:=by simp[eqB]
    have h5:0<=zM (fun y=>eqB y x) (l.take j):=by
     rcases xh (fun y=>eqB y x) (l.take j) with⟨_,hn⟩|⟨k,hk,e,_⟩
     ·have:=hn x hz;simp[eqB] at this
     ·omega
    have:=(ZJ (p:=fun y=>eqB y x) hx hp).2 h5
    omega
def qeS(o:OpD):Bool:=!(decide (o.tie < -1)||(decide ((o.uses.length:Int)<=o.tie)||(decide (0<=o.tie) && !(match o.uses[o.tie.toNat]? with|some u=>ZA u o.d|none=>true))))
theorem YS(a b:zL):ZA a b=ZA b a:=by
 unfold ZA eqB
 rw[Bool.eq_iff_iff]
 simp only[Bool.and_eq_true,decide_eq_true_eq]
 exact⟨fun⟨h,k⟩=>⟨h.symm,k.symm⟩,fun⟨h,k⟩=>⟨h.symm,k.symm⟩⟩
theorem qfD(o:OpD):qeS o=jd o:=by
 unfold qeS jd
 rw[Bool.eq_iff_iff]
 simp only[Bool.not_eq_true',Bool.or_eq_false_iff,Bool.and_eq_false_iff,Bool.or_eq_true,Bool.and_eq_true,decide_eq_true_eq,decide_eq_false_iff_not]
 constructor
 ·rintro⟨h1,h2,h3⟩
  by_cases h0:0<=o.tie
  ·refine .inr ⟨⟨h0,by omega⟩,?_⟩
   rcases h3 with h3|h3
   ·exact absurd h0 h3
   ·have hlt:o.tie.toNat<o.uses.length:=by omega
    rw[vE hlt] at h3 ⊢
    dsimp only at h3 ⊢
    rw[YS];simpa using h3
  ·exact .inl (by omega)
 ·rintro(h|⟨⟨h1,h2⟩,h3⟩)
  ·exact⟨by omega,by omega,.inl (by omega)⟩
  ·refine⟨by omega,by omega,.inr ?_⟩
   have hlt:o.tie.toNat<o.uses.length:=by omega
   rw[vE hlt] at h3 ⊢
   dsimp only at h3 ⊢
   rw[YS];simpa using h3
theorem XM{l:List Int}(h:l ≠ []):l.headD 0∈l:=by
 cases l with
 | nil=>exact absurd rfl h
 | cons a r=>exact List.mem_cons_self
structure Qc(ns:List ByteArray)(ps:List Plc)(cs:List qp)(o:OpD):Prop where
 len:o.uses.length=zk o.name
 d:zI ns cs o.d=true
 u:∀u,u∈o.uses->zI ns cs u=true
 w:∀u,u∈o.uses->jZ ps (qr ns cs) (xB cs u.cls)=jZ ps (qr ns cs) (xB cs o.d.cls)
 tie:qeS o=true
 few:o.clob.length<=64
 clob:∀ (j:Nat) (x:ByteArray),o.clob[j]?=some x->Xp ns o.clob j x
theorem Jv{ns:List ByteArray}{ps:List Plc}{cs:List qp}(h:ZL ps (qr ns cs))(o:OpD):jm ns ps cs o=true↔Qc ns ps cs o:=by
 have hne:∀l,l∈qr ns cs->l ≠ []:=fun l hl=>(h l hl).1
 have hdist:=ZM ns o.clob
 rw[Bool.and_eq_true,Bool.not_eq_true'] at hdist
 have hw:ql ns cs o.d ≠ []->(∀u,u∈o.uses->ql ns cs u ≠ [])->(xJ ps (ql ns cs o.d++(o.uses.map (ql ns cs)).flatten)=true↔∀u,u∈o.uses->jZ ps (qr ns cs) (xB cs u.cls)=jZ ps (qr ns cs) (xB cs o.d.cls)):=fun hd hu=>by
  have hh:(ql ns cs o.d++(o.uses.map (ql ns cs)).flatten).headD 0=(ql ns cs o.d).headD 0:=by
   cases hc:ql ns cs o.d with
   | nil=>exact absurd hc hd
   | cons a r=>rfl
  unfold xJ
  rw[hh,Qk h (XM hd),Bool.not_eq_true',List.any_eq_false]
  constructor
  ·intro hall u hm
   have:=hall _ (List.mem_append_right _ (List.mem_flatten.2 ⟨_,List.mem_map.2 ⟨u,hm,rfl⟩,XM (hu u hm)⟩))
   rw[Qk h (XM (hu u hm))] at this
   simpa using this
  ·intro hall x hx
   rcases vC.1 hx with hx|hx
   ·rw[Qk h hx];simp
   ·obtain⟨l,hl,hxl⟩:=List.mem_flatten.1 hx
    obtain⟨u,hm,rfl⟩:=List.mem_map.1 hl
    rw[Qk h hxl,hall u hm];simp
 have hall:(o.uses.all fun u=>!decide (ql ns cs u = []))=true↔∀u,u∈o.uses->ql ns cs u ≠ []:=by
  rw[vV];exact⟨fun h u hu=>by simpa using h u hu,fun h u hu=>by simpa using h u hu⟩
 have hop:∀u:zL,zI ns cs u=true↔ql ns cs u ≠ []:=fun u=>by rw[qfC u hne];simp
 unfold jm
 simp only[Bool.and_eq_true,decide_eq_true_eq,Bool.not_eq_true',decide_eq_false_iff_not]
 rw[hall]
 constructor
 ·rintro⟨⟨⟨⟨⟨⟨h1,h2⟩,h3⟩,h4⟩,h5⟩,h6⟩,h7⟩
  exact⟨h1,(hop _).2 h6,fun u hu=>(hop u).2 (h5 u hu),(hw h6 h5).1 h7,by rw[qfD];exact h2,(hdist.1 ⟨h3,h4⟩).1,(hdist.1 ⟨h3,h4⟩).2⟩
 ·rintro⟨h1,h2,h3,h4,h5,h6,h7⟩
  have hc:=hdist.2 ⟨h6,h7⟩
  have hu:=fun u hu=>(hop u).1 (h3 u hu)
  have hd:=(hop _).1 h2
  exact⟨⟨⟨⟨⟨⟨h1,by rw[←qfD];exact h5⟩,hc.1⟩,hc.2⟩,hu⟩,hd⟩,(hw hd hu).2 h4⟩
theorem qaH{ns:List ByteArray}{ps:List Plc}{cs:List qp}(h:∀k:qp,k∈cs->zw ns ps k=true):ZL ps (qr ns cs):=fun l hl=>by
 obtain⟨k,hk,rfl⟩:=List.mem_map.1 hl
 have hf:=h k hk
 unfold zw xJ at hf
 simp only[Bool.and_eq_true,Bool.not_eq_true',decide_eq_false_iff_not] at hf
 refine⟨fun e=>hf.1.1.2 (by simpa[qh] using e),fun x hx=>?_⟩
 have:=List.any_eq_false.1 hf.2 x hx
 simpa using this
def yK(ns:List ByteArray)(ps:List Plc)(l:List ByteArray)(j:Nat)(x:ByteArray):Prop:=
 0<=qv ns x/\∀ (k:Nat) (y:ByteArray),k<j->l[k]?=some y->zR (plc ps (qv ns x)) (plc ps (qv ns y))=false
theorem Yx(ns:List ByteArray)(ps:List Plc)(l:List ByteArray):((qh ns l).contains (-1)=false/\zS ps (qh ns l)=true)↔∀ (j:Nat) (x:ByteArray),l[j]?=some x->yK ns ps l j x:=by
 unfold zS
 rw[QB,Jh]
 constructor
 ·rintro⟨h1,h2⟩ j x hj
  refine⟨h1 x (vM hj),fun k y hk hy=>?_⟩
  have:=h2 j (qv ns x) (by unfold qh;rw[vY,hj];rfl)
  unfold zN at this
  rw[List.nil_append,←ym] at this
  have:=List.any_eq_false.1 this (qv ns y) (List.mem_map.2 ⟨y,vM (i:=k) (by rw[List.getElem?_take_of_lt hk];exact hy),rfl⟩)
  simpa using this
 ·intro h
  refine⟨fun x hx=>?_,fun j z hj=>?_⟩
  ·obtain⟨j,hj⟩:=List.getElem?_of_mem hx
   exact(h j x hj).1
  ·unfold qh at hj
   rw[vY] at hj
   cases hx:l[j]? with
   | none=>rw[hx] at hj;cases hj
   |some x=>
    rw[hx] at hj
    cases hj
    unfold zN
    rw[List.nil_append,←ym,List.any_eq_false]
    intro s hs
    obtain⟨y,hy,rfl⟩:=List.mem_map.1 hs
    obtain⟨k,hk⟩:=List.getElem?_of_mem hy
    have hkj:k<j:=by have:=(vS.1 hk).1;simp at this;omega
    rw[List.getElem?_take_of_lt hkj] at hk
    simp[(h j x hx).2 k y hkj hk]
theorem Yy(a b:Plc):zR a b=zR b a:=by
 unfold zR jN
 rw[Bool.eq_iff_iff]
 simp only[Bool.and_eq_true,decide_eq_true_eq]
 exact⟨fun⟨h,k,l⟩=>⟨h.symm,l,k⟩,fun⟨h,k,l⟩=>⟨h.symm,l,k⟩⟩
theorem Xq(ps:List Plc)(r:Int):∀ (l pre:List Int),xA ps pre (l++[r])=(xA ps pre l && !zN ps r (pre++l))
 | [],pre=>by simp[xA]
 |a::l,pre=>by
  rw[List.cons_append]
  unfold xA
  rw[Xq ps r l (pre++[a]),Bool.and_assoc,List.append_assoc]
  rfl
structure qiW(ns:List ByteArray)(ps:List Plc)(args:List ByteArray)(result:ByteArray)(saved:List ByteArray)(slots:Int):Prop where
 few:args.length<=16
 argsG:∀ (j:Nat) (x:ByteArray),args[j]?=some x->yK ns ps args j x
 res:0<=qv ns result
 fewS:saved.length<=64
 savedG:∀ (j:Nat) (x:ByteArray),saved[j]?=some x->yK ns ps saved j x
 s0:0<=slots
 s1:slots<=1000
 clear:∀x,x∈saved->zR (plc ps (qv ns result)) (plc ps (qv ns x))=false
theorem qiX(ns:List ByteArray)(ps:List Plc)(args:List ByteArray)(result:ByteArray)(saved:List ByteArray)(slots:Int):qL ns ps args result saved slots=true↔qiW ns ps args result saved slots:=by
 have ha:=Yx ns ps args
 have hs:=Yx ns ps saved
 have hsn:zS ps (qh ns saved++[qv ns result])=true↔zS ps (qh ns saved)=true/\∀x,x∈saved->zR (plc ps (qv ns result)) (plc ps (qv ns x))=false:=by
  unfold zS
  rw[Xq,Bool.and_eq_true,Bool.not_eq_true']
  refine and_congr Iff.rfl ?_
  unfold zN
  rw[List.nil_append,List.any_eq_false]
  constructor
  ·intro h x hx;have:=h _ (List.mem_map.2 ⟨x,hx,rfl⟩);simpa using this
  ·intro h r hr;obtain⟨x,hx,rfl⟩:=List.mem_map.1 hr;simp[h x hx]
 unfold qL zx
 simp only[Bool.and_eq_true,decide_eq_true_eq,Bool.not_eq_true']
 rw[hsn]
 constructor
 ·rintro⟨⟨⟨⟨⟨⟨h1,h2⟩,h3,h4⟩,h5⟩,h6⟩,h7⟩,h8,h9,h10⟩
  exact⟨h1,ha.1 ⟨h2,h8⟩,h5,h3,hs.1 ⟨h4,h9⟩,h6,h7,h10⟩
 ·rintro⟨h1,h2,h3,h4,h5,h6,h7,h8⟩
  have h9:=ha.2 h2
  have h10:=hs.2 h5
  exact⟨⟨⟨⟨⟨⟨h1,h9.1⟩,h4,h10.1⟩,h3⟩,h6⟩,h7⟩,h9.2,h10.2,h8⟩
theorem Ql(ps:List Plc)(A B:List Int):qP ps [A,B]=A.any fun a=>B.any fun b=>!zR (plc ps a) (plc ps b):=by
 have e:∀a b,zS ps [a,b] = !zR (plc ps a) (plc ps b):=fun a b=>by
  simp[zS,xA,zN];rw[Yy]
 unfold qP
 simp only[zX,List.any_flatMap,List.map_cons,List.map_nil,List.any_map]
 rw[Bool.eq_iff_iff]
 simp[e,Function.comp_def]
theorem JS(ps:List Plc)(A:List Int):qP ps [A] = !decide (A = []):=by
 have e:∀a,zS ps [a]=true:=fun a=>by simp[zS,xA,zN]
 unfold qP zX
 rw[Bool.eq_iff_iff]
 cases A with
 | nil=>simp
 | cons a r=>simp[zX,e]
def Jj(o:OpR):List Int:=match o.uses with|_::B::_=>B|_=>[-1]
def JT(ps:List Plc)(a b:Int):Bool:=(decide (0<=a)&&decide (0<=b))&&zR (plc ps a) (plc ps b)
def QH(ps:List Plc)(o:OpR)(r:Int):Bool:=o.clob.all fun c=>!zR (plc ps c) (plc ps r)
def Kf(ps:List Plc)(o:OpR):Bool:=
 if 0<=o.tie then(o.uses.headD []).any fun a=>(Jj o).any fun b=>!JT ps a b&&(o.d.contains (if o.tie=0 then a else b)&&QH ps o (if o.tie=0 then a else b))
 else((o.uses.headD []).any fun a=>(Jj o).any fun b=>!JT ps a b)&&o.d.any (QH ps o)
theorem qiY(ps:List Plc)(o:OpR)(r:Int):QH ps o r = !zN ps r o.clob:=by
 unfold QH zN
 rw[Bool.eq_iff_iff,vV,Bool.not_eq_true',List.any_eq_false]
 exact⟨fun h s hs=>by have:=h s hs;rw[Yy] at this;simpa using this,fun h s hs=>by have:=h s hs;rw[Yy];simpa using this⟩
theorem yo(ps:List Plc)(o:OpR)(r:Int):r∈xq ps o↔r∈o.d/\QH ps o r=true:=by
 unfold xq;rw[List.mem_filter,qiY]
theorem Xr(ps:List Plc)(o:OpR):o.d.any (QH ps o) = !decide (xq ps o = []):=by
 rw[Bool.eq_iff_iff,vU]
 simp only[Bool.not_eq_true',decide_eq_false_iff_not]
 constructor
 ·rintro⟨r,h1,h2⟩ e
  have:=(yo ps o r).2 ⟨h1,h2⟩
  rw[e] at this;cases this
 ·intro h
  have:=XM h
  exact⟨_,(yo ps o _).1 this⟩
theorem qiZ{ps:List Plc}{o:OpR}(hl:o.uses.length=1∨o.uses.length=2)(ht:o.tie<o.uses.length)(htie:0<=o.tie->o.uses[o.tie.toNat]?=some o.d)(hd:∀x,x∈o.d->0<=x)(hu:∀l,l∈o.uses->∀x,x∈l->0<=x):Kf ps o=yf ps o:=by
 have hX:∀a b:Int,0<=a->0<=b->JT ps a b=zR (plc ps a) (plc ps b):=fun a b h1 h2=>by unfold JT;simp[h1,h2]
 have hN:∀a:Int,JT ps a (-1)=false:=fun a=>by unfold JT;simp
 obtain⟨d,uses,tie,clob⟩:=o
 dsimp only at hl ht htie hd hu
 match uses,hl with
 |[A],_=>
  unfold Kf yf xx Jj
  dsimp only[List.headD_cons]
  by_cases h0:0<=tie
  ·rw[if_pos h0,if_pos h0]
   have:tie=0:=by simp at ht;omega
   subst this
   have hA:A=d:=by simpa using htie (by decide)
   subst hA
   show _=(!decide (xq ps ⟨A,[A],0,clob⟩ = [])&&qP ps [xq ps ⟨A,[A],0,clob⟩])
   rw[JS,Bool.and_self,←Xr]
   rw[Bool.eq_iff_iff]
   simp[hN]
  ·rw[if_neg h0,if_neg h0,JS,←Xr,Bool.and_comm]
   congr 1
   rw[Bool.eq_iff_iff]
   cases A with
   | nil=>simp
   | cons a r=>simp[hN]
 |[A,B],_=>
  have hA:∀x,x∈A->0<=x:=hu A (by simp)
  have hB:∀x,x∈B->0<=x:=hu B (by simp)
  unfold Kf yf xx Jj
  dsimp only[List.headD_cons]
  have hany:∀ (p:Int->Int->Bool),(∀a b,a∈A->b∈B->True)->(A.any fun a=>B.any fun b=>!JT ps a b&&p a b)=A.any fun a=>B.any fun b=>!zR (plc ps a) (plc ps b)&&p a b:=fun p _=>by
   rw[Bool.eq_iff_iff,vU,vU]
   constructor
   ·rintro⟨a,ha,h⟩
    obtain⟨b,hb,h2⟩:=vU.1 h
    exact⟨a,ha,vU.2 ⟨b,hb,by rwa [hX a b (hA a ha) (hB b hb)] at h2⟩⟩
   ·rintro⟨a,ha,h⟩
    obtain⟨b,hb,h2⟩:=vU.1 h
    exact⟨a,ha,vU.2 ⟨b,hb,by rwa [hX a b (hA a ha) (hB b hb)]⟩⟩
  by_cases h0:0<=tie
  ·rw[if_pos h0,if_pos h0,hany _ (fun _ _ _ _=>trivial)]
   have h01:tie=0∨tie=1:=by simp at ht;omega
   rcases h01 with rfl|rfl
   ·have hA2:A=d:=by simpa using htie (by decide)
    subst hA2
    show _=(!decide (xq ps ⟨A,[A,B],0,clob⟩ = [])&&qP ps [xq ps ⟨A,[A,B],0,clob⟩,B])
    rw[Ql,Bool.eq_iff_iff]
    simp only[Bool.and_eq_true,vU,Bool.not_eq_true',decide_eq_false_iff_not,if_true,List.contains_eq_mem,decide_eq_true_eq]
    constructor
    ·rintro⟨a,ha,b,hb,h1,_,h2⟩
     have hm:=(yo ps ⟨A,[A,B],0,clob⟩ a).2 ⟨ha,h2⟩
     exact⟨fun e=>(by rw[e] at hm;cases hm),a,hm,b,hb,h1⟩
    ·rintro⟨_,a,ha,b,hb,h1⟩
     have hm:=(yo ps ⟨A,[A,B],0,clob⟩ a).1 ha
     exact⟨a,hm.1,b,hb,h1,hm.1,hm.2⟩
   ·have hB2:B=d:=by simpa using htie (by decide)
    subst hB2
    show _=(!decide (xq ps ⟨B,[A,B],1,clob⟩ = [])&&qP ps [A,xq ps ⟨B,[A,B],1,clob⟩])
    rw[Ql,Bool.eq_iff_iff]
    simp only[Bool.and_eq_true,vU,Bool.not_eq_true',decide_eq_false_iff_not,List.contains_eq_mem,decide_eq_true_eq]
    constructor
    ·rintro⟨a,ha,b,hb,h1,_,h2⟩
     have hm:=(yo ps ⟨B,[A,B],1,clob⟩ b).2 ⟨hb,h2⟩
     exact⟨fun e=>(by rw[e] at hm;cases hm),a,ha,b,hm,h1⟩
    ·rintro⟨_,a,ha,b,hb,h1⟩
     have hm:=(yo ps ⟨B,[A,B],1,clob⟩ b).1 hb
     exact⟨a,ha,b,hm.1,h1,hm.1,hm.2⟩
  ·rw[if_neg h0,if_neg h0,Ql,←Xr,Bool.and_comm]
   have:=hany (fun _ _=>true) (fun _ _ _ _=>trivial)
   simp only[Bool.and_true] at this
   rw[this]
theorem Jk(ps:List Plc):∀cls:List (List Int),jb ps cls=true↔∀ (i j:Nat) (x y:List Int),i<=j->cls[i]?=some x->cls[j]?=some y->qP ps [x,y]=true
 | []=>by simp[jb]
 |a::rest=>by
  unfold jb
  rw[Bool.and_eq_true,Jk ps rest,vV]
  constructor
  ·rintro⟨h1,h2⟩ i j x y hij hx hy
   cases i with
   |zero=>
    cases hx
    exact h1 y (vM hy)
   |succ i=>
    cases j with
    | zero=>omega
    | succ j=>exact h2 i j x y (by omega) (by simpa using hx) (by simpa using hy)
  ·intro h
   refine⟨fun y hy=>?_,fun i j x y hij hx hy=>h (i+1) (j+1) x y (by omega) (by simpa using hx) (by simpa using hy)⟩
   obtain⟨j,hj⟩:=List.getElem?_of_mem hy
   exact h 0 j a y (vO _) rfl hj
end Go.Proofs.YtomlgdnafeeeiaaGreatDoor
