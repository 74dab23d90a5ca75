/-
  The document's own checks of a machine, one by one, brought to the numbers by which `Check` answers (checkS): text only, no program.
-/
import Derived.Test.YtkoloennfejaaaaGreatDoorMdOne
namespace Go.Proofs.YtkoloennfejaaaaGreatDoor
open Go.RowKit
theorem idxP_spec{α:Type}(p:α->Bool)(l:List α):(idxP p l = -1/\∀x,x∈l->p x=false)∨∃ (k:Nat) (x:α),l[k]?=some x/\p x=true/\(∀ (j:Nat) (b:α),j<k->l[j]?=some b->p b=false)/\idxP p l=(k:Int):=by
 unfold idxP
 cases h:l.findIdx? p with
 | none=>exact .inl ⟨rfl,fun x hx=>by simpa using(List.findIdx?_eq_none_iff.1 h) x hx⟩
 |some k=>
  obtain⟨hk,hp,hj⟩:=List.findIdx?_eq_some_iff_getElem.1 h
  refine .inr ⟨k,l[k],List.getElem?_eq_getElem hk,hp,fun j b hjk hb=>?_,rfl⟩
  obtain⟨hlt,rfl⟩:=List.getElem?_eq_some_iff.1 hb
  simpa using hj j hjk
theorem yp{α:Type}{p:α->Bool}{l:List α}{i:Nat}{x:α}(hx:l[i]?=some x)(hp:p x=true):idxP p l<(i:Int)↔0<=idxP p (l.take i):=by
 have hi:=(List.getElem?_eq_some_iff.1 hx).1
 rcases idxP_spec p l with⟨h,hn⟩|⟨k,y,hk,hpy,hj,h⟩
 ·have:=hn x (List.mem_of_getElem? hx);rw[hp] at this;cases this
 ·have hki:k<=i:=by
   rcases Nat.lt_or_ge i k with h1|h1
   ·have:=hj i x h1 hx;rw[hp] at this;cases this
   ·exact h1
  rw[h]
  by_cases hlt:k<i
  ·have:idxP p (l.take i)=(k:Int):=XI (a:=y) (fun j hjk b hb=>hj j b hjk (by rw[List.getElem?_take_of_lt (by omega)] at hb;exact hb)) (by rw[List.getElem?_take_of_lt hlt];exact hk) hpy
   rw[this];omega
  ·have:idxP p (l.take i) = -1:=ZC fun j b hb=>by
    have hjl:j<i:=by have:=(List.getElem?_eq_some_iff.1 hb).1;simp at this;omega
    rw[List.getElem?_take_of_lt hjl] at hb
    exact hj j b (by omega) hb
   rw[this];omega
theorem jH:∀ (l pre:List Int),qv pre l=false↔∀ (j:Nat) (x:Int),l[j]?=some x->(pre++l.take j).contains x=false
 | [],pre=>by simp[qv]
 |a::r,pre=>by
  unfold qv
  rw[Bool.or_eq_false_iff,jH r (pre++[a])]
  constructor
  ·rintro⟨h1,h2⟩ j x hj
   cases j with
   | zero=>simp only[List.getElem?_cons_zero,Option.some.injEq] at hj;subst hj;simpa using h1
   | succ j=>have:=h2 j x (by simpa using hj);simpa using this
  ·intro h
   refine⟨by simpa using h 0 a rfl,fun j x hj=>?_⟩
   have:=h (j+1) x (by simpa using hj)
   simpa using this
theorem QB(ps:List Plc):∀ (l pre:List Int),qV ps pre l=true↔∀ (j:Nat) (x:Int),l[j]?=some x->lapsOneB ps x (pre++l.take j)=false
 | [],pre=>by simp[qV]
 |a::r,pre=>by
  unfold qV
  rw[Bool.and_eq_true,QB ps r (pre++[a])]
  constructor
  ·rintro⟨h1,h2⟩ j x hj
   cases j with
   | zero=>simp only[List.getElem?_cons_zero,Option.some.injEq] at hj;subst hj;simpa using h1
   | succ j=>have:=h2 j x (by simpa using hj);simpa using this
  ·intro h
   refine⟨by simpa using h 0 a rfl,fun j x hj=>?_⟩
   have:=h (j+1) x (by simpa using hj)
   simpa using this
theorem jn{ns l:List ByteArray} : (regsL ns l).contains (-1)=false↔∀x,x∈l->0<=regN ns x:=by
 unfold regsL
 constructor
 ·intro h x hx
  have hr:=qA ns x
  rcases Int.lt_or_le (regN ns x) 0 with h1|h1
  ·have h2:(-1:Int)∈l.map (regN ns):=List.mem_map.2 ⟨x,hx,by omega⟩
   rw[List.contains_eq_mem,decide_eq_false_iff_not] at h
   exact absurd h2 h
  ·exact h1
 ·intro h
  rw[List.contains_eq_mem,decide_eq_false_iff_not]
  intro h2
  obtain⟨x,hx,he⟩:=List.mem_map.1 h2
  have:=h x hx
  omega
def Zj(ns:List ByteArray)(ps:List Plc)(l:List ByteArray)(j:Nat)(x:ByteArray):Prop:=
 0<=regN ns x/\(regsL ns (l.take j)).contains (regN ns x)=false/\(0<j->(plc ps (regN ns x)).2.2=(plc ps ((regsL ns l).headD 0)).2.2)
theorem zX(ns l:List ByteArray)(j:Nat):regsL ns (l.take j)=(regsL ns l).take j:=by unfold regsL;rw[List.map_take]
theorem QC(ns:List ByteArray)(ps:List Plc)(k:ClassD):classFine ns ps k=true↔(1<=k.regs.length/\k.regs.length<=64)/\∀ (j:Nat) (x:ByteArray),k.regs[j]?=some x->Zj ns ps k.regs j x:=by
 unfold classFine regsOk oneWidthB
 simp only[Bool.and_eq_true,decide_eq_true_eq,Bool.not_eq_true',decide_eq_false_iff_not]
 rw[jn,jH]
 constructor
 ·rintro⟨⟨⟨⟨h1,h2⟩,h3⟩,h4⟩,h5⟩
  refine⟨⟨by rcases hk:k.regs with _|⟨a,r⟩;exact absurd hk h3;simp,h1⟩,fun j x hj=>⟨h2 x (List.mem_of_getElem? hj),?_,fun _=>?_⟩⟩
  ·have:=h4 j (regN ns x) (by unfold regsL;rw[List.getElem?_map,hj];rfl)
   rw[zX];simpa using this
  ·have:=List.any_eq_false.1 h5 (regN ns x) (List.mem_map.2 ⟨x,List.mem_of_getElem? hj,rfl⟩)
   simpa using this
 ·rintro⟨⟨h1,h2⟩,h3⟩
  refine⟨⟨⟨⟨h2,fun x hx=>?_⟩,fun e=>by rw[e] at h1;simp at h1⟩,fun j y hj=>?_⟩,?_⟩
  ·obtain⟨j,hj⟩:=List.getElem?_of_mem hx
   exact(h3 j x hj).1
  ·unfold regsL at hj
   rw[List.getElem?_map] at hj
   cases hx:k.regs[j]? with
   | none=>rw[hx] at hj;cases hj
   |some x=>
    rw[hx] at hj
    cases hj
    have:=(h3 j x hx).2.1
    rw[zX] at this;simpa using this
  ·rw[List.any_eq_false]
   intro y hy
   obtain⟨x,hx,rfl⟩:=List.mem_map.1 hy
   obtain⟨j,hj⟩:=List.getElem?_of_mem hx
   cases j with
   |zero=>
    cases hk:k.regs with
    | nil=>rw[hk] at hj;cases hj
    | cons a r=>rw[hk] at hj;cases hj;simp[regsL]
   | succ j=>simpa using(h3 (j+1) x hj).2.2 (by omega)
def cIdx(cs:List ClassD)(s:ByteArray):Int:=idxP (fun x:ClassD=>eqB x.name s) cs
def inC(cls:List (List Int))(c r:Int):Bool:=(decide (0<=c)&&decide (c<cls.length))&&(cls.getD c.toNat []).contains r
def operandB(ns:List ByteArray)(cs:List ClassD)(o:OperD):Bool:=decide (0<=cIdx cs o.cls)&&(decide (o.fix.toList = [])||inC (clsOf ns cs) (cIdx cs o.cls) (regN ns o.fix))
def widthC(ps:List Plc)(cls:List (List Int))(c:Int):Int:=if 0<=c/\c<cls.length/\cls.getD c.toNat [] ≠ [] then(plc ps ((cls.getD c.toNat []).headD 0)).2.2 else 0
theorem xy(cs:List ClassD)(s:ByteArray) : -1<=cIdx cs s/\cIdx cs s<cs.length:=by
 unfold cIdx
 rcases idxP_cases (fun x:ClassD=>eqB x.name s) cs with⟨h,_⟩|⟨k,hk,h,_⟩ <;> omega
theorem jo(ns:List ByteArray)(cs:List ClassD)(o:OperD):choiceS ns cs o=if cIdx cs o.cls<0 then [] else if o.fix.toList = [] then(clsOf ns cs).getD (cIdx cs o.cls).toNat [] else if((clsOf ns cs).getD (cIdx cs o.cls).toNat []).contains (regN ns o.fix) then [regN ns o.fix] else []:=by
 unfold choiceS cIdx idxP
 cases h:cs.findIdx? (fun x=>eqB x.name o.cls) with
 | none=>simp
 |some k=>
  have h0:¬ ((k:Int)<0):=by omega
  by_cases hf:o.fix.toList = []
  ·simp[hf,h0]
  ·simp[hf,h0]
theorem qbX{ns:List ByteArray}{cs:List ClassD}(o:OperD)(hne:∀l,l∈clsOf ns cs->l ≠ []):operandB ns cs o = !decide (choiceS ns cs o = []):=by
 have hr:=xy cs o.cls
 rw[jo]
 unfold operandB inC
 have hlen:(clsOf ns cs).length=cs.length:=by simp[clsOf]
 by_cases h0:cIdx cs o.cls<0
 ·rw[if_pos h0];simp;omega
 ·rw[if_neg h0]
  have hlt:(cIdx cs o.cls).toNat<(clsOf ns cs).length:=by omega
  have hmem:(clsOf ns cs).getD (cIdx cs o.cls).toNat [] ≠ []:=by
   rw[List.getD,List.getElem?_eq_getElem hlt];exact hne _ (List.getElem_mem _)
  have e1:decide (0<=cIdx cs o.cls)=true:=by simpa using h0
  have e2:decide (cIdx cs o.cls<((clsOf ns cs).length:Int))=true:=by simp;omega
  rw[e1,e2]
  by_cases hf:o.fix.toList = []
  ·rw[if_pos hf];simpa[hf] using hmem
  ·rw[if_neg hf]
   cases hc:((clsOf ns cs).getD (cIdx cs o.cls).toNat []).contains (regN ns o.fix)
   ·simp[hf]
   ·simp[hf]
def yq(ps:List Plc)(cls:List (List Int)):Prop:=∀l,l∈cls->l ≠ []/\∀x,x∈l->(plc ps x).2.2=(plc ps (l.headD 0)).2.2
theorem xV{ns:List ByteArray}{ps:List Plc}{cs:List ClassD}{o:OperD}(h:yq ps (clsOf ns cs)){x:Int}(hx:x∈choiceS ns cs o):(plc ps x).2.2=widthC ps (clsOf ns cs) (cIdx cs o.cls):=by
 have hr:=xy cs o.cls
 have hlen:(clsOf ns cs).length=cs.length:=by simp[clsOf]
 rw[jo] at hx
 by_cases h0:cIdx cs o.cls<0
 ·rw[if_pos h0] at hx;cases hx
 ·rw[if_neg h0] at hx
  have hlt:(cIdx cs o.cls).toNat<(clsOf ns cs).length:=by omega
  have hget:(clsOf ns cs).getD (cIdx cs o.cls).toNat []=(clsOf ns cs)[(cIdx cs o.cls).toNat]:=by rw[List.getD,List.getElem?_eq_getElem hlt];rfl
  obtain⟨h1,h2⟩:=h _ (List.getElem_mem hlt)
  rw[←hget] at h1 h2
  unfold widthC
  rw[if_pos ⟨by omega,by omega,h1⟩]
  apply h2
  by_cases hf:o.fix.toList = []
  ·rwa [if_pos hf] at hx
  ·rw[if_neg hf] at hx
   cases hc:((clsOf ns cs).getD (cIdx cs o.cls).toNat []).contains (regN ns o.fix)
   ·rw[hc] at hx;cases hx
   ·rw[hc] at hx
    have:x=regN ns o.fix:=by simpa using hx
    subst this
    simpa[List.contains_eq_mem] using hc
theorem qaz{ns:List ByteArray}{x:ByteArray}(h:0<=regN ns x):ns[(regN ns x).toNat]?=some x:=by
 unfold regN at h ⊢
 rcases idxP_spec (fun y=>eqB y x) ns with⟨e,_⟩|⟨k,y,hk,hp,_,e⟩
 ·rw[e] at h;omega
 ·rw[e]
  have:y=x:=by simpa[eqB] using hp
  subst this
  simpa using hk
theorem qeW{ns:List ByteArray}{x y:ByteArray}(h:0<=regN ns x)(he:regN ns x=regN ns y):x=y:=by
 have h1:=qaz h
 have h2:=qaz (ns:=ns) (x:=y) (by omega)
 rw[he] at h1
 exact Option.some.inj (h1.symm.trans h2)
def yV(ns l:List ByteArray)(j:Nat)(x:ByteArray):Prop:=0<=regN ns x/\(j:Int)<=idxP (fun y=>eqB y x) l
theorem yu(ns l:List ByteArray):(regsOk ns l 64 && !qv [] (regsL ns l))=true↔l.length<=64/\∀ (j:Nat) (x:ByteArray),l[j]?=some x->yV ns l j x:=by
 unfold regsOk
 simp only[Bool.and_eq_true,decide_eq_true_eq,Bool.not_eq_true']
 rw[jn,jH]
 constructor
 ·rintro⟨⟨h1,h2⟩,h3⟩
  refine⟨h1,fun j x hj=>⟨h2 x (List.mem_of_getElem? hj),?_⟩⟩
  have hp:(fun y=>eqB y x) x=true:=by simp[eqB]
  rcases Int.lt_or_le (idxP (fun y=>eqB y x) l) (j:Int) with h|h
  ·exfalso
   have h4:=(yp (p:=fun y=>eqB y x) hj hp).1 h
   rcases idxP_cases (fun y=>eqB y x) (l.take j) with⟨e,_⟩|⟨k,hk,e,hpk⟩
   ·omega
   ·have hx2:(l.take j)[k]=x:=by simpa[eqB] using hpk
    have:=h3 j (regN ns x) (by unfold regsL;rw[List.getElem?_map,hj];rfl)
    rw[List.nil_append,←zX,List.contains_eq_mem,decide_eq_false_iff_not] at this
    exact this (List.mem_map.2 ⟨x,by rw[←hx2];exact List.getElem_mem hk,rfl⟩)
  ·exact h
 ·rintro⟨h1,h2⟩
  refine⟨⟨h1,fun x hx=>?_⟩,fun j y hj=>?_⟩
  ·obtain⟨j,hj⟩:=List.getElem?_of_mem hx
   exact(h2 j x hj).1
  ·unfold regsL at hj
   rw[List.getElem?_map] at hj
   cases hx:l[j]? with
   | none=>rw[hx] at hj;cases hj
   |some x=>
    rw[hx] at hj
    cases hj
    rw[List.nil_append,←zX,List.contains_eq_mem,decide_eq_false_iff_not]
    intro hm
    obtain⟨z,hz,he⟩:=List.mem_map.1 hm
    obtain⟨h3,h4⟩:=h2 j x hx
    have:x=z:=qeW h3 he.symm
    subst this
    have hp:(fun y=>eqB y x) x=true:=by simp[eqB]
    have h5:0<=idxP (fun y=>eqB y x) (l.take j):=by
     rcases idxP_cases (fun y=>eqB y x) (l.take j) with⟨_,hn⟩|⟨k,hk,e,_⟩
     ·have:=hn x hz;simp[eqB] at this
     ·omega
    have:=(yp (p:=fun y=>eqB y x) hx hp).2 h5
    omega
def tieR(o:OpD):Bool:=!(decide (o.tie < -1)||(decide ((o.uses.length:Int)<=o.tie)||(decide (0<=o.tie) && !(match o.uses[o.tie.toNat]? with|some u=>ye u o.d|none=>true))))
theorem ZZ(a b:OperD):ye a b=ye b a:=by
 unfold ye eqB
 rw[Bool.eq_iff_iff]
 simp only[Bool.and_eq_true,decide_eq_true_eq]
 exact⟨fun⟨h,k⟩=>⟨h.symm,k.symm⟩,fun⟨h,k⟩=>⟨h.symm,k.symm⟩⟩
theorem qbY(o:OpD):tieR o=zp o:=by
 unfold tieR zp
 rw[Bool.eq_iff_iff]
 simp only[Bool.not_eq_true',Bool.or_eq_false_iff,Bool.and_eq_false_iff,Bool.or_eq_true,Bool.and_eq_true,decide_eq_true_eq,decide_eq_false_iff_not]
 constructor
 ·rintro⟨h1,h2,h3⟩
  by_cases h0:0<=o.tie
  ·refine .inr ⟨⟨h0,by omega⟩,?_⟩
   rcases h3 with h3|h3
   ·exact absurd h0 h3
   ·have hlt:o.tie.toNat<o.uses.length:=by omega
    rw[List.getElem?_eq_getElem hlt] at h3 ⊢
    dsimp only at h3 ⊢
    rw[ZZ];simpa using h3
  ·exact .inl (by omega)
 ·rintro(h|⟨⟨h1,h2⟩,h3⟩)
  ·exact⟨by omega,by omega,.inl (by omega)⟩
  ·refine⟨by omega,by omega,.inr ?_⟩
   have hlt:o.tie.toNat<o.uses.length:=by omega
   rw[List.getElem?_eq_getElem hlt] at h3 ⊢
   dsimp only at h3 ⊢
   rw[ZZ];simpa using h3
theorem Qk{l:List Int}(h:l ≠ []):l.headD 0∈l:=by
 cases l with
 | nil=>exact absurd rfl h
 | cons a r=>exact List.mem_cons_self
structure OpGood(ns:List ByteArray)(ps:List Plc)(cs:List ClassD)(o:OpD):Prop where
 len:o.uses.length=arityN o.name
 d:operandB ns cs o.d=true
 u:∀u,u∈o.uses->operandB ns cs u=true
 w:∀u,u∈o.uses->widthC ps (clsOf ns cs) (cIdx cs u.cls)=widthC ps (clsOf ns cs) (cIdx cs o.d.cls)
 tie:tieR o=true
 few:o.clob.length<=64
 clob:∀ (j:Nat) (x:ByteArray),o.clob[j]?=some x->yV ns o.clob j x
theorem QO{ns:List ByteArray}{ps:List Plc}{cs:List ClassD}(h:yq ps (clsOf ns cs))(o:OpD):opFine ns ps cs o=true↔OpGood ns ps cs o:=by
 have hne:∀l,l∈clsOf ns cs->l ≠ []:=fun l hl=>(h l hl).1
 have hdist:=yu ns o.clob
 rw[Bool.and_eq_true,Bool.not_eq_true'] at hdist
 have hw:choiceS ns cs o.d ≠ []->(∀u,u∈o.uses->choiceS ns cs u ≠ [])->(oneWidthB ps (choiceS ns cs o.d++(o.uses.map (choiceS ns cs)).flatten)=true↔∀u,u∈o.uses->widthC ps (clsOf ns cs) (cIdx cs u.cls)=widthC ps (clsOf ns cs) (cIdx cs o.d.cls)):=fun hd hu=>by
  have hh:(choiceS ns cs o.d++(o.uses.map (choiceS ns cs)).flatten).headD 0=(choiceS ns cs o.d).headD 0:=by
   cases hc:choiceS ns cs o.d with
   | nil=>exact absurd hc hd
   | cons a r=>rfl
  unfold oneWidthB
  rw[hh,xV h (Qk hd),Bool.not_eq_true',List.any_eq_false]
  constructor
  ·intro hall u hm
   have:=hall _ (List.mem_append_right _ (List.mem_flatten.2 ⟨_,List.mem_map.2 ⟨u,hm,rfl⟩,Qk (hu u hm)⟩))
   rw[xV h (Qk (hu u hm))] at this
   simpa using this
  ·intro hall x hx
   rcases List.mem_append.1 hx with hx|hx
   ·rw[xV h hx];simp
   ·obtain⟨l,hl,hxl⟩:=List.mem_flatten.1 hx
    obtain⟨u,hm,rfl⟩:=List.mem_map.1 hl
    rw[xV h hxl,hall u hm];simp
 have hall:(o.uses.all fun u=>!decide (choiceS ns cs u = []))=true↔∀u,u∈o.uses->choiceS ns cs u ≠ []:=by
  rw[List.all_eq_true];exact⟨fun h u hu=>by simpa using h u hu,fun h u hu=>by simpa using h u hu⟩
 have hop:∀u:OperD,operandB ns cs u=true↔choiceS ns cs u ≠ []:=fun u=>by rw[qbX u hne];simp
 unfold opFine
 simp only[Bool.and_eq_true,decide_eq_true_eq,Bool.not_eq_true',decide_eq_false_iff_not]
 rw[hall]
 constructor
 ·rintro⟨⟨⟨⟨⟨⟨h1,h2⟩,h3⟩,h4⟩,h5⟩,h6⟩,h7⟩
  exact⟨h1,(hop _).2 h6,fun u hu=>(hop u).2 (h5 u hu),(hw h6 h5).1 h7,by rw[qbY];exact h2,(hdist.1 ⟨h3,h4⟩).1,(hdist.1 ⟨h3,h4⟩).2⟩
 ·rintro⟨h1,h2,h3,h4,h5,h6,h7⟩
  have hc:=hdist.2 ⟨h6,h7⟩
  have hu:=fun u hu=>(hop u).1 (h3 u hu)
  have hd:=(hop _).1 h2
  exact⟨⟨⟨⟨⟨⟨h1,by rw[←qbY];exact h5⟩,hc.1⟩,hc.2⟩,hu⟩,hd⟩,(hw hd hu).2 h4⟩
theorem XT{ns:List ByteArray}{ps:List Plc}{cs:List ClassD}(h:∀k:ClassD,k∈cs->classFine ns ps k=true):yq ps (clsOf ns cs):=fun l hl=>by
 obtain⟨k,hk,rfl⟩:=List.mem_map.1 hl
 have hf:=h k hk
 unfold classFine oneWidthB at hf
 simp only[Bool.and_eq_true,Bool.not_eq_true',decide_eq_false_iff_not] at hf
 refine⟨fun e=>hf.1.1.2 (by simpa[regsL] using e),fun x hx=>?_⟩
 have:=List.any_eq_false.1 hf.2 x hx
 simpa using this
def xz(ns:List ByteArray)(ps:List Plc)(l:List ByteArray)(j:Nat)(x:ByteArray):Prop:=
 0<=regN ns x/\∀ (k:Nat) (y:ByteArray),k<j->l[k]?=some y->lapP (plc ps (regN ns x)) (plc ps (regN ns y))=false
theorem ZI(ns:List ByteArray)(ps:List Plc)(l:List ByteArray):((regsL ns l).contains (-1)=false/\apartB ps (regsL ns l)=true)↔∀ (j:Nat) (x:ByteArray),l[j]?=some x->xz ns ps l j x:=by
 unfold apartB
 rw[jn,QB]
 constructor
 ·rintro⟨h1,h2⟩ j x hj
  refine⟨h1 x (List.mem_of_getElem? hj),fun k y hk hy=>?_⟩
  have:=h2 j (regN ns x) (by unfold regsL;rw[List.getElem?_map,hj];rfl)
  unfold lapsOneB at this
  rw[List.nil_append,←zX] at this
  have:=List.any_eq_false.1 this (regN ns y) (List.mem_map.2 ⟨y,List.mem_of_getElem? (i:=k) (by rw[List.getElem?_take_of_lt hk];exact hy),rfl⟩)
  simpa using this
 ·intro h
  refine⟨fun x hx=>?_,fun j z hj=>?_⟩
  ·obtain⟨j,hj⟩:=List.getElem?_of_mem hx
   exact(h j x hj).1
  ·unfold regsL at hj
   rw[List.getElem?_map] at hj
   cases hx:l[j]? with
   | none=>rw[hx] at hj;cases hj
   |some x=>
    rw[hx] at hj
    cases hj
    unfold lapsOneB
    rw[List.nil_append,←zX,List.any_eq_false]
    intro s hs
    obtain⟨y,hy,rfl⟩:=List.mem_map.1 hs
    obtain⟨k,hk⟩:=List.getElem?_of_mem hy
    have hkj:k<j:=by have:=(List.getElem?_eq_some_iff.1 hk).1;simp at this;omega
    rw[List.getElem?_take_of_lt hkj] at hk
    simp[(h j x hx).2 k y hkj hk]
theorem ZJ(a b:Plc):lapP a b=lapP b a:=by
 unfold lapP lapB
 rw[Bool.eq_iff_iff]
 simp only[Bool.and_eq_true,decide_eq_true_eq]
 exact⟨fun⟨h,k,l⟩=>⟨h.symm,l,k⟩,fun⟨h,k,l⟩=>⟨h.symm,l,k⟩⟩
theorem yW(ps:List Plc)(r:Int):∀ (l pre:List Int),qV ps pre (l++[r])=(qV ps pre l && !lapsOneB ps r (pre++l))
 | [],pre=>by simp[qV]
 |a::l,pre=>by
  rw[List.cons_append]
  unfold qV
  rw[yW ps r l (pre++[a]),Bool.and_assoc,List.append_assoc]
  rfl
structure qeX(ns:List ByteArray)(ps:List Plc)(args:List ByteArray)(result:ByteArray)(saved:List ByteArray)(slots:Int):Prop where
 few:args.length<=16
 argsG:∀ (j:Nat) (x:ByteArray),args[j]?=some x->xz ns ps args j x
 res:0<=regN ns result
 fewS:saved.length<=64
 savedG:∀ (j:Nat) (x:ByteArray),saved[j]?=some x->xz ns ps saved j x
 s0:0<=slots
 s1:slots<=1000
 clear:∀x,x∈saved->lapP (plc ps (regN ns result)) (plc ps (regN ns x))=false
theorem qeY(ns:List ByteArray)(ps:List Plc)(args:List ByteArray)(result:ByteArray)(saved:List ByteArray)(slots:Int):qs ns ps args result saved slots=true↔qeX ns ps args result saved slots:=by
 have ha:=ZI ns ps args
 have hs:=ZI ns ps saved
 have hsn:apartB ps (regsL ns saved++[regN ns result])=true↔apartB ps (regsL ns saved)=true/\∀x,x∈saved->lapP (plc ps (regN ns result)) (plc ps (regN ns x))=false:=by
  unfold apartB
  rw[yW,Bool.and_eq_true,Bool.not_eq_true']
  refine and_congr Iff.rfl ?_
  unfold lapsOneB
  rw[List.nil_append,List.any_eq_false]
  constructor
  ·intro h x hx;have:=h _ (List.mem_map.2 ⟨x,hx,rfl⟩);simpa using this
  ·intro h r hr;obtain⟨x,hx,rfl⟩:=List.mem_map.1 hr;simp[h x hx]
 unfold qs regsOk
 simp only[Bool.and_eq_true,decide_eq_true_eq,Bool.not_eq_true']
 rw[hsn]
 constructor
 ·rintro⟨⟨⟨⟨⟨⟨h1,h2⟩,h3,h4⟩,h5⟩,h6⟩,h7⟩,h8,h9,h10⟩
  exact⟨h1,ha.1 ⟨h2,h8⟩,h5,h3,hs.1 ⟨h4,h9⟩,h6,h7,h10⟩
 ·rintro⟨h1,h2,h3,h4,h5,h6,h7,h8⟩
  have h9:=ha.2 h2
  have h10:=hs.2 h5
  exact⟨⟨⟨⟨⟨⟨h1,h9.1⟩,h4,h10.1⟩,h3⟩,h6⟩,h7⟩,h9.2,h10.2,h8⟩
theorem xW(ps:List Plc)(A B:List Int):qt ps [A,B]=A.any fun a=>B.any fun b=>!lapP (plc ps a) (plc ps b):=by
 have e:∀a b,apartB ps [a,b] = !lapP (plc ps a) (plc ps b):=fun a b=>by
  simp[apartB,qV,lapsOneB];rw[ZJ]
 unfold qt
 simp only[choicesS,List.any_flatMap,List.map_cons,List.map_nil,List.any_map]
 rw[Bool.eq_iff_iff]
 simp[e,Function.comp_def]
theorem Zk(ps:List Plc)(A:List Int):qt ps [A] = !decide (A = []):=by
 have e:∀a,apartB ps [a]=true:=fun a=>by simp[apartB,qV,lapsOneB]
 unfold qt choicesS
 rw[Bool.eq_iff_iff]
 cases A with
 | nil=>simp
 | cons a r=>simp[choicesS,e]
def QD(o:OpR):List Int:=match o.uses with|_::B::_=>B|_=>[-1]
def Zl(ps:List Plc)(a b:Int):Bool:=(decide (0<=a)&&decide (0<=b))&&lapP (plc ps a) (plc ps b)
def clearB(ps:List Plc)(o:OpR)(r:Int):Bool:=o.clob.all fun c=>!lapP (plc ps c) (plc ps r)
def fitsR(ps:List Plc)(o:OpR):Bool:=
 if 0<=o.tie then(o.uses.headD []).any fun a=>(QD o).any fun b=>!Zl ps a b&&(o.d.contains (if o.tie=0 then a else b)&&clearB ps o (if o.tie=0 then a else b))
 else((o.uses.headD []).any fun a=>(QD o).any fun b=>!Zl ps a b)&&o.d.any (clearB ps o)
theorem qeZ(ps:List Plc)(o:OpR)(r:Int):clearB ps o r = !lapsOneB ps r o.clob:=by
 unfold clearB lapsOneB
 rw[Bool.eq_iff_iff,List.all_eq_true,Bool.not_eq_true',List.any_eq_false]
 exact⟨fun h s hs=>by have:=h s hs;rw[ZJ] at this;simpa using this,fun h s hs=>by have:=h s hs;rw[ZJ];simpa using this⟩
theorem zY(ps:List Plc)(o:OpR)(r:Int):r∈defLeft ps o↔r∈o.d/\clearB ps o r=true:=by
 unfold defLeft;rw[List.mem_filter,qeZ]
theorem yX(ps:List Plc)(o:OpR):o.d.any (clearB ps o) = !decide (defLeft ps o = []):=by
 rw[Bool.eq_iff_iff,List.any_eq_true]
 simp only[Bool.not_eq_true',decide_eq_false_iff_not]
 constructor
 ·rintro⟨r,h1,h2⟩ e
  have:=(zY ps o r).2 ⟨h1,h2⟩
  rw[e] at this;cases this
 ·intro h
  have:=Qk h
  exact⟨_,(zY ps o _).1 this⟩
theorem qfa{ps:List Plc}{o:OpR}(hl:o.uses.length=1∨o.uses.length=2)(ht:o.tie<o.uses.length)(htie:0<=o.tie->o.uses[o.tie.toNat]?=some o.d)(hd:∀x,x∈o.d->0<=x)(hu:∀l,l∈o.uses->∀x,x∈l->0<=x):fitsR ps o=zR ps o:=by
 have hX:∀a b:Int,0<=a->0<=b->Zl ps a b=lapP (plc ps a) (plc ps b):=fun a b h1 h2=>by unfold Zl;simp[h1,h2]
 have hN:∀a:Int,Zl ps a (-1)=false:=fun a=>by unfold Zl;simp
 obtain⟨d,uses,tie,clob⟩:=o
 dsimp only at hl ht htie hd hu
 match uses,hl with
 |[A],_=>
  unfold fitsR zR usesLeft QD
  dsimp only[List.headD_cons]
  by_cases h0:0<=tie
  ·rw[if_pos h0,if_pos h0]
   have:tie=0:=by simp at ht;omega
   subst this
   have hA:A=d:=by simpa using htie (by decide)
   subst hA
   show _=(!decide (defLeft ps ⟨A,[A],0,clob⟩ = [])&&qt ps [defLeft ps ⟨A,[A],0,clob⟩])
   rw[Zk,Bool.and_self,←yX]
   rw[Bool.eq_iff_iff]
   simp[hN,List.any_eq_true]
  ·rw[if_neg h0,if_neg h0,Zk,←yX,Bool.and_comm]
   congr 1
   rw[Bool.eq_iff_iff]
   cases A with
   | nil=>simp
   | cons a r=>simp[hN]
 |[A,B],_=>
  have hA:∀x,x∈A->0<=x:=hu A (by simp)
  have hB:∀x,x∈B->0<=x:=hu B (by simp)
  unfold fitsR zR usesLeft QD
  dsimp only[List.headD_cons]
  have hany:∀ (p:Int->Int->Bool),(∀a b,a∈A->b∈B->True)->(A.any fun a=>B.any fun b=>!Zl ps a b&&p a b)=A.any fun a=>B.any fun b=>!lapP (plc ps a) (plc ps b)&&p a b:=fun p _=>by
   rw[Bool.eq_iff_iff,List.any_eq_true,List.any_eq_true]
   constructor
   ·rintro⟨a,ha,h⟩
    obtain⟨b,hb,h2⟩:=List.any_eq_true.1 h
    exact⟨a,ha,List.any_eq_true.2 ⟨b,hb,by rwa [hX a b (hA a ha) (hB b hb)] at h2⟩⟩
   ·rintro⟨a,ha,h⟩
    obtain⟨b,hb,h2⟩:=List.any_eq_true.1 h
    exact⟨a,ha,List.any_eq_true.2 ⟨b,hb,by rwa [hX a b (hA a ha) (hB b hb)]⟩⟩
  by_cases h0:0<=tie
  ·rw[if_pos h0,if_pos h0,hany _ (fun _ _ _ _=>trivial)]
   have h01:tie=0∨tie=1:=by simp at ht;omega
   rcases h01 with rfl|rfl
   ·have hA2:A=d:=by simpa using htie (by decide)
    subst hA2
    show _=(!decide (defLeft ps ⟨A,[A,B],0,clob⟩ = [])&&qt ps [defLeft ps ⟨A,[A,B],0,clob⟩,B])
    rw[xW,Bool.eq_iff_iff]
    simp only[Bool.and_eq_true,List.any_eq_true,Bool.not_eq_true',decide_eq_false_iff_not,if_true,List.contains_eq_mem,decide_eq_true_eq]
    constructor
    ·rintro⟨a,ha,b,hb,h1,_,h2⟩
     have hm:=(zY ps ⟨A,[A,B],0,clob⟩ a).2 ⟨ha,h2⟩
     exact⟨fun e=>(by rw[e] at hm;cases hm),a,hm,b,hb,h1⟩
    ·rintro⟨_,a,ha,b,hb,h1⟩
     have hm:=(zY ps ⟨A,[A,B],0,clob⟩ a).1 ha
     exact⟨a,hm.1,b,hb,h1,hm.1,hm.2⟩
   ·have hB2:B=d:=by simpa using htie (by decide)
    subst hB2
    show _=(!decide (defLeft ps ⟨B,[A,B],1,clob⟩ = [])&&qt ps [A,defLeft ps ⟨B,[A,B],1,clob⟩])
    rw[xW,Bool.eq_iff_iff]
    simp only[Bool.and_eq_true,List.any_eq_true,Bool.not_eq_true',decide_eq_false_iff_not,List.contains_eq_mem,decide_eq_true_eq]
    constructor
    ·rintro⟨a,ha,b,hb,h1,_,h2⟩
     have hm:=(zY ps ⟨B,[A,B],1,clob⟩ b).2 ⟨hb,h2⟩
     exact⟨fun e=>(by rw[e] at hm;cases hm),a,ha,b,hm,h1⟩
    ·rintro⟨_,a,ha,b,hb,h1⟩
     have hm:=(zY ps ⟨B,[A,B],1,clob⟩ b).1 hb
     exact⟨a,ha,b,hm.1,h1,hm.1,hm.2⟩
  ·rw[if_neg h0,if_neg h0,xW,←yX,Bool.and_comm]
   have:=hany (fun _ _=>true) (fun _ _ _ _=>trivial)
   simp only[Bool.and_true] at this
   rw[this]
theorem QE(ps:List Plc):∀cls:List (List Int),zm ps cls=true↔∀ (i j:Nat) (x y:List Int),i<=j->cls[i]?=some x->cls[j]?=some y->qt ps [x,y]=true
 | []=>by simp[zm]
 |a::rest=>by
  unfold zm
  rw[Bool.and_eq_true,QE ps rest,List.all_eq_true]
  constructor
  ·rintro⟨h1,h2⟩ i j x y hij hx hy
   cases i with
   |zero=>
    cases hx
    exact h1 y (List.mem_of_getElem? hy)
   |succ i=>
    cases j with
    | zero=>omega
    | succ j=>exact h2 i j x y (by omega) (by simpa using hx) (by simpa using hy)
  ·intro h
   refine⟨fun y hy=>?_,fun i j x y hij hx hy=>h (i+1) (j+1) x y (by omega) (by simpa using hx) (by simpa using hy)⟩
   obtain⟨j,hj⟩:=List.getElem?_of_mem hy
   exact h 0 j a y (Nat.zero_le _) rfl hj
end Go.Proofs.YtkoloennfejaaaaGreatDoor
