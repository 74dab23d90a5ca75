
import Derived.Test.YtomlgdnafeeeiaaGreatDoorGeoTwo
import Derived.Deep.OwnRows
import Derived.Deep.LoopGhost
import Derived.Shelf.GgClosure.Gives
import Derived.Lib.SliceRun
import Derived.Laws.StructEq
set_option maxHeartbeats 3200000
set_option maxRecDepth 100000
/-
 What the checks of mdcheck answer,as plain functions of lists: registers' numbers,classes,operations,the convention,room. And what follows: see the heads within.
-/
namespace Go.Proofs.YtomlgdnafeeeiaaGreatDoor
open Proofs.Tryz
open Go.RowKit
def zM{α:Type}(p:α->Bool)(l:List α):Int:=
 match l.findIdx? p with
 | some k=>(k:Int)
 | none=>-1
theorem qau{α:Type}{p:α->Bool}{l:List α}{k:Nat}{a:α}(h:∀j,j<k->∀b,l[j]?=some b->p b=false)(hk:l[k]?=some a)(hp:p a=true):zM p l=(k:Int):=by
 have hlt:k<l.length:=(vS.1 hk).1
 have:l.findIdx? p=some k:=by
  rw[List.findIdx?_eq_some_iff_getElem]
  refine⟨hlt,?_,fun j hj=>?_⟩
  ·rw[←hp,←(vS.1 hk).2]
  ·rw[h j hj l[j] (vE (by omega))];simp
 unfold zM;rw[this]
theorem Yq{α:Type}{p:α->Bool}{l:List α}(h:∀ (j:Nat) b,l[j]?=some b->p b=false):zM p l = -1:=by
 have:l.findIdx? p=none:=by
  rw[List.findIdx?_eq_none_iff]
  intro x hx
  obtain⟨j,hj⟩:=List.getElem?_of_mem hx
  rw[h j x hj]
 unfold zM;rw[this]
theorem xh{α:Type}(p:α->Bool)(l:List α):(zM p l = -1/\∀x,x∈l->p x=false)∨∃ (k:Nat) (hk:k<l.length),zM p l=(k:Int)/\p l[k]=true:=by
 unfold zM
 cases h:l.findIdx? p with
 | none=>exact .inl ⟨rfl,fun x hx=>by simpa using(List.findIdx?_eq_none_iff.1 h) x hx⟩
 |some k=>
  obtain⟨hk,hp,_⟩:=List.findIdx?_eq_some_iff_getElem.1 h
  exact .inr ⟨k,hk,rfl,hp⟩
theorem qgL{α:Type}(p:α->Bool)(l:List α) : -1<=zM p l/\zM p l<(l.length:Int)+0∨(zM p l = -1):=by
 rcases xh p l with⟨h,_⟩|⟨k,hk,h,_⟩
 ·exact .inr h
 ·exact .inl (by omega)
structure zL where
 cls:ByteArray
 fix:ByteArray
structure OpD where
 name:ByteArray
 d:zL
 uses:List zL
 tie:Int
 clob:List ByteArray
structure qp where
 name:ByteArray
 regs:List ByteArray
abbrev Plc:=Int×Int×Int
structure OpR where
 d:List Int
 uses:List (List Int)
 tie:Int
 clob:List Int
def eqB(s t:ByteArray):Bool:=decide (s=t)
def qv(ns:List ByteArray)(s:ByteArray):Int:=zM (fun x=>eqB x s) ns
theorem zO(ns:List ByteArray)(s:ByteArray) : -1<=qv ns s/\qv ns s<ns.length:=by
 unfold qv
 rcases xh (fun x=>eqB x s) ns with⟨h,_⟩|⟨k,hk,h,_⟩ <;> omega
def qW(pre:List Int):List Int->Bool
 | []=>false
 | x::r=>pre.contains x||qW (pre++[x]) r
def zR(a b:Plc):Bool:=decide (a.1=b.1)&&jN a.2.1 a.2.2 b.2.1 b.2.2
def plc(ps:List Plc)(r:Int):Plc:=ps.getD r.toNat (0,0,0)
def zN(ps:List Plc)(r:Int)(l:List Int):Bool:=l.any fun s=>zR (plc ps r) (plc ps s)
def xA(ps:List Plc)(pre:List Int):List Int->Bool
 | []=>true
 | r::l=>!zN ps r pre&&xA ps (pre++[r]) l
def zS(ps:List Plc)(l:List Int):Bool:=xA ps [] l
def xJ(ps:List Plc)(l:List Int):Bool:=!(l.any fun r=>decide ((plc ps r).2.2≠(plc ps (l.headD 0)).2.2))
def qh(ns l:List ByteArray):List Int:=l.map (qv ns)
def zx(ns l:List ByteArray)(most:Nat):Bool:=decide (l.length<=most) && !(qh ns l).contains (-1)
def zw(ns:List ByteArray)(ps:List Plc)(k:qp):Bool:=
 zx ns k.regs 64 && !decide (k.regs = []) && !qW [] (qh ns k.regs)&&xJ ps (qh ns k.regs)
def zT(nm:ByteArray->Bool)(ns:List ByteArray)(ps:List Plc)(pre:List qp)(k:qp):Int:=
 if(!nm k.name||decide (0<=zM (fun x:qp=>eqB x.name k.name) pre)||decide (0<=qv ns k.name))=true then 5
 else if zw ns ps k=true then 0 else 8
def zA(nm:ByteArray->Bool)(ns:List ByteArray)(ps:List Plc)(pre:List qp):List qp->Int
 | []=>0
 | k::rest=>if zT nm ns ps pre k=0 then zA nm ns ps (pre++[k]) rest else zT nm ns ps pre k
def qy(nm:ByteArray->Bool)(ns:List ByteArray)(ps:List Plc)(l:List qp):Int:=if 64<l.length then 2 else zA nm ns ps [] l
def qr(ns:List ByteArray)(l:List qp):List (List Int):=l.map fun k=>qh ns k.regs
def jO:List (List UInt8):=[[97,100,100],[115,117,98],[109,117,108],[97,110,100],[111,114],[120,111,114],[115,104,108],[115,104,114],[100,105,118],[114,101,109],[108,116],[101,113]]
def zk(s:ByteArray):Nat:=if jO.contains s.toList then 2 else if s.toList==[110,111,116] then 1 else 0
def ql(ns:List ByteArray)(cs:List qp)(o:zL):List Int:=
 match cs.findIdx? (fun x=>eqB x.name o.cls) with
 | none=>[]
 |some k=>
  if o.fix.toList==[] then(qr ns cs).getD k []
  else if((qr ns cs).getD k []).contains (qv ns o.fix) then [qv ns o.fix] else []
def ZA(a b:zL):Bool:=eqB a.cls b.cls&&eqB a.fix b.fix
def jd(o:OpD):Bool:=decide (o.tie = -1)||(decide (0<=o.tie)&&decide (o.tie<o.uses.length)&&(match o.uses[o.tie.toNat]? with|some u=>ZA o.d u|none=>false))
def opR(ns:List ByteArray)(cs:List qp)(o:OpD):OpR:=⟨ql ns cs o.d,o.uses.map (ql ns cs),o.tie,qh ns o.clob⟩
def jm(ns:List ByteArray)(ps:List Plc)(cs:List qp)(o:OpD):Bool:=
 decide (o.uses.length=zk o.name)&&jd o&&zx ns o.clob 64 && !qW [] (qh ns o.clob) &&
  (o.uses.all fun u=>!decide (ql ns cs u = [])) && !decide (ql ns cs o.d = [])&&xJ ps (ql ns cs o.d++(o.uses.map (ql ns cs)).flatten)
def jI(ns:List ByteArray)(ps:List Plc)(cs:List qp)(pre:List OpD)(o:OpD):Int:=
 if(decide (zk o.name=0)||decide (0<=zM (fun x:OpD=>eqB x.name o.name) pre))=true then 5
 else if jm ns ps cs o=true then 0 else 9
def jj(ns:List ByteArray)(ps:List Plc)(cs:List qp)(pre:List OpD):List OpD->Int
 | []=>0
 | o::rest=>if jI ns ps cs pre o=0 then jj ns ps cs (pre++[o]) rest else jI ns ps cs pre o
def jf(ns:List ByteArray)(ps:List Plc)(cs:List qp)(l:List OpD):Int:=if 64<l.length then 2 else jj ns ps cs [] l
def qL(ns:List ByteArray)(ps:List Plc)(args:List ByteArray)(result:ByteArray)(saved:List ByteArray)(slots:Int):Bool:=
 (zx ns args 16&&zx ns saved 64&&decide (0<=qv ns result)&&decide (0<=slots)&&decide (slots<=1000))&&(zS ps (qh ns args)&&zS ps (qh ns saved++[qv ns result]))
def qX(cls:List (List Int))(l:List Int):Bool:=l.all fun r=>cls.any fun k=>k.contains r
def zX:List (List Int)->List (List Int)
 | []=>[[]]
 | l::rest=>l.flatMap fun r=>(zX rest).map fun t=>r::t
def qP(ps:List Plc)(ls:List (List Int)):Bool:=(zX ls).any (zS ps)
def xq(ps:List Plc)(o:OpR):List Int:=o.d.filter fun r=>!zN ps r o.clob
def xx(ps:List Plc)(o:OpR):List (List Int):=if 0<=o.tie then o.uses.set o.tie.toNat (xq ps o) else o.uses
def yf(ps:List Plc)(o:OpR):Bool:=!decide (xq ps o = [])&&qP ps (xx ps o)
def jb(ps:List Plc):List (List Int)->Bool
 | []=>true
 | a::rest=>((a::rest).all fun b=>qP ps [a,b])&&jb ps rest
def zQ(ps:List Plc)(cls:List (List Int))(ops:List OpR):Bool:=ops.all (yf ps)&&jb ps cls
structure qz where
 name:ByteArray
 classes:List qp
 ops:List OpD
 args:List ByteArray
 result:ByteArray
 saved:List ByteArray
 slots:Int
def zV(nm:ByteArray->Bool)(m:qz)(e:Int)(ns:List ByteArray)(ps:List Plc):Int:=
 if nm m.name=false then 5
 else if e≠0 then e
 else if ns = [] then 1
 else if qy nm ns ps m.classes≠0 then qy nm ns ps m.classes
 else if jf ns ps m.classes m.ops≠0 then jf ns ps m.classes m.ops
 else if qL ns ps m.args m.result m.saved m.slots=false then 10
 else if qX (qr ns m.classes) (qh ns m.args++[qv ns m.result])=false then 10
 else if zQ ps (qr ns m.classes) (m.ops.map (opR ns m.classes))=false then 11
 else 0
structure SlV where
 a:Option Addr
 n:Nat
 c:Nat
structure MV where
 name:ByteArray
 regs:SlV
 classes:SlV
 ops:SlV
 args:SlV
 result:ByteArray
 saved:SlV
 slots:Int
structure CV where
 m:MV
 names:SlV
 places:SlV
 classes:SlV
 ops:SlV
 args:SlV
 result:Int
def SlV.v(s:SlV):Value:=.slice s.a s.n s.c
def MV.val(m:MV):Value:=.agg #[.string m.name,.slice m.regs.a m.regs.n m.regs.c,.slice m.classes.a m.classes.n m.classes.c,.slice m.ops.a m.ops.n m.ops.c,.slice m.args.a m.args.n m.args.c,.string m.result,.slice m.saved.a m.saved.n m.saved.c,.int .i64 m.slots]
def CV.cells(c:CV):Array Value:=#[.string c.m.name,.slice c.m.regs.a c.m.regs.n c.m.regs.c,.slice c.m.classes.a c.m.classes.n c.m.classes.c,.slice c.m.ops.a c.m.ops.n c.m.ops.c,.slice c.m.args.a c.m.args.n c.m.args.c,.string c.m.result,.slice c.m.saved.a c.m.saved.n c.m.saved.c,.int .i64 c.m.slots,
 .slice c.names.a c.names.n c.names.c,.slice c.places.a c.places.n c.places.c,.slice c.classes.a c.classes.n c.classes.c,.slice c.ops.a c.ops.n c.ops.c,.slice c.args.a c.args.n c.args.c,.int .i64 c.result]
def jq(W:World)(C:Nat)(c:CV):Prop:=qd W C 108 c.cells
def qG(W:World)(s:SlV)(l:List ByteArray):Prop:=
 s.n=l.length/\s.n<=s.c/\∀j x,l[j]?=some x->∃b o,s.a=some ⟨b,o,none⟩/\W.cell? ⟨b,o+j,none⟩=some (.string x)
theorem qG.below{W W':World}{s:SlV}{l:List ByteArray}(h:qG W s l)(hb:BX W W'):qG W' s l:=
 ⟨h.1,h.2.1,fun j x hj=>by obtain⟨b,o,h1,h2⟩:=h.2.2 j x hj;exact⟨b,o,h1,qb hb h2⟩⟩
def qJ(W:World)(s:SlV)(l:List Int):Prop:=
 s.n=l.length/\s.n<=s.c/\∀j x,l[j]?=some x->∃b o,s.a=some ⟨b,o,none⟩/\W.cell? ⟨b,o+j,none⟩=some (.int .i64 x)
theorem qJ.below{W W':World}{s:SlV}{l:List Int}(h:qJ W s l)(hb:BX W W'):qJ W' s l:=
 ⟨h.1,h.2.1,fun j x hj=>by obtain⟨b,o,h1,h2⟩:=h.2.2 j x hj;exact⟨b,o,h1,qb hb h2⟩⟩
theorem qG.of_row{W:World}{base n:Nat}{e:TypeId}{s:SlV}{l:List ByteArray}(h:W.ownsRow base e 1 s.v n (l.map Value.string))(hn:n=l.length):qG W s l:=by
 rcases h.2 with⟨h1,h2⟩|⟨g,cap,cur,h1,h2,h3,h4,_⟩
 ·unfold SlV.v at h1
  injection h1 with e1 e2 e3
  have hl:l = []:=vJ.1 (by omega)
  subst hl
  exact⟨by simp;omega,by omega,fun j x hj=>by simp at hj⟩
 ·unfold SlV.v at h1
  injection h1 with e1 e2 e3
  refine⟨by omega,by omega,fun j x hj=>⟨g,0,e1,?_⟩⟩
  rw[Nat.zero_add]
  have hv:s.v = .slice (some ⟨g,0,none⟩) s.n s.c:=by unfold SlV.v;rw[e1]
  rw[hv] at h
  exact qu h (by rw[vY,hj];rfl)
theorem qJ.of_row{W:World}{base n:Nat}{e:TypeId}{s:SlV}{l:List Int}(h:W.ownsRow base e 1 s.v n (l.map (Value.int .i64)))(hn:n=l.length):qJ W s l:=by
 rcases h.2 with⟨h1,h2⟩|⟨g,cap,cur,h1,h2,h3,h4,_⟩
 ·unfold SlV.v at h1
  injection h1 with e1 e2 e3
  have hl:l = []:=vJ.1 (by omega)
  subst hl
  exact⟨by simp;omega,by omega,fun j x hj=>by simp at hj⟩
 ·unfold SlV.v at h1
  injection h1 with e1 e2 e3
  refine⟨by omega,by omega,fun j x hj=>⟨g,0,e1,?_⟩⟩
  rw[Nat.zero_add]
  have hv:s.v = .slice (some ⟨g,0,none⟩) s.n s.c:=by unfold SlV.v;rw[e1]
  rw[hv] at h
  exact qu h (by rw[vY,hj];rfl)
theorem qlH(s:ByteArray)(w:World):Calls prog 148 #[.string s] w fun e w'=>e = .returned (.string s)/\w=w':=by
 go_enter func148,ntmps148
 go_wp2
 go_ret
 exact⟨rfl,rfl⟩
theorem Qi(s t:ByteArray):eqB s t=(s.toList==t.toList):=by
 unfold eqB
 rw[Bool.eq_iff_iff,decide_eq_true_iff]
 exact(Lib.bytes_beq_iff s t).symm
theorem qkh(bn bf:Nat)(s nm:ByteArray)(w:World)(hf:w.cell? ⟨bf,0,none⟩=some (.func (.func 148) #[] #[]))(hn:w.cell? ⟨bn,0,none⟩=some (.string nm)) :
 Calls prog 187 #[.string s,.pointer (some ⟨bf,0,none⟩),.pointer (some ⟨bn,0,none⟩)] w fun e w'=>e = .returned (.bool (eqB s nm))/\BX w w':=by
 go_enter func187,ntmps187
 go_wp2
 go_region_held3 (fun w'=>w'.cell? ⟨bf,0,none⟩=some (.func (.func 148) #[] #[])/\w'.cell? ⟨bn,0,none⟩=some (.string nm))
  (go_keep)
  ((go_at_call 148;refine(qlH _ _).mono ?_;rintro e w' ⟨rfl,rfl⟩))
 go_wp2
 go_ret
 exact⟨qq (Qi s nm).symm,(kB _ _).drew⟩
def jC(A B:World):Prop:=A.heap.size<=B.heap.size/\∀ (b:Nat) (o:Obj),A.heap[b]?=some o->o.isCells=true->B.heap[b]?=some o
theorem jC.refl(A:World):jC A A:=⟨vL _,fun _ _ h _=>h⟩
theorem jC.trans{A B C:World}(h:jC A B)(k:jC B C):jC A C:=⟨vR h.1 k.1,fun b o hb hc=>k.2 b o (h.2 b o hb hc) hc⟩
theorem jC.of_below{A B:World}(h:BX A B):jC A B:=⟨h.size,fun b _ hb _=>(h.block b (qD hb)).trans hb⟩
theorem jC.put{A:World}{l:Nat}{o o':Obj}(h:A.heap[l]?=some o)(hc:o.isCells=false):jC A (A.putObj l o'):=by
 refine⟨by simp,fun b p hp hpc=>?_⟩
 have:b≠l:=fun e=>by subst e;rw[hp] at h;cases h;rw[hc] at hpc;cases hpc
 exact(kP this).trans hp
theorem jC.cell{A B:World}(h:jC A B){p:Addr}{v:Value}(hc:A.cell? p=some v):B.cell? p=some v:=by
 have hex:∃o,A.heap[p.block]?=some o/\o.isCells=true:=by
  cases hh:A.heap[p.block]? with
  | none=>simp[World.cell?,hh] at hc
  | some o=>cases o <;> simp[World.cell?,hh,Obj.isCells] at hc ⊢
 obtain⟨o,ho1,ho2⟩:=hex
 rw[World.cell?_of_block (w:=A) ((h.2 _ o ho1 ho2).trans ho1.symm)];exact hc
theorem jC.ints{A B:World}(h:jC A B){s:SlV}{l:List Int}(hi:qJ A s l):qJ B s l:=
 ⟨hi.1,hi.2.1,fun j x hj=>by obtain⟨b,o,h1,h2⟩:=hi.2.2 j x hj;exact⟨b,o,h1,h.cell h2⟩⟩
def qiz(n:Nat)(P:Program)(gf:Nat)(lb:Array Value)(E:List (List Int))(w0:World):Prop:=
 ∀ (l:Nat) (J:List (List Int)->World->Prop) (Jx:World->Prop) (W:World),BX w0 W->(∀pre A B,J pre A->Below W.heap.size A B->J pre B) ->
  (∀pre x A (v:SlV),J pre A->pre++[x] <+: E->qJ A v x->YieldAt Fence.wide (n-1) P l #[.slice v.a v.n v.c] A fun e B=>(e = .returned (.bool true)/\J (pre++[x]) B/\jC A B)∨(e = .returned (.bool false)/\Jx B)) ->
  J [] W->CallsIn Fence.wide n P gf (#[.func (.yield l) #[] #[]]++lb) W fun e B=>(∃v,e = .returned v)/\(J E B∨Jx B)
def qfk(w:World)(p:List Int->Bool)(Ix:World->Prop)(x:List Int)(W:World):Exit->Act->World->Prop
 | .normal,_,W'=>p x=false/\jC W W'/\KeepsOthers W W'/\BX w W'
 | .ret,_,W'=>p x=true/\KeepsOthers W W'/\Ix W'
 | _,_,_=>False
theorem Qr{B0:Nat}{w W:World}{l:Nat}(o':Obj)(h:Below B0 w W)(hl:B0<=l):Below B0 w (W.putObj l o'):=
 h.trans ⟨rfl,rfl,rfl,by simp,fun k hk=>kP (by omega)⟩
theorem qfl{n:Nat}{P:Program}{g:Operand}{ps:Array Tmp}{assign body:Code}{Q:Exit->Act->World->Prop}{a:Act}{w:World}{gf:Nat}{lb:Array Value}{p:List Int->Bool}
 (h1:1<=n) (hg:a.eval g = .func (.func gf) #[] lb) (eg:∀args w,(callFunc gf args).run P w = .ok (.enter gf args) w)
 {E:List (List Int)} (hit:qiz (n-1) P gf lb E w) (hps:ps.size=1)
 (Ix:World->Prop) (hX2:∀A l o o',w.heap.size<=l->A.heap[l]?=some o->o.isCells=false->Ix A->Ix (A.putObj l o'))
 (Ax:SlV->Act->World->Prop) (hAx:∀v a' A l o o',w.heap.size<=l->A.heap[l]?=some o->o.isCells=false->Ax v a' A->Ax v a' (A.putObj l o'))
 (hassign:∀ (l:Nat) (v:SlV) (W:World) (K:Act->World->Prop),BX w W->(∀a' W',BX W W'->Ax v a' W'->K a' W') ->
   assign.wpIn (Fence.wide.inRound l) (n-1-1) P (Exit.then K (fun _ _ _=>False)) { tmps:=(ps.zip #[.slice v.a v.n v.c]).foldl (fun t (p,v)=>t.setIfInBounds p v) a.tmps,defers:=[] } W)
 (hbody:∀ (l:Nat) (x:List Int) (v:SlV) (a':Act) (W:World),x∈E->BX w W->Ax v a' W->qJ W v x->body.wpIn (Fence.wide.inRound l) (n-1-1) P (qfk w p Ix x W) a' W)
 (hdone:∀ (D:Nat) (W:World),w.heap.size<=D->BX w W->(∀x,x∈E->p x=false)->W.heap[D]?=some (.deferred (some []))->Q .normal { a with defers:={ target:=.collected D,args:=#[] } :: a.defers } W)
 (hstop:∀ (D:Nat) (W:World),w.heap.size<=D->Ix W->(∃x,x∈E/\p x=true)->W.heap[D]?=some (.deferred (some []))->Code.ret.wpIn Fence.wide n P Q { a with defers:={ target:=.collected D,args:=#[] } :: a.defers } W) :
 (Code.rangeFunc g ps assign body).wpIn Fence.wide n P Q a w:=by
 refine wpIn_rangeFunc ?_
 intro fn hfn
 obtain⟨rc,hrc⟩:∃rc:LoopState->Option Code->Loop,rc=fun st pe=>{ state:=st,pending:=pe,fn,tmps:=a.tmps,params:=ps,assign,body,defers:=w.heap.size }:=⟨_,rfl⟩
 obtain⟨S,hS⟩:∃S,S=(w.alloc (.deferred (some []))).alloc (.loop (rc .ready none)):=⟨_,rfl⟩
 have hSz:S.heap.size=w.heap.size+2:=by rw[hS];simp
 have hSb:BX w S:=by rw[hS];exact((kB _ w).alloc (vL _) _).alloc (by simp) _
 have hSl:S.heap[w.heap.size+1]?=some (.loop (rc .ready none)):=by
  have:=World.alloc_heap_new (w.alloc (.deferred (some []))) (.loop (rc .ready none))
  rw[vZ] at this;rw[hS];exact this
 have hSd:S.heap[w.heap.size]?=some (.deferred (some [])):=by
  rw[hS];exact(Below.heap_alloc _ _ _ (by simp)).trans (World.alloc_heap_new w _)
 refine⟨w.heap.size+1,[{ target:=.collected w.heap.size,args:=#[] }],S,{ target:=.fn (.func gf) lb,args:=#[.func (.yield (w.heap.size+1)) #[] #[]] },S,gf,#[.func (.yield (w.heap.size+1)) #[] #[]]++lb,S,?_,?_,fun _ _=>trivial,?_,fun _=>h1,?_⟩
 ·rw[hS,hrc];exact run_enterLoop_outer _ _ _ _ _
 ·simp only[resolve,hg];simp[go_sem]
 ·simp[invoke,go_sem,eg]
 refine(hit (w.heap.size+1) (fun pre W=>BX w W/\(pre <+: E/\∀x,x∈pre->p x=false)/\W.heap[w.heap.size+1]?=some (.loop (rc .ready none))/\W.heap[w.heap.size]?=some (.deferred (some [])))
  (fun W=>Ix W/\(∃x,x∈E/\p x=true)/\W.heap[w.heap.size+1]?=some (.loop (rc .done (some .ret)))/\W.heap[w.heap.size]?=some (.deferred (some []))) S hSb ?_ ?_ ?_).mono ?_
 ·rintro pre A B ⟨hb,hp,hl,hd⟩ hbb
  exact⟨hb.trans (hbb.mono (by omega)),hp,(hbb.block _ (by omega)).trans hl,(hbb.block _ (by omega)).trans hd⟩
 ·rintro pre x A v ⟨hb,⟨hpre,hp⟩,hl,hd⟩ hE hI
  have hmem:x∈E:=hE.subset (by simp)
  have hy:=run_yield (P:=P) (args:=#[.slice v.a v.n v.c]) hl (by rw[hrc,hps];rfl)
  rw[hrc] at hy
  refine⟨fn,_,assign,body,hy,roundIn_of_wpIn hfn (hassign (w.heap.size+1) v A _ hb ?_)⟩
  intro a' W hkf hax
  have hlW:=(hkf.block _ (qD hl)).trans hl
  have hdW:=(hkf.block _ (qD hd)).trans hd
  refine⟨_,run_beginRound hlW (by rw[hrc]),?_⟩
  have hl1:(W.putObj (w.heap.size+1) (.loop { rc .ready none with state:=.busy })).heap[w.heap.size+1]?=some (.loop { rc .ready none with state:=.busy }):=World.putObj_heap_same (qD hlW)
  have hd1:(W.putObj (w.heap.size+1) (.loop { rc .ready none with state:=.busy })).heap[w.heap.size]?=some (.deferred (some [])):=(kP (by omega)).trans hdW
  have hk1:jC A (W.putObj (w.heap.size+1) (.loop { rc .ready none with state:=.busy })):=(jC.of_below hkf).trans (jC.put hlW rfl)
  have hbW:BX w W:=hb.trans (hkf.mono hb.size)
  refine wpIn_mono (hbody (w.heap.size+1) x v a' _ hmem (Qr _ hbW (by omega)) (hAx v a' W _ _ _ (by omega) hlW rfl hax) (hk1.ints hI)) ?_
  intro e a2 W2 hp2
  cases e with
  |normal=>
   obtain⟨hq,hk2,ho2,hb2⟩:=hp2
   have hl2:=ho2.same _ _ hl1 rfl
   have hd2:=ho2.same _ _ hd1 rfl
   have he:=run_endRound (P:=P) none hl2
   refine⟨_,_,he,.inl ⟨rfl,⟨Qr _ hb2 (by omega),⟨hE,fun y hy=>?_⟩,?_,(kP (by omega)).trans hd2⟩,(hk1.trans hk2).trans (jC.put hl2 rfl)⟩⟩
   ·rcases vC.1 hy with h|h
    ·exact hp y h
    ·obtain rfl:y=x:=by simpa using h
     exact hq
   ·rw[World.putObj_heap_same (qD hl2),hrc];rfl
  |ret=>
   obtain⟨hq,ho2,hx2⟩:=hp2
   have hl2:=ho2.same _ _ hl1 rfl
   have hd2:=ho2.same _ _ hd1 rfl
   have he:=run_endRound (P:=P) (some .ret) hl2
   refine⟨_,_,he,.inr ⟨rfl,hX2 _ _ _ _ (by omega) hl2 rfl hx2,⟨x,hmem,hq⟩,?_,(kP (by omega)).trans hd2⟩⟩
   rw[World.putObj_heap_same (qD hl2),hrc];rfl
  | exit id=>exact hp2.elim
  | goto t=>exact hp2.elim
  | panic ch=>exact hp2.elim
  | outgrown=>exact hp2.elim
 ·exact⟨hSb,⟨List.nil_prefix,fun x hx=>by cases hx⟩,hSl,hSd⟩
 ·rintro e W ⟨⟨v,rfl⟩,(⟨hb,⟨_,hp⟩,hl,hd⟩|⟨hx,hex,hl,hd⟩)⟩
  ·have he:=run_endLoop (P:=P) hl (by rw[hrc];simp)
   have hpd:(rc .ready none).pending=none:=by rw[hrc]
   rw[hpd] at he
   exact⟨none,_,he,hdone w.heap.size _ (vL _) (Qr _ hb (by omega)) hp ((kP (by omega)).trans hd)⟩
  ·have he:=run_endLoop (P:=P) hl (by rw[hrc];simp)
   have hpd:(rc .done (some .ret)).pending=some .ret:=by rw[hrc]
   rw[hpd] at he
   exact⟨some .ret,_,he,hstop w.heap.size _ (vL _) (hX2 _ _ _ _ (by omega) hl rfl hx) hex ((kP (by omega)).trans hd)⟩
def zU{α:Type}(p:α->Bool)(l:List α)(k:Nat):Prop:=∀j,j<k->∀b,l[j]?=some b->p b=false
theorem zU.zero{α:Type}(p:α->Bool)(l:List α):zU p l 0:=fun _ h=>absurd h (Nat.not_lt_zero _)
theorem zU.succ{α:Type}{p:α->Bool}{l:List α}{k:Nat}{a:α}(h:zU p l k)(hk:l[k]?=some a)(hp:p a=false):zU p l (k+1):=fun j hj b hb=>by
 by_cases e:j<k
 ·exact h j e b hb
 ·obtain rfl:j=k:=by omega
  rw[hk] at hb;cases hb;exact hp
theorem zU.miss{α:Type}{p:α->Bool}{l:List α}{k:Nat}(h:zU p l k)(hk:l.length<=k):zM p l = -1:=
 Yq fun j b hb=>h j (by have:=(vS.1 hb).1;omega) b hb
theorem zU.hit{α:Type}{p:α->Bool}{l:List α}{k:Nat}{a:α}(h:zU p l k)(hk:l[k]?=some a)(hp:p a=true):zM p l=(k:Int):=qau h hk hp
theorem qli(bn bf:Nat)(s:SlV)(l:List ByteArray)(nm:ByteArray)(w:World)(hl:qG w s l)(hbig:s.n<4611686018427387904)
 (hf:w.cell? ⟨bf,0,none⟩=some (.func (.func 148) #[] #[])) (hn:w.cell? ⟨bn,0,none⟩=some (.string nm)) :
 Calls prog 186 #[.slice s.a s.n s.c,.func (.func 187) #[] #[.pointer (some ⟨bf,0,none⟩),.pointer (some ⟨bn,0,none⟩)]] w fun e w'=>
  e = .returned (.int .i64 (zM (fun x=>eqB x nm) l))/\BX w w':=by
 obtain⟨a,n,c⟩:=s
 obtain⟨hn1,hcap,hl⟩:=hl
 dsimp only at hn1 hcap hl hbig ⊢
 subst hn1
 replace hl:=vH hl
 go_enter func186,ntmps186
 go_wp2
 go_loopw [8] (fun i wr=>∃k:Nat,k<=l.length/\i = .int .i64 k/\zU (fun x=>eqB x nm) l k/\BX w wr) (fun i _=>l.length-(intOf i).toNat)
 case atStart=>exact⟨0,vO _,rfl,zU.zero _ _,kB _ _⟩
 case round=>
  obtain⟨k,hk,rfl,hY,hB⟩:=hrel
  replace hY:=vH hY
  by_cases hlt:k<l.length
  ·obtain⟨x,hx⟩:∃x,l[k]?=some x:=⟨l[k],by rw[vE hlt]⟩
   obtain⟨b,o,rfl,hc⟩:=hl.out k x hx
   have hc':=(hB.cell (kW _ _ hc)).trans hc
   have hi:IntKind.i64.wrap ((k:Int)+1)=k+1:=vI _ (by omega)
   have C:=fun h1 h2=>qkh bn bf x nm wr h1 h2
   replace C:=C (qb hB hf) (qb hB hn)
   replace hx:=vH hx
   clear hc hf hn
   by_cases hp:eqB x nm=true
   ·rw[hp] at C
    replace hp:=vH hp
    go_wp2_with (go_at_call 187;refine C.mono ?_;clear C;rintro e W1 ⟨rfl,hb⟩)
    go_ret
    exact⟨qI (hY.out.hit hx.out hp.out).symm,hB.trans (hb.mono hB.size)⟩
   ·have hp':eqB x nm=false:=by simpa using hp
    rw[hp'] at C
    replace hp':=vH hp'
    clear hp
    go_wp2_with (go_at_call 187;refine C.mono ?_;clear C;rintro e W1 ⟨rfl,hb⟩)
    exact⟨⟨k+1,by omega,by go_num,hY.out.succ hx.out hp'.out,hB.trans (hb.mono hB.size)⟩,by simp[intOf];omega⟩
  ·clear hf hn
   go_wp2_with fail
   go_ret
   exact⟨qI (hY.out.miss (by omega)).symm,hB⟩
theorem qfm(s:SlV)(l:List ByteArray)(nm:ByteArray)(w:World)(hl:qG w s l)(hbig:s.n<4611686018427387904) :
 Calls prog 147 #[.slice s.a s.n s.c,.string nm,.func (.func 148) #[] #[]] w fun e w'=>
  e = .returned (.int .i64 (qv l nm))/\BX w w':=by
 have hB:BX w ((w.alloc (.cells #[.string nm] 9)).alloc (.cells #[.func (.func 148) #[] #[]] 111)):=qi.alloc (by simp) _
 have C:=qli w.heap.size (w.heap.size+1) s l nm ((w.alloc (.cells #[.string nm] 9)).alloc (.cells #[.func (.func 148) #[] #[]] 111)) (hl.below hB) hbig
  (by have:=zr (w.alloc (.cells #[.string nm] 9)) #[.func (.func 148) #[] #[]] 111 (j:=0) rfl
      rw[vZ] at this;exact this)
  (qk _ (zr w #[.string nm] 9 (j:=0) rfl))
 replace hB:=vH hB
 clear hl
 go_enter func147,ntmps147
 go_wp2_with (go_at_call 186;refine C.mono ?_;clear C;rintro e W1 ⟨rfl,hb⟩)
 go_ret
 exact⟨rfl,hB.out.trans (hb.mono hB.out.size)⟩
def ZB(W:World)(c:CV)(ns:List ByteArray):Prop:=qG W c.names ns/\c.names.n<4611686018427387904
theorem qac(C:Nat)(c:CV)(ns:List ByteArray)(nm:ByteArray)(w:World)(hC:jq w C c)(hN:ZB w c ns) :
 Calls prog 109 #[.pointer (some ⟨C,0,none⟩),.string nm] w fun e w'=>e = .returned (.int .i64 (qv ns nm))/\BX w w':=by
 have K:=qfm c.names ns nm w hN.1 hN.2
 have c8:=hC.cell (j:=8) rfl
 clear hN hC
 go_enter func109,ntmps109
 go_wp2_with (go_at_call 147;refine K.mono ?_;clear K;rintro e W1 ⟨rfl,hb⟩)
 go_ret
 exact⟨rfl,hb⟩
theorem QO(s:SlV)(l:List Int)(x:Int)(w:World)(hl:qJ w s l)(hbig:s.n<4611686018427387904) :
 Calls prog 120 #[.slice s.a s.n s.c,.int .i64 x] w fun e w'=>e = .returned (.bool (l.contains x))/\w=w':=by
 obtain⟨a,n,c⟩:=s
 obtain⟨hn1,hcap,hl⟩:=hl
 dsimp only at hn1 hcap hl hbig ⊢
 subst hn1
 cases l with
 | nil=>exact(slices_Contains_int_empty a c x w).mono fun e w' ⟨he,hw⟩=>⟨by rw[he];rfl,hw.symm⟩
 |cons y ys=>
  obtain⟨b,o,rfl,h0⟩:=hl 0 y rfl
  refine(slices_Contains_int b o (ys.length+1) c (y::ys) x w (by simp) (by simp at hbig;omega) (fun j hj=>?_)).mono fun e w' ⟨he,hw⟩=>⟨?_,hw.symm⟩
  ·obtain⟨b',o',h1,h2⟩:=hl j ((y::ys).getD j 0) (by rw[vE hj,vG,vE hj];rfl)
   cases h1;exact h2
  ·rw[he]
   refine qq ?_
   rw[List.take_of_length_le (by simp)]
theorem qJ.head{W:World}{s:SlV}{l:List Int}(h:qJ W s l)(k:Nat)(hk:k<=l.length):qJ W ⟨s.a,k,s.c⟩ (l.take k):=by
 refine⟨by simp;omega,?_,fun j x hj=>?_⟩
 ·have:=h.1;have:=h.2.1;show k<=s.c;omega
 ·rw[List.getElem?_take] at hj
  split at hj
  ·exact h.2.2 j x hj
  ·cases hj
def yX(ns l:List ByteArray)(k:Nat):Array Value:=((((l.take k).map (qv ns))++List.replicate (l.length-k) 0).map (Value.int .i64)).toArray
theorem qdI(ns l:List ByteArray):yX ns l 0=Array.replicate l.length (.int .i64 0):=by simp[yX]
theorem qdJ(ns l:List ByteArray)(k:Nat)(x:ByteArray)(hx:l[k]?=some x):(yX ns l k).setIfInBounds k (.int .i64 (qv ns x))=yX ns l (k+1):=by
 have hlt:k<l.length:=(vS.1 hx).1
 apply Array.ext'
 simp only[yX,Array.toList_setIfInBounds]
 rw[show l.length-k=(l.length-(k+1))+1 by omega,List.replicate_succ,vX,hx]
 simp only[kM,List.map_cons,Option.toList_some,List.map_nil,List.append_assoc,List.cons_append,List.nil_append]
 have hk:(List.map (Value.int IntKind.i64) (List.map (qv ns) (List.take k l))).length=k:=by simp;omega
 generalize List.map (Value.int IntKind.i64) (List.map (qv ns) (List.take k l))=A at hk ⊢
 rw[List.set_append_right _ _ (by omega),hk,Nat.sub_self];rfl
theorem qfn(ns l:List ByteArray):yX ns l l.length=((qh ns l).map (Value.int .i64)).toArray:=by simp[yX,qh]
theorem ji:(prog.info? 3).map (fun i=>(i.zero,i.size,i.bytes))=some (some (.int .i64 0),1,8):=by kernel_rfl
theorem jz(v:Value)(n:Nat):madeCells #[v] n=Array.replicate n v:=by
 apply Array.ext
 ·simp[madeCells]
 ·intro i h1 h2
  simp[madeCells,Nat.mod_one]
theorem qfo(ns l:List ByteArray)(k:Nat)(hk:k<l.length):(yX ns l k)[k]?=some (.int .i64 0):=by
 have h1:((l.take k).map (qv ns)).length=k:=by simp;omega
 simp only[yX,List.getElem?_toArray,vY]
 rw[kR (by omega),h1,Nat.sub_self,List.getElem?_replicate,if_pos (by omega)]
 rfl
theorem ZB.below{W W':World}{c:CV}{ns:List ByteArray}(h:ZB W c ns)(hb:BX W W'):ZB W' c ns:=⟨h.1.below hb,h.2⟩
def Yl(ns l:List ByteArray)(most:Int)(w:World)(e:Ending)(w':World):Prop:=
 ∃s:SlV,e = .returned (.tuple #[.slice s.a s.n s.c,.bool (zx ns l most.toNat)])/\BX w w'/\((l.length:Int)<=most->w'.ownsRow w.heap.size 3 1 s.v l.length ((qh ns l).map (Value.int .i64)))
theorem Zj(C:Nat)(c:CV)(ns:List ByteArray)(s:SlV)(l:List ByteArray)(most:Int)(w:World)(h0:0<=most)(hm:most<=1000)(hC:jq w C c)(hN:ZB w c ns)(hl:qG w s l) :
 Calls prog 110 #[.pointer (some ⟨C,0,none⟩),.slice s.a s.n s.c,.int .i64 most] w (Yl ns l most w):=by
 obtain⟨a,n,cp⟩:=s
 obtain⟨hn1,hcap,hl⟩:=hl
 dsimp only at hn1 hcap hl ⊢
 subst hn1
 by_cases hlong:most<l.length
 ·clear hC hN hl
  have hf:zx ns l most.toNat=false:=by unfold zx;simp;omega
  replace hf:=vH hf
  go_enter func110,ntmps110
  go_wp2
  go_ret2
  exact⟨⟨none,0,0⟩,by rw[hf.out];first|done|rfl,kB _ _,fun h=>by omega⟩
 ·have hl0:(0:Int)<=l.length:=by omega
  replace hl:=vH hl
  have hC2:=vH hC
  have hN2:=vH hN
  clear hC hN
  have hmk:=run_make_row' (P:=prog) 55 3 (.int .i64 0) 8 underlying55 ji rfl .i64 .i64 l.length (by omega) (by omega)
  go_enter func110,ntmps110
  go_wp2_with fail
  clear hmk
  have hC0:qd (w.alloc (.cells (madeCells #[.int .i64 0] l.length) 3)) w.heap.size 3 (yX ns l 0):=by rw[qdI,←jz];exact qd.new w _ _
  have hB0:BX w (w.alloc (.cells (madeCells #[.int .i64 0] l.length) 3)):=qi
  go_loopw [20] (fun i wr=>∃k:Nat,k<=l.length/\i = .int .i64 k/\qd wr w.heap.size 3 (yX ns l k)/\BX w wr) (fun i _=>l.length-(intOf i).toNat)
  case atStart=>exact⟨0,vO _,rfl,hC0,hB0⟩
  case round=>
   clear hC0 hB0
   obtain⟨k,hk,rfl,hR,hB⟩:=hrel
   have k0:(0:Int)<=k:=vN _
   by_cases hlt:k<l.length
   ·obtain⟨x,hx⟩:∃x,l[k]?=some x:=⟨l[k],by rw[vE hlt]⟩
    obtain⟨b,o,rfl,hc⟩:=hl.out k x hx
    have hc':=qb hB hc
    have hi:IntKind.i64.wrap ((k:Int)+1)=k+1:=vI _ (by omega)
    have k1:(k:Int)<l.length:=by omega
    have K:=qac C c ns x wr (hC2.out.below hB hC2.out.lt) (hN2.out.below hB)
    have hw:=hR.lt
    have hP:∀W1,BX wr W1->(W1.cell? ⟨w.heap.size,k,none⟩=some (.int .i64 0)/\W1.frozen? ⟨w.heap.size,k,none⟩=false)/\qd (W1.setCell ⟨w.heap.size,k,none⟩ (.int .i64 (qv ns x))) w.heap.size 3 (yX ns l (k+1))/\BX w (W1.setCell ⟨w.heap.size,k,none⟩ (.int .i64 (qv ns x))):=fun W1 hb=>by
     have hR1:=hR.below hb hw
     refine⟨⟨hR1.cell (qfo ns l k hlt),hR1.frozen k⟩,?_,(hB.trans (hb.mono hB.size)).setCell (p:=⟨w.heap.size,k,none⟩) (vL _) _⟩
     have:=hR1.set (j:=k) (.int .i64 (qv ns x))
     rw[qdJ ns l k x hx] at this;exact this
    replace hx:=vH hx
    clear hc hR
    go_wp2_with (go_at_call 109;refine K.mono ?_;clear K;rintro e W1 ⟨rfl,hb⟩;obtain⟨⟨q0,q1⟩,q2⟩:=hP W1 hb;clear hP)
    exact⟨⟨k+1,by omega,by go_num,q2.1,q2.2⟩,by simp[intOf];omega⟩
   ·obtain rfl:k=l.length:=by omega
    rw[qfn] at hR
    have hrow:wr.ownsRow w.heap.size 3 1 (.slice (some ⟨w.heap.size,0,none⟩) l.length l.length) l.length ((qh ns l).map (Value.int .i64)):=
     ⟨by simp[qh],.inr ⟨w.heap.size,l.length,_,rfl,vL _,hR,vL _,by unfold maxLen;omega,by simp[qh],by simp[qh,List.take_of_length_le]⟩⟩
    have K:=QO ⟨some ⟨w.heap.size,0,none⟩,l.length,l.length⟩ (qh ns l) (-1) wr (qJ.of_row (s:=⟨some ⟨w.heap.size,0,none⟩,l.length,l.length⟩) hrow (by simp[qh])) (by show l.length<_;omega)
    have hP:Yl ns l most w (.returned (.tuple #[.slice (some ⟨w.heap.size,0,none⟩) l.length l.length,.bool (!(qh ns l).contains (-1))])) wr:=
     ⟨⟨some ⟨w.heap.size,0,none⟩,l.length,l.length⟩,by
       have:zx ns l most.toNat = !(qh ns l).contains (-1):=by
        unfold zx
        rw[vT (by omega),Bool.true_and]
       rw[this],hB,fun _=>hrow⟩
    replace hP:=vH hP
    dsimp only at K
    generalize(qh ns l).contains (-1)=q at K hP
    clear hrow hR
    go_wp2_with (go_at_call 120;refine K.mono ?_;clear K;rintro e W1 ⟨rfl,rfl⟩)
    go_ret2
    exact hP.out
theorem qcF(l:List Int)(k:Nat)(x:Int)(hx:l[k]?=some x):qW (l.take k) (l.drop k)=((l.take k).contains x||qW (l.take (k+1)) (l.drop (k+1))):=by
 have hlt:k<l.length:=(vS.1 hx).1
 rw[List.drop_eq_getElem_cons hlt,vX,hx]
 have:l[k]=x:=(vS.1 hx).2
 rw[this];rfl
theorem XL(s:SlV)(l:List Int)(w:World)(hl:qJ w s l)(hbig:s.n<=4611686018427387904) :
 Calls prog 111 #[.slice s.a s.n s.c] w fun e w'=>e = .returned (.bool (qW [] l))/\w=w':=by
 obtain⟨a,n,c⟩:=s
 have hl2:=vH hl
 obtain⟨hn1,hcap,hl⟩:=hl
 dsimp only at hn1 hcap hl hbig ⊢
 subst hn1
 replace hl:=vH hl
 go_enter func111,ntmps111
 go_wp2
 go_loop [7] (fun i=>∃k:Nat,k<=l.length/\i = .int .i64 k/\Hid (qW [] l=qW (l.take k) (l.drop k))) (fun i=>l.length-(intOf i).toNat)
 case atStart=>exact⟨0,vO _,rfl,vH (by simp)⟩
 case round=>
  obtain⟨k,hk,rfl,hT⟩:=hrel
  have k0:(0:Int)<=k:=vN _
  by_cases hlt:k<l.length
  ·obtain⟨x,hx⟩:∃x,l[k]?=some x:=⟨l[k],by rw[vE hlt]⟩
   obtain⟨b,o,rfl,hc⟩:=hl.out k x hx
   have hi:IntKind.i64.wrap ((k:Int)+1)=k+1:=vI _ (by omega)
   have k1:(k:Int)<l.length:=by omega
   have k2:(k:Int)<=c:=by omega
   have K:=QO ⟨some ⟨b,o,none⟩,k,c⟩ (l.take k) x w (hl2.out.head k hk) (by show k<_;omega)
   have hT2:=vH (hT.out.trans (qcF l k x hx))
   dsimp only at K
   clear hT
   by_cases hcn:(l.take k).contains x=true
   ·have hT3:Hid (qW [] l=true):=vH (by rw[hT2.out,hcn];rfl)
    rw[hcn] at K
    clear hcn hx hT2
    go_wp2_with (go_at_call 120;refine K.mono ?_;clear K;rintro e W1 ⟨rfl,rfl⟩)
    go_ret
    exact⟨qq hT3.out.symm,rfl⟩
   ·have hcn':(l.take k).contains x=false:=by simpa using hcn
    have hT3:Hid (qW [] l=qW (l.take (k+1)) (l.drop (k+1))):=vH (by rw[hT2.out,hcn',Bool.false_or])
    rw[hcn'] at K
    clear hcn hcn' hx hT2
    go_wp2_with (go_at_call 120;refine K.mono ?_;clear K;rintro e W1 ⟨rfl,rfl⟩)
    go_round
    case rel=>exact⟨k+1,by omega,by go_num,hT3⟩
    case measure=>simp[intOf];omega
  ·have hT3:Hid (qW [] l=false):=vH (by rw[hT.out,List.drop_eq_nil_of_le (by omega)];rfl)
   clear hT
   go_wp2_with fail
   go_ret
   exact⟨qq hT3.out.symm,rfl⟩
structure xT(p:Plc):Prop where
 at0:0<=p.2.1
 at1:p.2.1<=1000
 w0:1<=p.2.2
 w1:p.2.2<=1000
theorem qdK(p q:Plc)(w:World)(hp:xT p)(hq:xT q) :
 Calls prog 78 #[.agg #[.int .i64 p.1,.int .i64 p.2.1,.int .i64 p.2.2],.agg #[.int .i64 q.1,.int .i64 q.2.1,.int .i64 q.2.2]] w fun e w'=>
  e = .returned (.bool (zR p q))/\BX w w':=by
 obtain⟨p1,p2,p3⟩:=p
 obtain⟨q1,q2,q3⟩:=q
 obtain⟨a1,a2,a3,a4⟩:=hp
 obtain⟨b1,b2,b3,b4⟩:=hq
 dsimp only at a1 a2 a3 a4 b1 b2 b3 b4 ⊢
 by_cases h:p1=q1
 ·subst h
  refine(qcu p1 p2 p3 q2 q3 w a1 a2 a3 a4 b1 b2 b3 b4).mono fun e w' ⟨he,hw⟩=>⟨?_,hw⟩
  rw[he];refine qq ?_
  unfold zR;simp
 ·have h1:Hid (zR (p1,p2,p3) (q1,q2,q3)=false):=vH (by unfold zR;simp[h])
  have h2:(p1==q1)=false:=by simpa using h
  have h3:decide (p1=q1)=false:=by simpa using h
  go_enter func78,ntmps78
  go_wp2_with fail
  go_ret
  exact⟨qq h1.out.symm,qi.alloc (by simp) _⟩
structure xg(W:World)(c:CV)(ps:List Plc):Prop where
 ok:∀p,p∈ps->xT p
 len:c.places.n=ps.length
 cap:c.places.n<=c.places.c
 big:c.places.n<4611686018427387904
 at_:∀ (i:Nat) p,ps[i]?=some p->∃b o,c.places.a=some ⟨b,o,none⟩/\W.cell? ⟨b,o+i*3,none⟩=some (.int .i64 p.1)/\W.cell? ⟨b,o+i*3+1,none⟩=some (.int .i64 p.2.1)/\W.cell? ⟨b,o+i*3+2,none⟩=some (.int .i64 p.2.2)
theorem xg.below{W W':World}{c:CV}{ps:List Plc}(h:xg W c ps)(hb:BX W W'):xg W' c ps:=
 ⟨h.ok,h.len,h.cap,h.big,fun i p hp=>by obtain⟨b,o,h1,h2,h3,h4⟩:=h.at_ i p hp;exact⟨b,o,h1,qb hb h2,qb hb h3,qb hb h4⟩⟩
def Num(ps:List Plc)(r:Int):Prop:=0<=r/\r<ps.length
theorem Num.get{ps:List Plc}{r:Int}(h:Num ps r):ps[r.toNat]?=some (plc ps r):=by
 have:r.toNat<ps.length:=by have:=h.1;have:=h.2;omega
 unfold plc
 rw[vE this,vG,vE this];rfl
theorem Num.plc_ok{W:World}{c:CV}{ps:List Plc}{r:Int}(h:Num ps r)(hp:xg W c ps):xT (plc ps r):=hp.ok _ (vM h.get)
theorem qiA(bC br C:Nat)(c:CV)(ps:List Plc)(r x:Int)(w:World)(hbC:w.cell? ⟨bC,0,none⟩=some (.pointer (some ⟨C,0,none⟩)))(hbr:w.cell? ⟨br,0,none⟩=some (.int .i64 r))(hC:jq w C c)(hP:xg w c ps)(hr:Num ps r)(hx:Num ps x) :
 Calls prog 189 #[.int .i64 x,.pointer (some ⟨bC,0,none⟩),.pointer (some ⟨br,0,none⟩)] w fun e w'=>e = .returned (.bool (zR (plc ps r) (plc ps x)))/\BX w w':=by
 have K:=fun W=>qdK (plc ps r) (plc ps x) W (hr.plc_ok hP) (hx.plc_ok hP)
 obtain⟨b,o,ha,p0,p1,p2⟩:=hP.at_ _ _ hr.get
 obtain⟨b',o',ha',q0,q1,q2⟩:=hP.at_ _ _ hx.get
 have hlen:=hP.len
 obtain⟨i,rfl⟩:∃i:Nat,r=i:=⟨r.toNat,by have:=hr.1;omega⟩
 obtain⟨j,rfl⟩:∃j:Nat,x=j:=⟨x.toNat,by have:=hx.1;omega⟩
 have i0:(0:Int)<=i:=vN _
 have j0:(0:Int)<=j:=vN _
 have i1:i<c.places.n:=by have:=hr.2;omega
 have j1:j<c.places.n:=by have:=hx.2;omega
 have i2:(i:Int)<c.places.n:=by omega
 have j2:(j:Int)<c.places.n:=by omega
 have c9:=hC.cell (j:=9) (v:=.slice c.places.a c.places.n c.places.c) rfl
 rw[ha] at ha'
 cases ha'
 rw[ha] at c9
 simp only[Int.toNat_natCast] at p0 p1 p2 q0 q1 q2
 generalize plc ps (i:Int)=pr at K p0 p1 p2 ⊢
 generalize plc ps (j:Int)=px at K q0 q1 q2 ⊢
 obtain⟨u0,u1,u2⟩:=pr
 obtain⟨v0,v1,v2⟩:=px
 dsimp only at K p0 p1 p2 q0 q1 q2
 generalize zR (u0,u1,u2) (v0,v1,v2)=z at K ⊢
 generalize c.places.n=pn at *
 generalize c.places.c=pc at *
 clear ha hP hC hr hx hlen
 go_enter func189,ntmps189
 go_wp2
 go_region_held3 (fun w'=>w'.cell? ⟨bC,0,none⟩=some (.pointer (some ⟨C,0,none⟩))/\w'.cell? ⟨br,0,none⟩=some (.int .i64 i)/\w'.cell? ⟨C,9,none⟩=some (.slice (some ⟨b,o,none⟩) pn pc) /\
  w'.cell? ⟨b,o+i*3,none⟩=some (.int .i64 u0)/\w'.cell? ⟨b,o+i*3+1,none⟩=some (.int .i64 u1)/\w'.cell? ⟨b,o+i*3+2,none⟩=some (.int .i64 u2) /\
  w'.cell? ⟨b,o+j*3,none⟩=some (.int .i64 v0)/\w'.cell? ⟨b,o+j*3+1,none⟩=some (.int .i64 v1)/\w'.cell? ⟨b,o+j*3+2,none⟩=some (.int .i64 v2))
  (go_keep)
  ((go_at_call 78;refine(K _).mono ?_;clear K;rintro e W1 ⟨rfl,hb⟩;have k0:W1.cell? ⟨bC,0,none⟩=some (.pointer (some ⟨C,0,none⟩)):=qs hb;have k1:W1.cell? ⟨br,0,none⟩=some (.int .i64 i):=qs hb;have k2:W1.cell? ⟨C,9,none⟩=some (.slice (some ⟨b,o,none⟩) pn pc):=qs hb;have k3:W1.cell? ⟨b,o+i*3,none⟩=some (.int .i64 u0):=qs hb;have k4:W1.cell? ⟨b,o+i*3+1,none⟩=some (.int .i64 u1):=qs hb;have k5:W1.cell? ⟨b,o+i*3+2,none⟩=some (.int .i64 u2):=qs hb;have k6:W1.cell? ⟨b,o+j*3,none⟩=some (.int .i64 v0):=qs hb;have k7:W1.cell? ⟨b,o+j*3+1,none⟩=some (.int .i64 v1):=qs hb;have k8:W1.cell? ⟨b,o+j*3+2,none⟩=some (.int .i64 v2):=qs hb))
 go_wp2
 go_ret
 exact⟨rfl,((kB _ _).drew).trans hb⟩
def qiB(g:Nat)(lb:Array Value)(p:Int->Bool)(l:List Int)(w:World):Prop:=
 ∀x,x∈l->∀W,BX w W->Calls prog g (#[.int .i64 x]++lb) W fun e w'=>e = .returned (.bool (p x))/\BX W w'
theorem qiC(g:Nat)(lb:Array Value)(p:Int->Bool)(eg:∀args w,(callFunc g args).run prog w = .ok (.enter g args) w)(s:SlV)(l:List Int)(w:World)(hl:qJ w s l)(hbig:s.n<4611686018427387904)(hp:qiB g lb p l w) :
 Calls prog 188 #[.slice s.a s.n s.c,.func (.func g) #[] lb] w fun e w'=>e = .returned (.int .i64 (zM p l))/\BX w w':=by
 obtain⟨a,n,c⟩:=s
 obtain⟨hn1,hcap,hl⟩:=hl
 dsimp only at hn1 hcap hl hbig ⊢
 subst hn1
 replace hl:=vH hl
 replace hp:=vH hp
 go_enter func188,ntmps188
 go_wp2
 go_loopw [8] (fun i wr=>∃k:Nat,k<=l.length/\i = .int .i64 k/\zU p l k/\BX w wr) (fun i _=>l.length-(intOf i).toNat)
 case atStart=>exact⟨0,vO _,rfl,zU.zero _ _,kB _ _⟩
 case round=>
  obtain⟨k,hk,rfl,hY,hB⟩:=hrel
  replace hY:=vH hY
  have k0:(0:Int)<=k:=vN _
  by_cases hlt:k<l.length
  ·obtain⟨x,hx⟩:∃x,l[k]?=some x:=⟨l[k],by rw[vE hlt]⟩
   obtain⟨b,o,rfl,hc⟩:=hl.out k x hx
   have hc':=qb hB hc
   have hi:IntKind.i64.wrap ((k:Int)+1)=k+1:=vI _ (by omega)
   have k1:(k:Int)<l.length:=by omega
   have C:=hp.out x (vM hx) wr hB
   replace hx:=vH hx
   clear hc
   by_cases hq:p x=true
   ·rw[hq] at C
    replace hq:=vH hq
    go_wp2_with (go_at_fn g;refine C.mono ?_;clear C;rintro e W1 ⟨rfl,hb⟩)
    go_ret
    exact⟨qI (hY.out.hit hx.out hq.out).symm,hB.trans (hb.mono hB.size)⟩
   ·have hq':p x=false:=by simpa using hq
    rw[hq'] at C
    replace hq':=vH hq'
    clear hq
    go_wp2_with (go_at_fn g;refine C.mono ?_;clear C;rintro e W1 ⟨rfl,hb⟩)
    exact⟨⟨k+1,by omega,by go_num,hY.out.succ hx.out hq'.out,hB.trans (hb.mono hB.size)⟩,by simp[intOf];omega⟩
  ·clear eg
   go_wp2_with fail
   go_ret
   exact⟨qI (hY.out.miss (by omega)).symm,hB⟩
theorem qdL{α:Type}(p:α->Bool)(l:List α):decide (0<=zM p l)=l.any p:=by
 rcases xh p l with⟨h,hn⟩|⟨k,hk,h,hp⟩
 ·rw[h,Bool.eq_iff_iff]
  simp only[vU,decide_eq_true_eq]
  constructor
  ·intro h0;omega
  ·rintro⟨x,hx,hpx⟩;rw[hn x hx] at hpx;cases hpx
 ·rw[h,Bool.eq_iff_iff]
  simp only[vU,decide_eq_true_eq]
  exact⟨fun _=>⟨l[k],List.getElem_mem hk,hp⟩,fun _=>vN _⟩
theorem Xa(g:Nat)(lb:Array Value)(p:Int->Bool)(eg:∀args w,(callFunc g args).run prog w = .ok (.enter g args) w)(s:SlV)(l:List Int)(w:World)(hl:qJ w s l)(hbig:s.n<4611686018427387904)(hp:qiB g lb p l w) :
 Calls prog 149 #[.slice s.a s.n s.c,.func (.func g) #[] lb] w fun e w'=>e = .returned (.bool (l.any p))/\BX w w':=by
 have C:=qiC g lb p eg s l w hl hbig hp
 have hz:=vH (qdL p l)
 generalize zM p l=z at C hz
 clear hl hp eg
 go_enter func149,ntmps149
 go_wp2_with (go_at_call 188;refine C.mono ?_;clear C;rintro e W1 ⟨rfl,hb⟩)
 go_ret
 exact⟨qq (by rw[←hz.out]),hb⟩
theorem YM(C:Nat)(c:CV)(ps:List Plc)(r:Int)(s:SlV)(l:List Int)(w:World)(hC:jq w C c)(hP:xg w c ps)(hr:Num ps r)(hl:qJ w s l)(hbig:s.n<4611686018427387904)(hx:∀x,x∈l->Num ps x) :
 Calls prog 156 #[.pointer (some ⟨C,0,none⟩),.int .i64 r,.slice s.a s.n s.c] w fun e w'=>e = .returned (.bool (zN ps r l))/\BX w w':=by
 have hB:BX w ((w.alloc (.cells #[.pointer (some ⟨C,0,none⟩)] 146)).alloc (.cells #[.int .i64 r] 3)):=qi.alloc (by simp) _
 have h1:=qk (.cells #[.int .i64 r] 3) (zr w #[.pointer (some ⟨C,0,none⟩)] 146 (j:=0) rfl)
 have h2:=zr (w.alloc (.cells #[.pointer (some ⟨C,0,none⟩)] 146)) #[.int .i64 r] 3 (j:=0) rfl
 rw[vZ] at h2
 have K:=Xa 189 #[.pointer (some ⟨w.heap.size,0,none⟩),.pointer (some ⟨w.heap.size+1,0,none⟩)] (fun x=>zR (plc ps r) (plc ps x)) (enters_of func189 (by kernel_rfl) rfl) s l _ (hl.below hB) hbig
  (fun x hm W hb=>qiA w.heap.size (w.heap.size+1) C c ps r x W ((hb.cell (p:=⟨w.heap.size,0,none⟩) (by simp;omega)).trans h1) ((hb.cell (p:=⟨w.heap.size+1,0,none⟩) (by simp)).trans h2) ((hC.below hB hC.lt).below hb (by have:=hC.lt;simp;omega)) ((hP.below hB).below hb) hr (hx x hm))
 have hq:(l.any fun x=>zR (plc ps r) (plc ps x))=zN ps r l:=rfl
 rw[hq] at K
 generalize zN ps r l=q at K ⊢
 replace hB:=vH hB
 clear h1 h2 hC hP hl hx hq
 go_enter func156,ntmps156
 go_wp2_with (go_at_call 149;refine K.mono ?_;clear K;rintro e W1 ⟨rfl,hb⟩)
 go_ret
 exact⟨rfl,hB.out.trans (hb.mono hB.out.size)⟩
theorem qcG(ps:List Plc)(l:List Int)(k:Nat)(x:Int)(hx:l[k]?=some x):xA ps (l.take k) (l.drop k)=(!zN ps x (l.take k)&&xA ps (l.take (k+1)) (l.drop (k+1))):=by
 have hlt:k<l.length:=(vS.1 hx).1
 rw[List.drop_eq_getElem_cons hlt,vX,hx]
 have:l[k]=x:=(vS.1 hx).2
 rw[this];rfl
theorem Yr(C:Nat)(c:CV)(ps:List Plc)(s:SlV)(l:List Int)(w:World)(hC:jq w C c)(hP:xg w c ps)(hl:qJ w s l)(hbig:s.n<4611686018427387904)(hx:∀x,x∈l->Num ps x) :
 Calls prog 117 #[.pointer (some ⟨C,0,none⟩),.slice s.a s.n s.c] w fun e w'=>e = .returned (.bool (zS ps l))/\BX w w':=by
 obtain⟨a,n,cp⟩:=s
 have hl2:=vH hl
 have hC2:=vH hC
 have hP2:=vH hP
 have hx2:=vH hx
 obtain⟨hn1,hcap,hl⟩:=hl
 dsimp only at hn1 hcap hl hbig ⊢
 subst hn1
 replace hl:=vH hl
 clear hC hP hx
 go_enter func117,ntmps117
 go_wp2
 go_loopw [9] (fun i wr=>∃k:Nat,k<=l.length/\i = .int .i64 k/\Hid (zS ps l=xA ps (l.take k) (l.drop k))/\BX w wr) (fun i _=>l.length-(intOf i).toNat)
 case atStart=>exact⟨0,vO _,rfl,vH (by simp[zS]),kB _ _⟩
 case round=>
  obtain⟨k,hk,rfl,hT,hB⟩:=hrel
  have k0:(0:Int)<=k:=vN _
  by_cases hlt:k<l.length
  ·obtain⟨x,hx⟩:∃x,l[k]?=some x:=⟨l[k],by rw[vE hlt]⟩
   obtain⟨b,o,rfl,hc⟩:=hl.out k x hx
   have hc':=qb hB hc
   have hi:IntKind.i64.wrap ((k:Int)+1)=k+1:=vI _ (by omega)
   have k1:(k:Int)<l.length:=by omega
   have k2:(k:Int)<=cp:=by omega
   have K:=YM C c ps x ⟨some ⟨b,o,none⟩,k,cp⟩ (l.take k) wr (hC2.out.below hB hC2.out.lt) (hP2.out.below hB) (hx2.out x (vM hx)) ((hl2.out.head k hk).below hB) (by show k<_;omega) (fun y hy=>hx2.out y (List.mem_of_mem_take hy))
   have hT2:=vH (hT.out.trans (qcG ps l k x hx))
   dsimp only at K
   clear hT hc
   by_cases hcn:zN ps x (l.take k)=true
   ·have hT3:Hid (zS ps l=false):=vH (by rw[hT2.out,hcn];rfl)
    rw[hcn] at K
    clear hcn hx hT2
    go_wp2_with (go_at_call 156;refine K.mono ?_;clear K;rintro e W1 ⟨rfl,hb⟩)
    go_ret
    exact⟨qq hT3.out.symm,hB.trans (hb.mono hB.size)⟩
   ·have hcn':zN ps x (l.take k)=false:=by simpa using hcn
    have hT3:Hid (zS ps l=xA ps (l.take (k+1)) (l.drop (k+1))):=vH (by rw[hT2.out,hcn'];rfl)
    rw[hcn'] at K
    clear hcn hcn' hx hT2
    go_wp2_with (go_at_call 156;refine K.mono ?_;clear K;rintro e W1 ⟨rfl,hb⟩)
    exact⟨⟨k+1,by omega,by go_num,hT3,hB.trans (hb.mono hB.size)⟩,by simp[intOf];omega⟩
  ·have hT3:Hid (zS ps l=true):=vH (by rw[hT.out,List.drop_eq_nil_of_le (by omega)];rfl)
   clear hT
   go_wp2_with fail
   go_ret
   exact⟨qq hT3.out.symm,hB⟩
def qS(W:World)(s:SlV)(l:List qp):Prop:=
 s.n=l.length/\s.n<=s.c/\∀ (j:Nat) x,l[j]?=some x->∃b o,s.a=some ⟨b,o,none⟩/\∃r:SlV,W.cell? ⟨b,o+j*2,none⟩=some (.string x.name)/\W.cell? ⟨b,o+j*2+1,none⟩=some (.slice r.a r.n r.c)/\qG W r x.regs
theorem qS.below{W W':World}{s:SlV}{l:List qp}(h:qS W s l)(hb:BX W W'):qS W' s l:=
 ⟨h.1,h.2.1,fun j x hj=>by obtain⟨b,o,h1,r,h2,h3,h4⟩:=h.2.2 j x hj;exact⟨b,o,h1,r,qb hb h2,qb hb h3,h4.below hb⟩⟩
def zY(W:World)(s:SlV)(l:List zL):Prop:=
 s.n=l.length/\s.n<=s.c/\∀ (j:Nat) x,l[j]?=some x->∃b o,s.a=some ⟨b,o,none⟩/\W.cell? ⟨b,o+j*2,none⟩=some (.string x.cls)/\W.cell? ⟨b,o+j*2+1,none⟩=some (.string x.fix)
theorem zY.below{W W':World}{s:SlV}{l:List zL}(h:zY W s l)(hb:BX W W'):zY W' s l:=
 ⟨h.1,h.2.1,fun j x hj=>by obtain⟨b,o,h1,h2,h3⟩:=h.2.2 j x hj;exact⟨b,o,h1,qb hb h2,qb hb h3⟩⟩
def jP(W:World)(s:SlV)(l:List OpD):Prop:=
 s.n=l.length/\s.n<=s.c/\∀ (j:Nat) x,l[j]?=some x->∃b o,s.a=some ⟨b,o,none⟩/\∃u k:SlV,W.cell? ⟨b,o+j*6,none⟩=some (.string x.name)/\W.cell? ⟨b,o+j*6+1,none⟩=some (.string x.d.cls)/\W.cell? ⟨b,o+j*6+2,none⟩=some (.string x.d.fix) /\
  W.cell? ⟨b,o+j*6+3,none⟩=some (.slice u.a u.n u.c)/\W.cell? ⟨b,o+j*6+4,none⟩=some (.int .i64 x.tie)/\W.cell? ⟨b,o+j*6+5,none⟩=some (.slice k.a k.n k.c)/\zY W u x.uses/\qG W k x.clob
theorem jP.below{W W':World}{s:SlV}{l:List OpD}(h:jP W s l)(hb:BX W W'):jP W' s l:=
 ⟨h.1,h.2.1,fun j x hj=>by obtain⟨b,o,h1,u,k,h2,h3,h4,h5,h6,h7,h8,h9⟩:=h.2.2 j x hj;exact⟨b,o,h1,u,k,qb hb h2,qb hb h3,qb hb h4,qb hb h5,qb hb h6,qb hb h7,h8.below hb,h9.below hb⟩⟩
theorem qS.head{W:World}{s:SlV}{l:List qp}(h:qS W s l)(k:Nat)(hk:k<=l.length):qS W ⟨s.a,k,s.c⟩ (l.take k):=by
 refine⟨by simp;omega,?_,fun j x hj=>?_⟩
 ·have:=h.1;have:=h.2.1;show k<=s.c;omega
 ·rw[List.getElem?_take] at hj
  split at hj
  ·exact h.2.2 j x hj
  ·cases hj
theorem jP.head{W:World}{s:SlV}{l:List OpD}(h:jP W s l)(k:Nat)(hk:k<=l.length):jP W ⟨s.a,k,s.c⟩ (l.take k):=by
 refine⟨by simp;omega,?_,fun j x hj=>?_⟩
 ·have:=h.1;have:=h.2.1;show k<=s.c;omega
 ·rw[List.getElem?_take] at hj
  split at hj
  ·exact h.2.2 j x hj
  ·cases hj
theorem Kv(name:ByteArray)(ra:Option Addr)(rn rc:Nat)(w:World):Calls prog 108 #[.agg #[.string name,.slice ra rn rc]] w fun e w'=>e = .returned (.string name)/\BX w w':=by
 go_enter func108,ntmps108
 go_wp2
 go_ret
 exact⟨rfl,qi⟩
theorem qhf(bn bf:Nat)(name:ByteArray)(ra:Option Addr)(rn rc:Nat)(nm:ByteArray)(w:World)(hf:w.cell? ⟨bf,0,none⟩=some (.func (.func 108) #[] #[]))(hn:w.cell? ⟨bn,0,none⟩=some (.string nm)) :
 Calls prog 146 #[.agg #[.string name,.slice ra rn rc],.pointer (some ⟨bf,0,none⟩),.pointer (some ⟨bn,0,none⟩)] w fun e w'=>e = .returned (.bool (eqB name nm))/\BX w w':=by
 have lf:=kW _ _ hf
 have ln:=kW _ _ hn
 dsimp only at lf ln
 have nf:=World.new_ne w _ hf
 have nn:=World.new_ne w _ hn
 go_enter func146,ntmps146
 go_wp2
 go_region_held3 (fun w'=>w'.cell? ⟨bf,0,none⟩=some (.func (.func 108) #[] #[])/\w'.cell? ⟨bn,0,none⟩=some (.string nm)/\w'.cell? ⟨w.heap.size,0,none⟩=some (.string name)/\w'.cell? ⟨w.heap.size,1,none⟩=some (.slice ra rn rc))
  (go_keep)
  ((go_at_call 108;refine(Kv _ _ _ _ _).mono ?_;rintro e W1 ⟨rfl,hb⟩;have k0:W1.cell? ⟨bf,0,none⟩=some (.func (.func 108) #[] #[]):=qs hb;have k1:W1.cell? ⟨bn,0,none⟩=some (.string nm):=qs hb;have k2:W1.cell? ⟨w.heap.size,0,none⟩=some (.string name):=qs hb;have k3:W1.cell? ⟨w.heap.size,1,none⟩=some (.slice ra rn rc):=qs hb))
 go_wp2
 go_ret
 exact⟨qq (Qi name nm).symm,(qi.drew).trans (hb.mono (by simp))⟩
theorem qiD(bn bf:Nat)(s:SlV)(l:List qp)(nm:ByteArray)(w:World)(hl:qS w s l)(hbig:s.n<4611686018427387904)
 (hf:w.cell? ⟨bf,0,none⟩=some (.func (.func 108) #[] #[])) (hn:w.cell? ⟨bn,0,none⟩=some (.string nm)) :
 Calls prog 145 #[.slice s.a s.n s.c,.func (.func 146) #[] #[.pointer (some ⟨bf,0,none⟩),.pointer (some ⟨bn,0,none⟩)]] w fun e w'=>
  e = .returned (.int .i64 (zM (fun x:qp=>eqB x.name nm) l))/\BX w w':=by
 obtain⟨a,n,c⟩:=s
 obtain⟨hn1,hcap,hl⟩:=hl
 dsimp only at hn1 hcap hl hbig ⊢
 subst hn1
 replace hl:=vH hl
 go_enter func145,ntmps145
 go_wp2
 go_loopw [8] (fun i wr=>∃k:Nat,k<=l.length/\i = .int .i64 k/\zU (fun x:qp=>eqB x.name nm) l k/\BX w wr) (fun i _=>l.length-(intOf i).toNat)
 case atStart=>exact⟨0,vO _,rfl,zU.zero _ _,kB _ _⟩
 case round=>
  obtain⟨k,hk,rfl,hY,hB⟩:=hrel
  replace hY:=vH hY
  have k0:(0:Int)<=k:=vN _
  by_cases hlt:k<l.length
  ·obtain⟨x,hx⟩:∃x,l[k]?=some x:=⟨l[k],by rw[vE hlt]⟩
   obtain⟨b,o,rfl,hx0⟩:=hl.out k x hx
   obtain⟨r,hc0,hc1,_⟩:=hx0
   replace hc0:=qb hB hc0
   replace hc1:=qb hB hc1
   have hi:IntKind.i64.wrap ((k:Int)+1)=k+1:=vI _ (by omega)
   have k1:(k:Int)<l.length:=by omega
   have C:=fun h1 h2=>qhf bn bf x.name r.a r.n r.c nm wr h1 h2
   replace C:=C (qb hB hf) (qb hB hn)
   replace hx:=vH hx
   clear hf hn
   by_cases hp:eqB x.name nm=true
   ·rw[hp] at C
    replace hp:=vH hp
    go_wp2_with (go_at_call 146;refine C.mono ?_;clear C;rintro e W1 ⟨rfl,hb⟩)
    go_ret
    exact⟨qI (hY.out.hit hx.out hp.out).symm,hB.trans (hb.mono hB.size)⟩
   ·have hp':eqB x.name nm=false:=by simpa using hp
    rw[hp'] at C
    replace hp':=vH hp'
    clear hp
    go_wp2_with (go_at_call 146;refine C.mono ?_;clear C;rintro e W1 ⟨rfl,hb⟩)
    exact⟨⟨k+1,by omega,by go_num,hY.out.succ hx.out hp'.out,hB.trans (hb.mono hB.size)⟩,by simp[intOf];omega⟩
  ·clear hf hn
   go_wp2_with fail
   go_ret
   exact⟨qI (hY.out.miss (by omega)).symm,hB⟩
theorem YN(s:SlV)(l:List qp)(nm:ByteArray)(w:World)(hl:qS w s l)(hbig:s.n<4611686018427387904) :
 Calls prog 107 #[.slice s.a s.n s.c,.string nm,.func (.func 108) #[] #[]] w fun e w'=>
  e = .returned (.int .i64 (zM (fun x:qp=>eqB x.name nm) l))/\BX w w':=by
 have hB:BX w ((w.alloc (.cells #[.string nm] 9)).alloc (.cells #[.func (.func 108) #[] #[]] 148)):=qi.alloc (by simp) _
 have C:=qiD w.heap.size (w.heap.size+1) s l nm ((w.alloc (.cells #[.string nm] 9)).alloc (.cells #[.func (.func 108) #[] #[]] 148)) (hl.below hB) hbig
  (by have:=zr (w.alloc (.cells #[.string nm] 9)) #[.func (.func 108) #[] #[]] 148 (j:=0) rfl
      rw[vZ] at this;exact this)
  (qk _ (zr w #[.string nm] 9 (j:=0) rfl))
 replace hB:=vH hB
 clear hl
 generalize zM (fun x:qp=>eqB x.name nm) l=z at C ⊢
 go_enter func107,ntmps107
 go_wp2_with (go_at_call 145;refine C.mono ?_;clear C;rintro e W1 ⟨rfl,hb⟩)
 go_ret
 exact⟨rfl,hB.out.trans (hb.mono hB.out.size)⟩
theorem qcH(name dc df:ByteArray)(ua:Option Addr)(un uc:Nat)(tie:Int)(ka:Option Addr)(kn kc:Nat)(w:World):Calls prog 115 #[.agg #[.string name,.string dc,.string df,.slice ua un uc,.int .i64 tie,.slice ka kn kc]] w fun e w'=>e = .returned (.string name)/\BX w w':=by
 go_enter func115,ntmps115
 go_wp2
 go_ret
 exact⟨rfl,qi⟩
theorem qlj(bn bf:Nat)(name dc df:ByteArray)(ua:Option Addr)(un uc:Nat)(tie:Int)(ka:Option Addr)(kn kc:Nat)(nm:ByteArray)(w:World)(hf:w.cell? ⟨bf,0,none⟩=some (.func (.func 115) #[] #[]))(hn:w.cell? ⟨bn,0,none⟩=some (.string nm)) :
 Calls prog 152 #[.agg #[.string name,.string dc,.string df,.slice ua un uc,.int .i64 tie,.slice ka kn kc],.pointer (some ⟨bf,0,none⟩),.pointer (some ⟨bn,0,none⟩)] w fun e w'=>e = .returned (.bool (eqB name nm))/\BX w w':=by
 have lf:=kW _ _ hf
 have ln:=kW _ _ hn
 dsimp only at lf ln
 have nf:=World.new_ne w _ hf
 have nn:=World.new_ne w _ hn
 go_enter func152,ntmps152
 go_wp2
 go_region_held3 (fun w'=>w'.cell? ⟨bf,0,none⟩=some (.func (.func 115) #[] #[])/\w'.cell? ⟨bn,0,none⟩=some (.string nm)/\w'.cell? ⟨w.heap.size,0,none⟩=some (.string name)/\w'.cell? ⟨w.heap.size,1,none⟩=some (.string dc)/\w'.cell? ⟨w.heap.size,2,none⟩=some (.string df)/\w'.cell? ⟨w.heap.size,3,none⟩=some (.slice ua un uc)/\w'.cell? ⟨w.heap.size,4,none⟩=some (.int .i64 tie)/\w'.cell? ⟨w.heap.size,5,none⟩=some (.slice ka kn kc))
  (go_keep)
  ((go_at_call 115;refine(qcH _ _ _ _ _ _ _ _ _ _ _).mono ?_;rintro e W1 ⟨rfl,hb⟩;have k0:W1.cell? ⟨bf,0,none⟩=some (.func (.func 115) #[] #[]):=qs hb;have k1:W1.cell? ⟨bn,0,none⟩=some (.string nm):=qs hb;have k2:W1.cell? ⟨w.heap.size,0,none⟩=some (.string name):=qs hb;have k3:W1.cell? ⟨w.heap.size,1,none⟩=some (.string dc):=qs hb;have k4:W1.cell? ⟨w.heap.size,2,none⟩=some (.string df):=qs hb;have k5:W1.cell? ⟨w.heap.size,3,none⟩=some (.slice ua un uc):=qs hb;have k6:W1.cell? ⟨w.heap.size,4,none⟩=some (.int .i64 tie):=qs hb;have k7:W1.cell? ⟨w.heap.size,5,none⟩=some (.slice ka kn kc):=qs hb))
 go_wp2
 go_ret
 exact⟨qq (Qi name nm).symm,(qi.drew).trans (hb.mono (by simp))⟩
theorem qlI(bn bf:Nat)(s:SlV)(l:List OpD)(nm:ByteArray)(w:World)(hl:jP w s l)(hbig:s.n<4611686018427387904)
 (hf:w.cell? ⟨bf,0,none⟩=some (.func (.func 115) #[] #[])) (hn:w.cell? ⟨bn,0,none⟩=some (.string nm)) :
 Calls prog 151 #[.slice s.a s.n s.c,.func (.func 152) #[] #[.pointer (some ⟨bf,0,none⟩),.pointer (some ⟨bn,0,none⟩)]] w fun e w'=>
  e = .returned (.int .i64 (zM (fun x:OpD=>eqB x.name nm) l))/\BX w w':=by
 obtain⟨a,n,c⟩:=s
 obtain⟨hn1,hcap,hl⟩:=hl
 dsimp only at hn1 hcap hl hbig ⊢
 subst hn1
 replace hl:=vH hl
 go_enter func151,ntmps151
 go_wp2
 go_loopw [8] (fun i wr=>∃k:Nat,k<=l.length/\i = .int .i64 k/\zU (fun x:OpD=>eqB x.name nm) l k/\BX w wr) (fun i _=>l.length-(intOf i).toNat)
 case atStart=>exact⟨0,vO _,rfl,zU.zero _ _,kB _ _⟩
 case round=>
  obtain⟨k,hk,rfl,hY,hB⟩:=hrel
  replace hY:=vH hY
  have k0:(0:Int)<=k:=vN _
  by_cases hlt:k<l.length
  ·obtain⟨x,hx⟩:∃x,l[k]?=some x:=⟨l[k],by rw[vE hlt]⟩
   obtain⟨b,o,rfl,hx0⟩:=hl.out k x hx
   obtain⟨u,v,hc0,hc1,hc2,hc3,hc4,hc5,_⟩:=hx0
   replace hc0:=qb hB hc0
   replace hc1:=qb hB hc1
   replace hc2:=qb hB hc2
   replace hc3:=qb hB hc3
   replace hc4:=qb hB hc4
   replace hc5:=qb hB hc5
   have hi:IntKind.i64.wrap ((k:Int)+1)=k+1:=vI _ (by omega)
   have k1:(k:Int)<l.length:=by omega
   have C:=fun h1 h2=>qlj bn bf x.name x.d.cls x.d.fix u.a u.n u.c x.tie v.a v.n v.c nm wr h1 h2
   replace C:=C (qb hB hf) (qb hB hn)
   replace hx:=vH hx
   clear hf hn
   by_cases hp:eqB x.name nm=true
   ·rw[hp] at C
    replace hp:=vH hp
    go_wp2_with (go_at_call 152;refine C.mono ?_;clear C;rintro e W1 ⟨rfl,hb⟩)
    go_ret
    exact⟨qI (hY.out.hit hx.out hp.out).symm,hB.trans (hb.mono hB.size)⟩
   ·have hp':eqB x.name nm=false:=by simpa using hp
    rw[hp'] at C
    replace hp':=vH hp'
    clear hp
    go_wp2_with (go_at_call 152;refine C.mono ?_;clear C;rintro e W1 ⟨rfl,hb⟩)
    exact⟨⟨k+1,by omega,by go_num,hY.out.succ hx.out hp'.out,hB.trans (hb.mono hB.size)⟩,by simp[intOf];omega⟩
  ·clear hf hn
   go_wp2_with fail
   go_ret
   exact⟨qI (hY.out.miss (by omega)).symm,hB⟩
theorem qiE(s:SlV)(l:List OpD)(nm:ByteArray)(w:World)(hl:jP w s l)(hbig:s.n<4611686018427387904) :
 Calls prog 114 #[.slice s.a s.n s.c,.string nm,.func (.func 115) #[] #[]] w fun e w'=>
  e = .returned (.int .i64 (zM (fun x:OpD=>eqB x.name nm) l))/\BX w w':=by
 have hB:BX w ((w.alloc (.cells #[.string nm] 9)).alloc (.cells #[.func (.func 115) #[] #[]] 153)):=qi.alloc (by simp) _
 have C:=qlI w.heap.size (w.heap.size+1) s l nm ((w.alloc (.cells #[.string nm] 9)).alloc (.cells #[.func (.func 115) #[] #[]] 153)) (hl.below hB) hbig
  (by have:=zr (w.alloc (.cells #[.string nm] 9)) #[.func (.func 115) #[] #[]] 153 (j:=0) rfl
      rw[vZ] at this;exact this)
  (qk _ (zr w #[.string nm] 9 (j:=0) rfl))
 replace hB:=vH hB
 clear hl
 generalize zM (fun x:OpD=>eqB x.name nm) l=z at C ⊢
 go_enter func114,ntmps114
 go_wp2_with (go_at_call 151;refine C.mono ?_;clear C;rintro e W1 ⟨rfl,hb⟩)
 go_ret
 exact⟨rfl,hB.out.trans (hb.mono hB.out.size)⟩
theorem qm{W:World}{base base':Nat}{e:TypeId}{size:Nat}{v:Value}{n:Nat}{xs:List Value}(h:W.ownsRow base e size v n xs)(hb:base'<=base):W.ownsRow base' e size v n xs:=
 ⟨h.1,h.2.elim .inl (fun⟨g,cap,cur,a,b,r⟩=>.inr ⟨g,cap,cur,a,vR hb b,r⟩)⟩
def qN(W:World)(s:SlV)(l:List Int):Prop:=W.ownsRow 0 3 1 s.v l.length (l.map (Value.int .i64))
theorem qN.at_{W:World}{s:SlV}{l:List Int}(h:qN W s l):qJ W s l:=qJ.of_row h rfl
theorem qN.below{W W':World}{s:SlV}{l:List Int}(h:qN W s l)(hb:BX W W'):qN W' s l:=qe h hb
theorem qN.nil(W:World):qN W ⟨none,0,0⟩ []:=kO _ _ _ _
theorem qN.len{W:World}{s:SlV}{l:List Int}(h:qN W s l):s.n=l.length:=h.at_.1
theorem qav(b o j:Nat):(⟨b,o,none⟩:Addr).add j=⟨b,o+j,none⟩:=by
 unfold Addr.add;split <;> simp_all
def qaw(w:World)(l:List Int)(e:Ending)(w':World):Prop:=∃s:SlV,e = .returned (.slice s.a s.n s.c)/\w'.ownsRow w.heap.size 3 1 s.v l.length (l.map (Value.int .i64))/\BX w w'
theorem Ys(s:SlV)(l:List Int)(w:World)(hl:qJ w s l)(hbig:s.n<=100000)(hnil:s.a=none->s.c=0) :
 Calls prog 155 #[.slice s.a s.n s.c] w (qaw w l):=by
 obtain⟨a,n,c⟩:=s
 obtain⟨hn1,hcap,hl⟩:=hl
 dsimp only at hn1 hcap hl hbig hnil ⊢
 subst hn1
 have q22:∀ (w:World) (a:Option Addr) (n c n' c':Nat),(binOp .eql 55 (.slice a n c) (.slice none n' c')).run prog w = .ok (.bool a.isNone) w:=fun w a n c n' c'=>Lib.run_eql_slice_nil w _ _ a n c n' c' underlying55
 cases a with
 |none=>
  have hc:=hnil rfl
  subst hc
  have hl0:l = []:=vJ.1 (by omega)
  subst hl0
  clear hl
  go_enter func155,ntmps155
  go_wp2
  go_ret
  exact⟨⟨none,0,0⟩,rfl,kO _ _ _ _,kB _ _⟩
 |some ad=>
  have hl2:∀ (j:Nat) u,(l.map (Value.int .i64))[j]?=some u->w.cell? (ad.add j)=some u:=fun j u hj=>by
   rw[vY] at hj
   cases hx:l[j]? with
   | none=>rw[hx] at hj;cases hj
   |some x=>
    rw[hx] at hj;cases hj
    obtain⟨b,o,h1,h2⟩:=hl j x hx
    cases h1
    rw[qav]
    exact h2
  have hl3:=vH hl2
  obtain⟨i0,hi,hz0,hz1,hz2⟩:=info_parts ji
  clear hl hl2 hnil
  go_enter func155,ntmps155
  go_wp2_with (at_builtin;refine wpList_append_own _ rfl _ _ 55 rfl w.heap.size 3 i0 _ 1 8 underlying55 hi hz0 hz1 hz2 rfl (by decide) _ _ _ rfl (World.ownsRow_made w #[] 0 (vL _) (vO _) (by simp)) ad l.length c (l.map (Value.int .i64)) rfl ?qc1 ?qc2 ?qc3 ?qc4 ?qc5 ?qc6 ?_)
  case qc1=>simp
  case qc2=>
   intro j u hj
   exact qk _ (hl3.out j u hj)
  case qc3=>intro u hu;obtain⟨x,_,rfl⟩:=List.mem_map.1 hu;rfl
  case qc4=>unfold maxLen;omega
  case qc5=>omega
  case qc6=>simp
  intro v' w1 hown hgrow hnil
  have hown':w1.ownsRow w.heap.size 3 1 v' l.length (l.map (Value.int .i64)):=by simpa using hown
  obtain⟨a',c',rfl⟩:=qx hown'
  have hB:BX w w1:=((kB _ w).alloc (vL _) _).grown hgrow (by simp) (by intro k hk;simp[Value.ownBlock] at hk;omega)
  clear hown hgrow hnil
  go_wp2
  go_ret
  exact⟨⟨a',l.length,c'⟩,rfl,hown',hB⟩
theorem qax:(prog.info? 55).map (fun i=>(i.zero,i.size,i.bytes))=some (some (.slice none 0 0),1,24):=by kernel_rfl
def ju(W:World)(s:SlV)(l:List SlV):Prop:=
 s.n=l.length/\s.n<=s.c/\∀ (j:Nat) x,l[j]?=some x->∃b o,s.a=some ⟨b,o,none⟩/\W.cell? ⟨b,o+j,none⟩=some (.slice x.a x.n x.c)
theorem ju.below{W W':World}{s:SlV}{l:List SlV}(h:ju W s l)(hb:BX W W'):ju W' s l:=
 ⟨h.1,h.2.1,fun j x hj=>by obtain⟨b,o,h1,h2⟩:=h.2.2 j x hj;exact⟨b,o,h1,qb hb h2⟩⟩
theorem ju.of_row{W:World}{base n:Nat}{e:TypeId}{s:SlV}{l:List SlV}(h:W.ownsRow base e 1 s.v n (l.map SlV.v))(hn:n=l.length):ju W s l:=by
 rcases h.2 with⟨h1,h2⟩|⟨g,cap,cur,h1,h2,h3,h4,_⟩
 ·unfold SlV.v at h1
  injection h1 with e1 e2 e3
  have hl:l = []:=vJ.1 (by omega)
  subst hl
  exact⟨by simp;omega,by omega,fun j x hj=>by simp at hj⟩
 ·unfold SlV.v at h1
  injection h1 with e1 e2 e3
  refine⟨by omega,by omega,fun j x hj=>⟨g,0,e1,?_⟩⟩
  rw[Nat.zero_add]
  have hv:s.v = .slice (some ⟨g,0,none⟩) s.n s.c:=by unfold SlV.v;rw[e1]
  rw[hv] at h
  exact qu h (by rw[vY,hj];rfl)
def qbg(w:World)(l:List SlV)(e:Ending)(w':World):Prop:=∃s:SlV,e = .returned (.slice s.a s.n s.c)/\w'.ownsRow w.heap.size 55 1 s.v l.length (l.map SlV.v)/\BX w w'
theorem qfp(s:SlV)(l:List SlV)(w:World)(hl:ju w s l)(hbig:s.n<=100000)(hnil:s.a=none->s.c=0) :
 Calls prog 161 #[.slice s.a s.n s.c] w (qbg w l):=by
 obtain⟨a,n,c⟩:=s
 obtain⟨hn1,hcap,hl⟩:=hl
 dsimp only at hn1 hcap hl hbig hnil ⊢
 subst hn1
 have q22:∀ (w:World) (a:Option Addr) (n c n' c':Nat),(binOp .eql 65 (.slice a n c) (.slice none n' c')).run prog w = .ok (.bool a.isNone) w:=fun w a n c n' c'=>Lib.run_eql_slice_nil w _ _ a n c n' c' underlying65
 cases a with
 |none=>
  have hc:=hnil rfl
  subst hc
  have hl0:l = []:=vJ.1 (by omega)
  subst hl0
  clear hl
  go_enter func161,ntmps161
  go_wp2
  go_ret
  exact⟨⟨none,0,0⟩,rfl,kO _ _ _ _,kB _ _⟩
 |some ad=>
  have hl2:∀ (j:Nat) u,(l.map SlV.v)[j]?=some u->w.cell? (ad.add j)=some u:=fun j u hj=>by
   rw[vY] at hj
   cases hx:l[j]? with
   | none=>rw[hx] at hj;cases hj
   |some x=>
    rw[hx] at hj;cases hj
    obtain⟨b,o,h1,h2⟩:=hl j x hx
    cases h1
    rw[qav]
    exact h2
  have hl3:=vH hl2
  obtain⟨i0,hi,hz0,hz1,hz2⟩:=info_parts qax
  clear hl hl2 hnil
  go_enter func161,ntmps161
  go_wp2_with (at_builtin;refine wpList_append_own _ rfl _ _ 65 rfl w.heap.size 55 i0 _ 1 24 underlying65 hi hz0 hz1 hz2 rfl (by decide) _ _ _ rfl (World.ownsRow_made w #[] 0 (vL _) (vO _) (by simp)) ad l.length c (l.map SlV.v) rfl ?qc1 ?qc2 ?qc3 ?qc4 ?qc5 ?qc6 ?_)
  case qc1=>simp
  case qc2=>
   intro j u hj
   exact qk _ (hl3.out j u hj)
  case qc3=>intro u hu;obtain⟨x,_,rfl⟩:=List.mem_map.1 hu;rfl
  case qc4=>unfold maxLen;omega
  case qc5=>omega
  case qc6=>simp
  intro v' w1 hown hgrow hnil
  have hown':w1.ownsRow w.heap.size 55 1 v' l.length (l.map SlV.v):=by simpa using hown
  obtain⟨a',c',rfl⟩:=qx hown'
  have hB:BX w w1:=((kB _ w).alloc (vL _) _).grown hgrow (by simp) (by intro k hk;simp[Value.ownBlock] at hk;omega)
  clear hown hgrow hnil
  go_wp2
  go_ret
  exact⟨⟨a',l.length,c'⟩,rfl,hown',hB⟩
theorem qd.setMany{b:Nat}{t:TypeId} : ∀ (vs:List Value) (o:Nat) (W:World) (cs:Array Value),qd W b t cs->∃cs',qd (W.setCells b o vs) b t cs'/\cs'.size=cs.size/\∀j,j<o->cs'[j]?=cs[j]?
 | [],_,_,cs,h=>⟨cs,h,rfl,fun _ _=>rfl⟩
 |v::vs,o,W,cs,h=>by
  obtain⟨cs',h1,h2,h3⟩:=qd.setMany vs (o+1) (W.setCell ⟨b,o,none⟩ v) _ (h.set (j:=o) v)
  refine⟨cs',h1,by rw[h2];simp,fun j hj=>?_⟩
  rw[h3 j (by omega),Array.getElem?_setIfInBounds_ne (by omega)]
theorem Jd{B b:Nat}{a:World}(hb:B<=b):∀ (vs:List Value) (o:Nat) (w:World),Below B a w->Below B a (w.setCells b o vs)
 | [],_,_,h=>h
 | v::vs,o,_,h=>Jd hb vs (o+1) _ (h.setCell (p:=⟨b,o,none⟩) hb v)
structure Xn(l:List Int)(p:Int->Bool)(cur0:Array Value)(i j:Nat)(cur:Array Value):Prop where
 size:cur.size=cur0.size
 lt:i<j
 le:j<=l.length
 len:((l.take j).filter fun x=>!p x).length=i
 low:∀ (t:Nat) x,((l.take j).filter fun x=>!p x)[t]?=some x->cur[t]?=some (Value.int .i64 x)
 high:∀ (t:Nat),j<=t->cur[t]?=cur0[t]?
theorem Xn.skip{l:List Int}{p:Int->Bool}{cur0 cur:Array Value}{i j:Nat}{x:Int}(h:Xn l p cur0 i j cur)(hx:l[j]?=some x)(hp:p x=true):Xn l p cur0 i (j+1) cur:=by
 have hlt:j<l.length:=(vS.1 hx).1
 have e:(l.take (j+1)).filter (fun x=>!p x)=(l.take j).filter fun x=>!p x:=by rw[vX,hx,List.filter_append];simp[hp]
 exact⟨h.size,by have:=h.lt;omega,by omega,by rw[e];exact h.len,by rw[e];exact h.low,fun t ht=>h.high t (by omega)⟩
theorem Xn.keep{l:List Int}{p:Int->Bool}{cur0 cur:Array Value}{i j:Nat}{x:Int}(h:Xn l p cur0 i j cur)(hl:l.length<=cur0.size)(hx:l[j]?=some x)(hp:p x=false):Xn l p cur0 (i+1) (j+1) (cur.setIfInBounds i (.int .i64 x)):=by
 have hlt:j<l.length:=(vS.1 hx).1
 have e:(l.take (j+1)).filter (fun x=>!p x)=((l.take j).filter fun x=>!p x)++[x]:=by rw[vX,hx,List.filter_append];simp[hp]
 have hi:=h.lt
 refine⟨by simp[h.size],by omega,by omega,by rw[e,kA,h.len];rfl,fun t y hy=>?_,fun t ht=>?_⟩
 ·rw[e] at hy
  by_cases ht:t<i
  ·rw[List.getElem?_append_left (by rw[h.len];exact ht)] at hy
   rw[Array.getElem?_setIfInBounds_ne (by omega)]
   exact h.low t y hy
  ·rw[kR (by rw[h.len];omega),h.len] at hy
   have ht2:t=i:=by
    have:=(vS.1 hy).1
    simp at this;omega
   subst ht2
   rw[Nat.sub_self] at hy
   have:x=y:=by simpa using hy
   subst this
   rw[Array.getElem?_setIfInBounds_self_of_lt (by rw[h.size];omega)]
 ·rw[Array.getElem?_setIfInBounds_ne (by omega)]
  exact h.high t (by omega)
def qak(base:Nat)(w:World)(l:List Int)(p:Int->Bool)(e:Ending)(w':World):Prop:=
 ∃s:SlV,e = .returned (.slice s.a s.n s.c)/\w'.ownsRow base 3 1 s.v (l.filter fun x=>!p x).length ((l.filter fun x=>!p x).map (Value.int .i64))/\Below base w w'
theorem qay(base g:Nat)(lb:Array Value)(p:Int->Bool)(eg:∀args w,(callFunc g args).run prog w = .ok (.enter g args) w)(s:SlV)(l:List Int)(w:World)(hl:w.ownsRow base 3 1 s.v l.length (l.map (Value.int .i64)))(hbig:l.length<=100000)(hbase:base<=w.heap.size)
 (hp:∀x,x∈l->∀W,Below base w W->Calls prog g (#[.int .i64 x]++lb) W fun e w'=>e = .returned (.bool (p x))/\BX W w') :
 Calls prog 159 #[.slice s.a s.n s.c,.func (.func g) #[] lb] w (qak base w l p):=by
 have hIF:=qiC g lb p eg s l w (qJ.of_row hl rfl) (by have:=(qJ.of_row hl rfl).1;omega) (fun x hx W hb=>hp x hx W (hb.mono hbase))
 have hn:=(qJ.of_row hl rfl).1
 rcases xh p l with⟨e1,hno⟩|⟨k0,hk0,e1,hyes⟩
 ·
   rw[e1] at hIF
   have hfil:l.filter (fun x=>!p x)=l:=List.filter_eq_self.2 fun x hx=>by simp[hno x hx]
   have hP:∀W,BX w W->qak base w l p (.returned (.slice s.a s.n s.c)) W:=fun W hb=>⟨s,rfl,by rw[hfil];exact qe hl hb,hb.mono hbase⟩
   replace hP:=vH hP
   clear hl hp hno hfil e1 hn
   go_enter func159,ntmps159
   go_wp2_with (go_at_call 188;refine hIF.mono ?_;clear hIF;rintro e W1 ⟨rfl,hb⟩)
   go_ret
   exact hP.out _ hb
 ·obtain⟨a,n,c⟩:=s
  dsimp only at hn
  subst hn
  rcases hl.2 with⟨_,h2⟩|⟨B,cap,cur0,h1,hbB,hBc,hcap,hmax,hsz,htk⟩
  ·omega
  ·unfold SlV.v at h1
   injection h1 with ea _ ec
   dsimp only at ea ec
   subst ea ec
   rw[e1] at hIF
   have hC0:qd w B 3 cur0:=hBc
   have hlc:l.length<=cur0.size:=by omega
   have hcur:∀ (t:Nat) x,l[t]?=some x->cur0[t]?=some (.int .i64 x):=fun t x hx=>by
    have:(l.map (Value.int .i64))[t]?=some (.int .i64 x):=by rw[vY,hx];rfl
    rw[←htk,List.getElem?_take] at this
    split at this
    ·simpa using this
    ·cases this
   have hfirst:∀j,j<k0->∀x,l[j]?=some x->p x=false:=by
    unfold zM at e1
    cases hf:l.findIdx? p with
    | none=>rw[hf] at e1;simp at e1
    |some k=>
     rw[hf] at e1
     have hk:k=k0:=by have:(k:Int)=k0:=e1;omega
     subst hk
     obtain⟨_,_,hno⟩:=List.findIdx?_eq_some_iff_getElem.1 hf
     intro j hj x hx
     have:=hno j hj
     rw[(vS.1 hx).2] at this
     simpa using this
   have hstart:Xn l p cur0 k0 (k0+1) cur0:=by
    have e0:(l.take k0).filter (fun x=>!p x)=l.take k0:=List.filter_eq_self.2 fun x hx=>by
     obtain⟨j,hj⟩:=List.getElem?_of_mem hx
     rw[List.getElem?_take] at hj
     split at hj
     ·simp[hfirst j (by assumption) x hj]
     ·cases hj
    have e2:(l.take (k0+1)).filter (fun x=>!p x)=l.take k0:=by
     rw[vX,vE hk0,List.filter_append,e0];simp[hyes]
    refine⟨rfl,by omega,by omega,by rw[e2];simp;omega,fun t x hx=>?_,fun _ _=>rfl⟩
    rw[e2,List.getElem?_take] at hx
    split at hx
    ·exact hcur t x hx
    ·cases hx
   have hp2:=vH hp
   have hc2:=vH hcur
   replace hstart:=vH hstart
   have hl0:(0:Int)<=l.length:=vN _
   have hne1:((k0:Int) == -1)=false:=beq_eq_false_iff_ne.2 (by omega)
   have hk0':IntKind.i64.wrap ((k0:Int)+1)=k0+1:=vI _ (by omega)
   clear hl hp hcur hfirst e1 hyes htk hBc
   go_enter func159,ntmps159
   go_wp2_with (go_at_call 188;refine hIF.mono ?_;clear hIF;rintro e W1 ⟨rfl,hb⟩)
   clear hne1 hk0'
   go_loopw [5,6] (fun s5 s6 wr=>∃ (i j:Nat) (cur:Array Value),s5 = .int .i64 i/\s6 = .int .i64 j/\qd wr B 3 cur/\Xn l p cur0 i j cur/\Below base w wr) (fun _ s6 _=>l.length-(intOf s6).toNat)
   case atStart=>exact⟨k0,k0+1,cur0,rfl,by go_num,hC0.below hb hC0.lt,hstart.out,hb.mono hbase⟩
   case round=>
    obtain⟨i,j,cur,rfl,rfl,hC,inv,hB⟩:=hrel
    have hij:=inv.lt
    have hjl:=inv.le
    have hsz2:=inv.size
    have i0:(0:Int)<=i:=vN _
    have j0:(0:Int)<=j:=vN _
    have i1:(i:Int)<l.length:=by omega
    replace inv:=vH inv
    by_cases hlt:j<l.length
    ·obtain⟨x,hx⟩:∃x,l[j]?=some x:=⟨l[j],by rw[vE hlt]⟩
     have j1:(j:Int)<l.length:=by omega
     have hi:IntKind.i64.wrap ((i:Int)+1)=i+1:=vI _ (by omega)
     have hj:IntKind.i64.wrap ((j:Int)+1)=j+1:=vI _ (by omega)
     have cj:=hC.cell (j:=j) (by rw[inv.out.high j (vL _)];exact hc2.out j x hx)
     obtain⟨old,ho⟩:∃v,cur[i]?=some v:=⟨cur[i]'(by omega),by rw[Array.getElem?_eq_getElem (by omega)]⟩
     have K:=hp2.out x (vM hx) wr hB
     have hlt2:=hC.lt
     have hNx:∀W1,BX wr W1->(W1.cell? ⟨B,i,none⟩=some old/\W1.frozen? ⟨B,i,none⟩=false)/\qd W1 B 3 cur/\qd (W1.setCell ⟨B,i,none⟩ (.int .i64 x)) B 3 (cur.setIfInBounds i (.int .i64 x))/\Below base w W1/\Below base w (W1.setCell ⟨B,i,none⟩ (.int .i64 x)):=fun W1 hb1=>by
      have hC1:=hC.below hb1 hlt2
      have hB1:=hB.trans (hb1.mono (vR hbase hB.size))
      exact⟨⟨hC1.cell ho,hC1.frozen i⟩,hC1,hC1.set (j:=i) _,hB1,hB1.setCell (p:=⟨B,i,none⟩) hbB _⟩
     replace hx:=vH hx
     clear hC ho
     by_cases hq:p x=true
     ·rw[hq] at K
      replace hq:=vH hq
      go_wp2_with (go_at_fn g;refine K.mono ?_;clear K;rintro e W2 ⟨rfl,hb2⟩;obtain⟨_,m1,_,m3,_⟩:=hNx W2 hb2;clear hNx)
      exact⟨⟨i,j+1,cur,rfl,by go_num,m1,inv.out.skip hx.out hq.out,m3⟩,by simp[intOf];omega⟩
     ·have hq':p x=false:=by simpa using hq
      rw[hq'] at K
      replace hq':=vH hq'
      clear hq
      go_wp2_with (go_at_fn g;refine K.mono ?_;clear K;rintro e W2 ⟨rfl,hb2⟩;obtain⟨⟨m0,m0'⟩,m1,m2,m3,m4⟩:=hNx W2 hb2;clear hNx)
      exact⟨⟨i+1,j+1,_,by go_num,by go_num,m2,inv.out.keep hlc hx.out hq'.out,m4⟩,by simp[intOf];omega⟩
    ·obtain rfl:j=l.length:=by omega
     have hcl:∀ty,(Builtin.clear_ #[55] ty #[.slice (some ⟨B,i,none⟩) (l.length-i) (c-i)]).run prog wr = .ok (.tuple #[]) (wr.setCells B i (List.replicate (l.length-i) (.int .i64 0))):=
      fun ty=>Lib.run_clear_slice wr _ _ ty _ underlying55 (fun _=>by kernel_rfl) rfl rfl B i _ _ (by omega)
       (fun t ht=>by rw[hC.cell (j:=i+t) (v:=cur[i+t]'(by omega)) (Array.getElem?_eq_getElem (by omega))];rfl) (fun t _=>hC.frozen _)
     have hfin:qak base w l p (.returned (.slice (some ⟨B,0,none⟩) i c)) (wr.setCells B i (List.replicate (l.length-i) (.int .i64 0))):=by
      obtain⟨cs',h1,h2,h3⟩:=hC.setMany (List.replicate (l.length-i) (.int .i64 0)) i wr cur
      have hlen:=inv.out.len
      rw[List.take_length] at hlen
      refine⟨⟨some ⟨B,0,none⟩,i,c⟩,rfl,?_,Jd hbB _ _ _ hB⟩
      rw[hlen]
      refine⟨by simp[hlen],.inr ⟨B,c,cs',rfl,hbB,h1,by omega,hmax,by omega,?_⟩⟩
      apply List.ext_getElem?
      intro t
      rw[Nat.mul_one,List.getElem?_take]
      split
      ·rename_i ht
       have:=inv.out.low t
       rw[List.take_length] at this
       rw[vY]
       obtain⟨y,hy⟩:∃y,(l.filter fun x=>!p x)[t]?=some y:=⟨_,vE (by omega)⟩
       rw[hy]
       have h4:=this y hy
       rw[←h3 t ht] at h4
       simpa using h4
      ·rename_i ht
       rw[List.getElem?_eq_none (by simp;omega)]
     replace hfin:=vH hfin
     have hltz:¬ (l.length:Int)<l.length:=by omega
     have i2:(i:Int)<=l.length:=by omega
     have i3:(i:Int)<=c:=by omega
     clear hC
     go_wp2
     go_ret
     exact hfin.out
theorem qhg(bC bl C:Nat)(c:CV)(ps:List Plc)(x h:Int)(s:SlV)(tl:List Int)(w:World)(hbC:w.cell? ⟨bC,0,none⟩=some (.pointer (some ⟨C,0,none⟩)))(hbl:w.cell? ⟨bl,0,none⟩=some (.slice s.a s.n s.c))(hC:jq w C c)(hP:xg w c ps)
 (hl:qJ w s (h::tl)) (hbig:s.n<4611686018427387904) (hx:Num ps x) (hh:Num ps h) :
 Calls prog 150 #[.int .i64 x,.pointer (some ⟨bC,0,none⟩),.pointer (some ⟨bl,0,none⟩)] w fun e w'=>e = .returned (.bool (decide ((plc ps x).2.2≠(plc ps h).2.2)))/\BX w w':=by
 obtain⟨b,o,ha,_,_,p2⟩:=hP.at_ _ _ hx.get
 obtain⟨b',o',ha',_,_,q2⟩:=hP.at_ _ _ hh.get
 obtain⟨bs,os,has,cs0⟩:=hl.2.2 0 h rfl
 have hlen:=hP.len
 have hsn:0<s.n:=by have:=hl.1;simp at this;omega
 obtain⟨i,rfl⟩:∃i:Nat,x=i:=⟨x.toNat,by have:=hx.1;omega⟩
 obtain⟨j,rfl⟩:∃j:Nat,h=j:=⟨h.toNat,by have:=hh.1;omega⟩
 have i0:(0:Int)<=i:=vN _
 have j0:(0:Int)<=j:=vN _
 have i1:i<c.places.n:=by have:=hx.2;omega
 have j1:j<c.places.n:=by have:=hh.2;omega
 have i2:(i:Int)<c.places.n:=by omega
 have j2:(j:Int)<c.places.n:=by omega
 have s2:(0:Int)<s.n:=by omega
 have c9:=hC.cell (j:=9) (v:=.slice c.places.a c.places.n c.places.c) rfl
 rw[ha] at ha'
 cases ha'
 rw[ha] at c9
 rw[has] at hbl
 simp only[Int.toNat_natCast] at p2 q2
 rw[Nat.add_zero] at cs0
 generalize(plc ps (i:Int)).2.2=u at p2 ⊢
 generalize(plc ps (j:Int)).2.2=v at q2 ⊢
 generalize c.places.n=pn at *
 generalize c.places.c=pc at *
 generalize s.n=sn at *
 generalize s.c=sc at *
 clear ha hP hC hx hh hlen hl has
 go_enter func150,ntmps150
 go_wp2
 go_quiet (fail)
 go_wp2
 go_ret
 exact⟨qq (by rw[Bool.eq_iff_iff];simp),below_drewN (kB _ _) _⟩
theorem ZC(C:Nat)(c:CV)(ps:List Plc)(s:SlV)(l:List Int)(w:World)(hC:jq w C c)(hP:xg w c ps)(hl:qJ w s l)(hbig:s.n<4611686018427387904)(hx:∀x,x∈l->Num ps x) :
 Calls prog 112 #[.pointer (some ⟨C,0,none⟩),.slice s.a s.n s.c] w fun e w'=>e = .returned (.bool (xJ ps l))/\BX w w':=by
 have hB:BX w ((w.alloc (.cells #[.pointer (some ⟨C,0,none⟩)] 146)).alloc (.cells #[.slice s.a s.n s.c] 55)):=qi.alloc (by simp) _
 have h1:=qk (.cells #[.slice s.a s.n s.c] 55) (zr w #[.pointer (some ⟨C,0,none⟩)] 146 (j:=0) rfl)
 have h2:=zr (w.alloc (.cells #[.pointer (some ⟨C,0,none⟩)] 146)) #[.slice s.a s.n s.c] 55 (j:=0) rfl
 rw[vZ] at h2
 have K:=Xa 150 #[.pointer (some ⟨w.heap.size,0,none⟩),.pointer (some ⟨w.heap.size+1,0,none⟩)] (fun x=>decide ((plc ps x).2.2≠(plc ps (l.headD 0)).2.2)) (enters_of func150 (by kernel_rfl) rfl) s l _ (hl.below hB) hbig
  (fun x hm W hb=>by
    cases l with
    | nil=>cases hm
    |cons h tl=>
     exact qhg w.heap.size (w.heap.size+1) C c ps x h s tl W ((hb.cell (p:=⟨w.heap.size,0,none⟩) (by simp;omega)).trans h1) ((hb.cell (p:=⟨w.heap.size+1,0,none⟩) (by simp)).trans h2) ((hC.below hB hC.lt).below hb (by have:=hC.lt;simp;omega)) ((hP.below hB).below hb) ((hl.below hB).below hb) hbig (hx x hm) (hx h (by simp)))
 have hq:(!(l.any fun x=>decide ((plc ps x).2.2≠(plc ps (l.headD 0)).2.2)))=xJ ps l:=rfl
 generalize(l.any fun x=>decide ((plc ps x).2.2≠(plc ps (l.headD 0)).2.2))=q at K hq
 rw[←hq]
 replace hB:=vH hB
 clear h1 h2 hC hP hl hx hq
 go_enter func112,ntmps112
 go_wp2_with (go_at_call 149;refine K.mono ?_;clear K;rintro e W1 ⟨rfl,hb⟩)
 go_ret
 exact⟨rfl,hB.out.trans (hb.mono hB.out.size)⟩
theorem Qs(s:ByteArray)(w:World):Calls prog 113 #[.string s] w fun e w'=>e = .returned (.int .i64 (zk s))/\w=w':=by
 by_cases h2:∃x,x∈jO/\s.toList=x
 ·obtain⟨x,hx,hs⟩:=h2
  have hr:Hid (zk s=2):=vH (by unfold zk;rw[hs,if_pos (by simpa using hx)])
  simp only[jO,List.mem_cons,List.not_mem_nil,or_false] at hx
  rcases hx with rfl|rfl|rfl|rfl|rfl|rfl|rfl|rfl|rfl|rfl|rfl|rfl
  all_goals
   go_enter func113,ntmps113
   go_wp2
   go_ret
   exact⟨qI (by rw[hr.out];rfl),rfl⟩
 ·have hn:∀x,x∈jO->(s.toList==x)=false:=fun x hx=>by
   simp only[beq_eq_false_iff_ne,ne_eq]
   exact fun e=>h2 ⟨x,hx,e⟩
  have g0:=hn [97,100,100] (by decide)
  have g1:=hn [115,117,98] (by decide)
  have g2:=hn [109,117,108] (by decide)
  have g3:=hn [97,110,100] (by decide)
  have g4:=hn [111,114] (by decide)
  have g5:=hn [120,111,114] (by decide)
  have g6:=hn [115,104,108] (by decide)
  have g7:=hn [115,104,114] (by decide)
  have g8:=hn [100,105,118] (by decide)
  have g9:=hn [114,101,109] (by decide)
  have g10:=hn [108,116] (by decide)
  have g11:=hn [101,113] (by decide)
  have hc:jO.contains s.toList=false:=by
   cases h:jO.contains s.toList with
   | false=>rfl
   | true=>exact absurd ⟨s.toList,by simpa using h,rfl⟩ h2
  by_cases h1:(s.toList==[110,111,116])=true
  ·have hr:Hid (zk s=1):=vH (by unfold zk;rw[hc,h1];rfl)
   clear hn h2 hc
   go_enter func113,ntmps113
   go_wp2
   go_ret
   exact⟨qI (by rw[hr.out];rfl),rfl⟩
  ·have h1':(s.toList==[110,111,116])=false:=by simpa using h1
   have hr:Hid (zk s=0):=vH (by unfold zk;rw[hc,h1'];rfl)
   clear hn h2 hc h1
   go_enter func113,ntmps113
   go_wp2
   go_ret
   exact⟨qI (by rw[hr.out];rfl),rfl⟩
theorem qlk(a b c d:ByteArray)(w:World):(binOp .eql 44 (.agg #[.string a,.string b]) (.agg #[.string c,.string d])).run prog w = .ok (.bool (eqB a c&&eqB b d)) w:=by
 have u9:=underlying9
 have a9:=isAgg9
 have z9:=sizeOf9
 have hS:prog.underlying 44=some (.struct (prog.fieldsOf 44)):=by kernel_rfl
 have hp:prog.stoodInHeld 44=false:=by kernel_rfl
 rw[run_eql_struct,show(10000:Nat)=9999+1 from rfl,run_equalIn_agg w 9999 44 _ _ hS hp]
 simp only[Program.fieldsOf,underlying44]
 rw[Qi,Qi]
 go_simp
 cases h1:(a.toList==c.toList) <;> cases h2:(b.toList==d.toList) <;> simp_all
theorem Qj(o:OpD)(u k:SlV)(w:World)(hu:zY w u o.uses)(hbig:u.n<4611686018427387904) :
 Calls prog 153 #[.agg #[.string o.name,.string o.d.cls,.string o.d.fix,.slice u.a u.n u.c,.int .i64 o.tie,.slice k.a k.n k.c]] w fun e w'=>e = .returned (.bool (jd o))/\BX w w':=by
 obtain⟨nm,⟨dc,df⟩,us,tie,cl⟩:=o
 obtain⟨ua,un,uc⟩:=u
 obtain⟨hn,hcap,hu⟩:=hu
 dsimp only at hn hcap hu hbig ⊢
 by_cases t1:tie = -1
 ·subst t1
  clear hu hn
  go_enter func153,ntmps153
  go_wp2
  go_quiet (fail)
  go_wp2
  go_ret
  exact⟨qq (by simp[jd]),below_drewN (qi) _⟩
 ·have t1':(tie == -1)=false:=by simpa using t1
  by_cases t2:0<=tie
  ·by_cases t3:tie<un
   ·obtain⟨j,rfl⟩:∃j:Nat,tie=j:=⟨tie.toNat,by omega⟩
    have hj:j<us.length:=by omega
    obtain⟨b,of,rfl,c0,c1⟩:=hu j us[j] (vE hj)
    have hr:Hid (jd ⟨nm,⟨dc,df⟩,us,j,cl⟩=(eqB dc us[j].cls&&eqB df us[j].fix)):=vH (by
     unfold jd ZA
     simp only[Int.toNat_natCast,vE hj]
     rw[vF t1,vT t2,vT (by omega:(j:Int)<us.length)];simp)
    generalize us[j].cls=xc at c0 hr
    generalize us[j].fix=xf at c1 hr
    have hE:=qlk dc df xc xf
    have j1:j<un:=by omega
    generalize(eqB dc xc&&eqB df xf)=q at hr hE
    have nb:=World.new_ne w _ c0
    clear hu hn
    go_enter func153,ntmps153
    go_wp2
    go_region_held3 (fun w'=>w'.cell? ⟨w.heap.size,0,none⟩=some (.string nm)/\w'.cell? ⟨w.heap.size,1,none⟩=some (.string dc)/\w'.cell? ⟨w.heap.size,2,none⟩=some (.string df)/\w'.cell? ⟨w.heap.size,3,none⟩=some (.slice (some ⟨b,of,none⟩) un uc)/\w'.cell? ⟨w.heap.size,4,none⟩=some (.int .i64 j)/\w'.cell? ⟨w.heap.size,5,none⟩=some (.slice k.a k.n k.c)/\w'.cell? ⟨b,of+j*2,none⟩=some (.string xc)/\w'.cell? ⟨b,of+j*2+1,none⟩=some (.string xf))
     (go_keep)
     (fail)
    go_wp2
    go_ret
    exact⟨qq hr.out.symm,qi.drew⟩
   ·have hr:Hid (jd ⟨nm,⟨dc,df⟩,us,tie,cl⟩=false):=vH (by
     unfold jd
     rw[vF t1,vF (by omega:¬ tie<us.length)];simp)
    have d3:decide (tie<(un:Int))=false:=vF t3
    clear hu hn
    go_enter func153,ntmps153
    go_wp2
    go_quiet (fail)
    go_wp2
    go_ret
    exact⟨qq hr.out.symm,below_drewN (qi) _⟩
  ·have hr:Hid (jd ⟨nm,⟨dc,df⟩,us,tie,cl⟩=false):=vH (by
    unfold jd
    rw[vF t1,vF t2];simp)
   have d2:decide (0<=tie)=false:=vF t2
   clear hu hn
   go_enter func153,ntmps153
   go_wp2
   go_quiet (fail)
   go_wp2
   go_ret
   exact⟨qq hr.out.symm,below_drewN (qi) _⟩
def zW(W:World)(s:SlV)(ls:List (List Int)):Prop:=
 ∃vs:List SlV,vs.length=ls.length/\W.ownsRow 0 55 1 s.v ls.length (vs.map SlV.v)/\∀ (i:Nat) v l,vs[i]?=some v->ls[i]?=some l->qN W v l/\l.length<=1000/\(v.a=none->v.c=0)
theorem zW.below{W W':World}{s:SlV}{ls:List (List Int)}(h:zW W s ls)(hb:BX W W'):zW W' s ls:=by
 obtain⟨vs,h1,h2,h3⟩:=h
 exact⟨vs,h1,qe h2 hb,fun i v l hv hl=>⟨(h3 i v l hv hl).1.below hb,(h3 i v l hv hl).2⟩⟩
theorem zW.nil(W:World):zW W ⟨none,0,0⟩ []:=⟨[],rfl,kO _ _ _ _,fun i v l hv _=>by simp at hv⟩
theorem zW.len{W:World}{s:SlV}{ls:List (List Int)}(h:zW W s ls):s.n=ls.length:=by
 obtain⟨vs,h1,h2,_⟩:=h
 rw[(ju.of_row h2 h1.symm).1,h1]
theorem zW.get{W:World}{s:SlV}{ls:List (List Int)}(h:zW W s ls){i:Nat}{l:List Int}(hl:ls[i]?=some l) :
 ∃ (b o:Nat) (v:SlV),s.a=some ⟨b,o,none⟩/\W.cell? ⟨b,o+i,none⟩=some (.slice v.a v.n v.c)/\qN W v l/\l.length<=1000/\(v.a=none->v.c=0)/\s.n<=s.c:=by
 obtain⟨vs,h1,h2,h3⟩:=h
 have hi:i<ls.length:=(vS.1 hl).1
 have hv:vs[i]?=some vs[i]:=vE (by omega)
 have hH:=ju.of_row h2 h1.symm
 obtain⟨b,o,e1,e2⟩:=hH.2.2 i _ hv
 exact⟨b,o,vs[i],e1,e2,(h3 i _ _ hv hl).1,(h3 i _ _ hv hl).2.1,(h3 i _ _ hv hl).2.2,hH.2.1⟩
def Js(w1 w:World)(l:List Int)(e:Ending)(w':World):Prop:=
 ∃s:SlV,e = .returned (.slice s.a s.n s.c)/\BX w w'/\qN w' s l/\l.length<=1000/\(s.a=none->s.c=0)/\∀b,s.v.ownBlock=some b->b<w1.heap.size∨w.heap.size<=b
theorem qcI{ns:List ByteArray}{cs:List qp}{o:zL}(h:zM (fun x:qp=>eqB x.name o.cls) cs = -1):ql ns cs o = []:=by
 unfold ql zM at *
 cases hf:cs.findIdx? (fun x=>eqB x.name o.cls) with
 | none=>rfl
 | some k=>rw[hf] at h;simp at h
theorem qcJ{ns:List ByteArray}{cs:List qp}{o:zL}{k:Nat}(h:zM (fun x:qp=>eqB x.name o.cls) cs=(k:Int)) :
 k<cs.length/\ql ns cs o=if o.fix.toList==[] then(qr ns cs).getD k [] else if((qr ns cs).getD k []).contains (qv ns o.fix) then [qv ns o.fix] else []:=by
 unfold ql zM at *
 cases hf:cs.findIdx? (fun x=>eqB x.name o.cls) with
 | none=>rw[hf] at h;simp at h
 |some k'=>
  rw[hf] at h
  have:k'=k:=by have:(k':Int)=k:=h;omega
  subst this
  exact⟨(List.findIdx?_eq_some_iff_getElem.1 hf).1,rfl⟩
theorem qhh(W:World)(x:Int):qN (W.alloc (.cells #[.int .i64 x] 3)) ⟨some ⟨W.heap.size,0,none⟩,1,1⟩ [x]:=
 ⟨rfl,.inr ⟨W.heap.size,1,#[.int .i64 x],rfl,vO _,World.alloc_heap_new W _,vL _,by unfold maxLen;omega,rfl,rfl⟩⟩
theorem qaz(C:Nat)(c:CV)(ns:List ByteArray)(cs:List qp)(o:zL)(w1 w:World)(hC:jq w C c)(hN:ZB w c ns)(hK:qS w c.m.classes cs)(hkb:c.m.classes.n<=64)(hL:zW w1 c.classes (qr ns cs))(hw1:BX w1 w) :
 Calls prog 154 #[.pointer (some ⟨C,0,none⟩),.agg #[.string o.cls,.string o.fix]] w (Js w1 w (ql ns cs o)):=by
 obtain⟨oc,fx⟩:=o
 have hb0:BX w (w.alloc (.cells #[.string oc,.string fx] 44)):=qi
 have K1:∀W,BX w W->Calls prog 107 #[.slice c.m.classes.a c.m.classes.n c.m.classes.c,.string oc,.func (.func 108) #[] #[]] W fun e w'=>
  e = .returned (.int .i64 (zM (fun x:qp=>eqB x.name oc) cs))/\BX W w':=fun W hb=>YN c.m.classes cs oc W (hK.below hb) (by omega)
 have c2:=hC.cell (j:=2) (v:=.slice c.m.classes.a c.m.classes.n c.m.classes.c) rfl
 have hlt:=hC.lt
 have nC:=World.new_ne w _ c2
 have hC2:=vH hC
 have hN2:=vH hN
 rcases xh (fun x:qp=>eqB x.name oc) cs with⟨h,_⟩|⟨k,hk,h,_⟩
 ·have hr:=vH (qcI (ns:=ns) (o:=⟨oc,fx⟩) h)
  rw[h] at K1
  clear hC hN hK hL h
  go_enter func154,ntmps154
  go_wp2
  go_region_held3 (fun w'=>w'.cell? ⟨C,2,none⟩=some (.slice c.m.classes.a c.m.classes.n c.m.classes.c)/\w'.cell? ⟨w.heap.size,0,none⟩=some (.string oc)/\w'.cell? ⟨w.heap.size,1,none⟩=some (.string fx))
   (go_keep)
   ((go_at_call 107;refine(K1 _ hb0.drew).mono ?_;clear K1;rintro e W1 ⟨rfl,hb⟩;have k0:W1.cell? ⟨C,2,none⟩=some (.slice c.m.classes.a c.m.classes.n c.m.classes.c):=qs hb;have k1:W1.cell? ⟨w.heap.size,0,none⟩=some (.string oc):=qs hb;have k2:W1.cell? ⟨w.heap.size,1,none⟩=some (.string fx):=qs hb))
  go_wp2
  go_ret
  exact⟨⟨none,0,0⟩,rfl,hb0.drew.trans (hb.mono (by simp)),by rw[hr.out];exact qN.nil _,by rw[hr.out];simp,fun _=>rfl,fun b h=>by cases h⟩
 ·obtain⟨hkl,hr⟩:=qcJ (ns:=ns) (o:=⟨oc,fx⟩) h
  have hget:(qr ns cs)[k]?=some (qh ns cs[k].regs):=by
   unfold qr
   rw[vY,vE hk];rfl
  have hgd:(qr ns cs).getD k []=qh ns cs[k].regs:=by rw[vG,hget];rfl
  rw[hgd] at hr
  obtain⟨b,of,v,ha,hv,hI,hI2,hI3,hcap⟩:=hL.get hget
  have hvb:∀b,v.v.ownBlock=some b->b<w1.heap.size:=fun b hb=>by
   obtain⟨_,cur,hc⟩:=qf hI hb
   exact hc.lt
  replace hv:=qb hw1 hv
  replace hI:=hI.below hw1
  generalize qh ns cs[k].regs=kl at hr hI hI2
  have hlen:=hL.len
  have hkn:k<c.classes.n:=by rw[hlen];unfold qr;rw[vP];exact hk
  have k0:(0:Int)<=k:=vN _
  have k1:(k:Int)<c.classes.n:=by omega
  have c10:=hC.cell (j:=10) (v:=.slice c.classes.a c.classes.n c.classes.c) rfl
  rw[ha] at c10
  rw[h] at K1
  have hlv:=kW _ _ hv
  have nb:=World.new_ne w _ hv
  dsimp only at hlv
  have hI':=vH hI
  clear hC hN hK hL h hgd hget hlen ha hI hkn
  by_cases hf:fx.toList = []
  ·have hr2:Hid (ql ns cs ⟨oc,fx⟩=kl):=vH (by rw[hr];simp[hf])
   clear hr
   go_enter func154,ntmps154
   go_wp2
   go_region_held3 (fun w'=>w'.cell? ⟨C,2,none⟩=some (.slice c.m.classes.a c.m.classes.n c.m.classes.c)/\w'.cell? ⟨w.heap.size,0,none⟩=some (.string oc)/\w'.cell? ⟨w.heap.size,1,none⟩=some (.string fx))
    (go_keep)
    ((go_at_call 107;refine(K1 _ hb0.drew).mono ?_;clear K1;rintro e W1 ⟨rfl,hb⟩;have k0:W1.cell? ⟨C,2,none⟩=some (.slice c.m.classes.a c.m.classes.n c.m.classes.c):=qs hb;have k1:W1.cell? ⟨w.heap.size,0,none⟩=some (.string oc):=qs hb;have k2:W1.cell? ⟨w.heap.size,1,none⟩=some (.string fx):=qs hb))
   have hB1:=hb0.drew.trans (hb.mono (by simp))
   have c10':=qb hB1 c10
   have hv':=qb hB1 hv
   go_wp2
   go_ret
   exact⟨v,rfl,hB1,by rw[hr2.out];exact hI'.out.below hB1,by rw[hr2.out];exact hI2,hI3,fun b h=>.inl (hvb b h)⟩
  ·have hf2:(!fx.toList.isEmpty)=true:=by cases hz:fx.toList with
    | nil=>exact absurd hz hf
    | cons a b=>rfl
   have hf3:fx.toList.isEmpty=false:=by simpa using hf2
   have K3:∀W,BX w W->Calls prog 109 #[.pointer (some ⟨C,0,none⟩),.string fx] W fun e w'=>e = .returned (.int .i64 (qv ns fx))/\BX W w':=fun W hb=>qac C c ns fx W (hC2.out.below hb hlt) (hN2.out.below hb)
   have K4:∀W,BX w W->Calls prog 120 #[.slice v.a v.n v.c,.int .i64 (qv ns fx)] W fun e w'=>e = .returned (.bool (kl.contains (qv ns fx)))/\W=w':=fun W hb=>QO v kl _ W (hI'.out.below hb).at_ (by have:=hI'.out.len;omega)
   have hr2:Hid (ql ns cs ⟨oc,fx⟩=if kl.contains (qv ns fx) then [qv ns fx] else []):=vH (by rw[hr];simp[hf])
   clear hr
   by_cases hcn:kl.contains (qv ns fx)=true
   ·have hr3:Hid (ql ns cs ⟨oc,fx⟩ = [qv ns fx]):=vH (by rw[hr2.out,hcn];rfl)
    rw[hcn] at K4
    clear hcn hr2
    go_enter func154,ntmps154
    go_wp2
    go_region_held3 (fun w'=>w'.cell? ⟨C,2,none⟩=some (.slice c.m.classes.a c.m.classes.n c.m.classes.c)/\w'.cell? ⟨w.heap.size,0,none⟩=some (.string oc)/\w'.cell? ⟨w.heap.size,1,none⟩=some (.string fx))
     (go_keep)
     ((go_at_call 107;refine(K1 _ hb0.drew).mono ?_;clear K1;rintro e W1 ⟨rfl,hb⟩;have k0:W1.cell? ⟨C,2,none⟩=some (.slice c.m.classes.a c.m.classes.n c.m.classes.c):=qs hb;have k1:W1.cell? ⟨w.heap.size,0,none⟩=some (.string oc):=qs hb;have k2:W1.cell? ⟨w.heap.size,1,none⟩=some (.string fx):=qs hb))
    have hB1:=hb0.drew.trans (hb.mono (by simp))
    go_wp2_with (first
     |(go_at_call 109;refine(K3 _ hB1).mono ?_;clear K3;rintro e W2 ⟨rfl,hb2⟩;have hB2:=hB1.trans (hb2.mono hB1.size);have c10':=qb hB2 c10;have hv':=qb hB2 hv)
     |(go_at_call 120;refine(K4 _ hB2).mono ?_;clear K4;rintro e W3 ⟨rfl,rfl⟩))
    go_ret
    exact⟨⟨some ⟨W2.heap.size,0,none⟩,1,1⟩,rfl,hB2.alloc hB2.size _,by rw[hr3.out];exact qhh _ _,by rw[hr3.out];simp,(fun h=>by cases h),fun b h=>.inr (by cases h;exact hB2.size)⟩
   ·have hcn':kl.contains (qv ns fx)=false:=by simpa using hcn
    have hr3:Hid (ql ns cs ⟨oc,fx⟩ = []):=vH (by rw[hr2.out,hcn'];rfl)
    rw[hcn'] at K4
    clear hcn hcn' hr2
    go_enter func154,ntmps154
    go_wp2
    go_region_held3 (fun w'=>w'.cell? ⟨C,2,none⟩=some (.slice c.m.classes.a c.m.classes.n c.m.classes.c)/\w'.cell? ⟨w.heap.size,0,none⟩=some (.string oc)/\w'.cell? ⟨w.heap.size,1,none⟩=some (.string fx))
     (go_keep)
     ((go_at_call 107;refine(K1 _ hb0.drew).mono ?_;clear K1;rintro e W1 ⟨rfl,hb⟩;have k0:W1.cell? ⟨C,2,none⟩=some (.slice c.m.classes.a c.m.classes.n c.m.classes.c):=qs hb;have k1:W1.cell? ⟨w.heap.size,0,none⟩=some (.string oc):=qs hb;have k2:W1.cell? ⟨w.heap.size,1,none⟩=some (.string fx):=qs hb))
    have hB1:=hb0.drew.trans (hb.mono (by simp))
    go_wp2_with (first
     |(go_at_call 109;refine(K3 _ hB1).mono ?_;clear K3;rintro e W2 ⟨rfl,hb2⟩;have hB2:=hB1.trans (hb2.mono hB1.size);have c10':=qb hB2 c10;have hv':=qb hB2 hv)
     |(go_at_call 120;refine(K4 _ hB2).mono ?_;clear K4;rintro e W3 ⟨rfl,rfl⟩))
    go_ret
    exact⟨⟨none,0,0⟩,rfl,hB2,by rw[hr3.out];exact qN.nil _,by rw[hr3.out];simp,fun _=>rfl,fun b h=>by cases h⟩
end Go.Proofs.YtomlgdnafeeeiaaGreatDoor
