/-
  What the checks of mdcheck answer, as plain functions of lists: registers' numbers, classes, operations, the convention, room. And what follows: see the heads within.
-/
import Derived.Test.YtkoloennfejaaaaGreatDoorGeoOne
import Derived.Test.YtkoloennfejaaaaGreatDoorGeoTwo
import Derived.LoopTactic
import Derived.IntWalk
import Derived.OwnWalk
import Derived.Deep.RegionLaw
import Derived.Deep.OwnRows
import Derived.Deep.LoopGhost
import Derived.Shelf.GgClosure.Gives
import Derived.Lib.SliceRun
import Derived.Maps.AppendAt
import Derived.Deep.AppendLies
import Derived.Laws.StructEq
set_option maxHeartbeats 3200000
set_option maxRecDepth 100000
namespace Go.Proofs.YtkoloennfejaaaaGreatDoor
open Go.RowKit
def idxP{α:Type}(p:α->Bool)(l:List α):Int:=
 match l.findIdx? p with
 | some k=>(k:Int)
 | none=>-1
theorem XI{α:Type}{p:α->Bool}{l:List α}{k:Nat}{a:α}(h:∀j,j<k->∀b,l[j]?=some b->p b=false)(hk:l[k]?=some a)(hp:p a=true):idxP p l=(k:Int):=by
 have hlt:k<l.length:=(List.getElem?_eq_some_iff.1 hk).1
 have:l.findIdx? p=some k:=by
  rw[List.findIdx?_eq_some_iff_getElem]
  refine⟨hlt,?_,fun j hj=>?_⟩
  ·rw[←hp,←(List.getElem?_eq_some_iff.1 hk).2]
  ·rw[h j hj l[j] (List.getElem?_eq_getElem (by omega))];simp
 unfold idxP;rw[this]
theorem ZC{α:Type}{p:α->Bool}{l:List α}(h:∀ (j:Nat) b,l[j]?=some b->p b=false):idxP p l = -1:=by
 have:l.findIdx? p=none:=by
  rw[List.findIdx?_eq_none_iff]
  intro x hx
  obtain⟨j,hj⟩:=List.getElem?_of_mem hx
  rw[h j x hj]
 unfold idxP;rw[this]
theorem idxP_cases{α:Type}(p:α->Bool)(l:List α):(idxP p l = -1/\∀x,x∈l->p x=false)∨∃ (k:Nat) (hk:k<l.length),idxP p l=(k:Int)/\p l[k]=true:=by
 unfold idxP
 cases h:l.findIdx? p with
 | none=>exact .inl ⟨rfl,fun x hx=>by simpa using(List.findIdx?_eq_none_iff.1 h) x hx⟩
 |some k=>
  obtain⟨hk,hp,_⟩:=List.findIdx?_eq_some_iff_getElem.1 h
  exact .inr ⟨k,hk,rfl,hp⟩
theorem idxP_ge{α:Type}(p:α->Bool)(l:List α) : -1<=idxP p l/\idxP p l<(l.length:Int)+0∨(idxP p l = -1):=by
 rcases idxP_cases p l with⟨h,_⟩|⟨k,hk,h,_⟩
 ·exact .inr h
 ·exact .inl (by omega)
structure OperD where
 cls:ByteArray
 fix:ByteArray
structure OpD where
 name:ByteArray
 d:OperD
 uses:List OperD
 tie:Int
 clob:List ByteArray
structure ClassD where
 name:ByteArray
 regs:List ByteArray
abbrev Plc:=Int×Int×Int
structure OpR where
 d:List Int
 uses:List (List Int)
 tie:Int
 clob:List Int
def eqB(s t:ByteArray):Bool:=decide (s=t)
def regN(ns:List ByteArray)(s:ByteArray):Int:=idxP (fun x=>eqB x s) ns
theorem qA(ns:List ByteArray)(s:ByteArray) : -1<=regN ns s/\regN ns s<ns.length:=by
 unfold regN
 rcases idxP_cases (fun x=>eqB x s) ns with⟨h,_⟩|⟨k,hk,h,_⟩ <;> omega
def qv(pre:List Int):List Int->Bool
 | []=>false
 | x::r=>pre.contains x||qv (pre++[x]) r
def lapP(a b:Plc):Bool:=decide (a.1=b.1)&&lapB a.2.1 a.2.2 b.2.1 b.2.2
def plc(ps:List Plc)(r:Int):Plc:=ps.getD r.toNat (0,0,0)
def lapsOneB(ps:List Plc)(r:Int)(l:List Int):Bool:=l.any fun s=>lapP (plc ps r) (plc ps s)
def qV(ps:List Plc)(pre:List Int):List Int->Bool
 | []=>true
 | r::l=>!lapsOneB ps r pre&&qV ps (pre++[r]) l
def apartB(ps:List Plc)(l:List Int):Bool:=qV ps [] l
def oneWidthB(ps:List Plc)(l:List Int):Bool:=!(l.any fun r=>decide ((plc ps r).2.2≠(plc ps (l.headD 0)).2.2))
def regsL(ns l:List ByteArray):List Int:=l.map (regN ns)
def regsOk(ns l:List ByteArray)(most:Nat):Bool:=decide (l.length<=most) && !(regsL ns l).contains (-1)
def classFine(ns:List ByteArray)(ps:List Plc)(k:ClassD):Bool:=
 regsOk ns k.regs 64 && !decide (k.regs = []) && !qv [] (regsL ns k.regs)&&oneWidthB ps (regsL ns k.regs)
def classErr(nm:ByteArray->Bool)(ns:List ByteArray)(ps:List Plc)(pre:List ClassD)(k:ClassD):Int:=
 if(!nm k.name||decide (0<=idxP (fun x:ClassD=>eqB x.name k.name) pre)||decide (0<=regN ns k.name))=true then 5
 else if classFine ns ps k=true then 0 else 8
def qH(nm:ByteArray->Bool)(ns:List ByteArray)(ps:List Plc)(pre:List ClassD):List ClassD->Int
 | []=>0
 | k::rest=>if classErr nm ns ps pre k=0 then qH nm ns ps (pre++[k]) rest else classErr nm ns ps pre k
def classesS(nm:ByteArray->Bool)(ns:List ByteArray)(ps:List Plc)(l:List ClassD):Int:=if 64<l.length then 2 else qH nm ns ps [] l
def clsOf(ns:List ByteArray)(l:List ClassD):List (List Int):=l.map fun k=>regsL ns k.regs
def opNames2:List (List UInt8):=[[97,100,100],[115,117,98],[109,117,108],[97,110,100],[111,114],[120,111,114],[115,104,108],[115,104,114],[100,105,118],[114,101,109],[108,116],[101,113]]
def arityN(s:ByteArray):Nat:=if opNames2.contains s.toList then 2 else if s.toList==[110,111,116] then 1 else 0
def choiceS(ns:List ByteArray)(cs:List ClassD)(o:OperD):List Int:=
 match cs.findIdx? (fun x=>eqB x.name o.cls) with
 | none=>[]
 |some k=>
  if o.fix.toList==[] then(clsOf ns cs).getD k []
  else if((clsOf ns cs).getD k []).contains (regN ns o.fix) then [regN ns o.fix] else []
def ye(a b:OperD):Bool:=eqB a.cls b.cls&&eqB a.fix b.fix
def zp(o:OpD):Bool:=decide (o.tie = -1)||(decide (0<=o.tie)&&decide (o.tie<o.uses.length)&&(match o.uses[o.tie.toNat]? with|some u=>ye o.d u|none=>false))
def opR(ns:List ByteArray)(cs:List ClassD)(o:OpD):OpR:=⟨choiceS ns cs o.d,o.uses.map (choiceS ns cs),o.tie,regsL ns o.clob⟩
def opFine(ns:List ByteArray)(ps:List Plc)(cs:List ClassD)(o:OpD):Bool:=
 decide (o.uses.length=arityN o.name)&&zp o&&regsOk ns o.clob 64 && !qv [] (regsL ns o.clob) &&
  (o.uses.all fun u=>!decide (choiceS ns cs u = [])) && !decide (choiceS ns cs o.d = [])&&oneWidthB ps (choiceS ns cs o.d++(o.uses.map (choiceS ns cs)).flatten)
def zH(ns:List ByteArray)(ps:List Plc)(cs:List ClassD)(pre:List OpD)(o:OpD):Int:=
 if(decide (arityN o.name=0)||decide (0<=idxP (fun x:OpD=>eqB x.name o.name) pre))=true then 5
 else if opFine ns ps cs o=true then 0 else 9
def zu(ns:List ByteArray)(ps:List Plc)(cs:List ClassD)(pre:List OpD):List OpD->Int
 | []=>0
 | o::rest=>if zH ns ps cs pre o=0 then zu ns ps cs (pre++[o]) rest else zH ns ps cs pre o
def opsS(ns:List ByteArray)(ps:List Plc)(cs:List ClassD)(l:List OpD):Int:=if 64<l.length then 2 else zu ns ps cs [] l
def qs(ns:List ByteArray)(ps:List Plc)(args:List ByteArray)(result:ByteArray)(saved:List ByteArray)(slots:Int):Bool:=
 (regsOk ns args 16&&regsOk ns saved 64&&decide (0<=regN ns result)&&decide (0<=slots)&&decide (slots<=1000))&&(apartB ps (regsL ns args)&&apartB ps (regsL ns saved++[regN ns result]))
def qw(cls:List (List Int))(l:List Int):Bool:=l.all fun r=>cls.any fun k=>k.contains r
def choicesS:List (List Int)->List (List Int)
 | []=>[[]]
 | l::rest=>l.flatMap fun r=>(choicesS rest).map fun t=>r::t
def qt(ps:List Plc)(ls:List (List Int)):Bool:=(choicesS ls).any (apartB ps)
def defLeft(ps:List Plc)(o:OpR):List Int:=o.d.filter fun r=>!lapsOneB ps r o.clob
def usesLeft(ps:List Plc)(o:OpR):List (List Int):=if 0<=o.tie then o.uses.set o.tie.toNat (defLeft ps o) else o.uses
def zR(ps:List Plc)(o:OpR):Bool:=!decide (defLeft ps o = [])&&qt ps (usesLeft ps o)
def zm(ps:List Plc):List (List Int)->Bool
 | []=>true
 | a::rest=>((a::rest).all fun b=>qt ps [a,b])&&zm ps rest
def qM(ps:List Plc)(cls:List (List Int))(ops:List OpR):Bool:=ops.all (zR ps)&&zm ps cls
structure MachD where
 name:ByteArray
 classes:List ClassD
 ops:List OpD
 args:List ByteArray
 result:ByteArray
 saved:List ByteArray
 slots:Int
def qL(nm:ByteArray->Bool)(m:MachD)(e:Int)(ns:List ByteArray)(ps:List Plc):Int:=
 if nm m.name=false then 5
 else if e≠0 then e
 else if ns = [] then 1
 else if classesS nm ns ps m.classes≠0 then classesS nm ns ps m.classes
 else if opsS ns ps m.classes m.ops≠0 then opsS ns ps m.classes m.ops
 else if qs ns ps m.args m.result m.saved m.slots=false then 10
 else if qw (clsOf ns m.classes) (regsL ns m.args++[regN ns m.result])=false then 10
 else if qM ps (clsOf ns m.classes) (m.ops.map (opR ns m.classes))=false then 11
 else 0
structure SlV where
 a:Option Addr
 n:Nat
 c:Nat
structure MV where
 name:ByteArray
 regs:SlV
 classes:SlV
 ops:SlV
 args:SlV
 result:ByteArray
 saved:SlV
 slots:Int
structure CV where
 m:MV
 names:SlV
 places:SlV
 classes:SlV
 ops:SlV
 args:SlV
 result:Int
def SlV.v(s:SlV):Value:=.slice s.a s.n s.c
def MV.val(m:MV):Value:=.agg #[.string m.name,.slice m.regs.a m.regs.n m.regs.c,.slice m.classes.a m.classes.n m.classes.c,.slice m.ops.a m.ops.n m.ops.c,.slice m.args.a m.args.n m.args.c,.string m.result,.slice m.saved.a m.saved.n m.saved.c,.int .i64 m.slots]
def CV.cells(c:CV):Array Value:=#[.string c.m.name,.slice c.m.regs.a c.m.regs.n c.m.regs.c,.slice c.m.classes.a c.m.classes.n c.m.classes.c,.slice c.m.ops.a c.m.ops.n c.m.ops.c,.slice c.m.args.a c.m.args.n c.m.args.c,.string c.m.result,.slice c.m.saved.a c.m.saved.n c.m.saved.c,.int .i64 c.m.slots,
 .slice c.names.a c.names.n c.names.c,.slice c.places.a c.places.n c.places.c,.slice c.classes.a c.classes.n c.classes.c,.slice c.ops.a c.ops.n c.ops.c,.slice c.args.a c.args.n c.args.c,.int .i64 c.result]
def ChkAt(W:World)(C:Nat)(c:CV):Prop:=Cells W C 132 c.cells
def StrsAt(W:World)(s:SlV)(l:List ByteArray):Prop:=
 s.n=l.length/\s.n<=s.c/\∀j x,l[j]?=some x->∃b o,s.a=some ⟨b,o,none⟩/\W.cell? ⟨b,o+j,none⟩=some (.string x)
theorem StrsAt.below{W W':World}{s:SlV}{l:List ByteArray}(h:StrsAt W s l)(hb:Below W.heap.size W W'):StrsAt W' s l:=
 ⟨h.1,h.2.1,fun j x hj=>by obtain⟨b,o,h1,h2⟩:=h.2.2 j x hj;exact⟨b,o,h1,cell_below hb h2⟩⟩
def IntsAt(W:World)(s:SlV)(l:List Int):Prop:=
 s.n=l.length/\s.n<=s.c/\∀j x,l[j]?=some x->∃b o,s.a=some ⟨b,o,none⟩/\W.cell? ⟨b,o+j,none⟩=some (.int .i64 x)
theorem IntsAt.below{W W':World}{s:SlV}{l:List Int}(h:IntsAt W s l)(hb:Below W.heap.size W W'):IntsAt W' s l:=
 ⟨h.1,h.2.1,fun j x hj=>by obtain⟨b,o,h1,h2⟩:=h.2.2 j x hj;exact⟨b,o,h1,cell_below hb h2⟩⟩
theorem StrsAt.of_row{W:World}{base n:Nat}{e:TypeId}{s:SlV}{l:List ByteArray}(h:W.ownsRow base e 1 s.v n (l.map Value.string))(hn:n=l.length):StrsAt W s l:=by
 rcases h.2 with⟨h1,h2⟩|⟨g,cap,cur,h1,h2,h3,h4,_⟩
 ·unfold SlV.v at h1
  injection h1 with e1 e2 e3
  have hl:l = []:=List.length_eq_zero_iff.1 (by omega)
  subst hl
  exact⟨by simp;omega,by omega,fun j x hj=>by simp at hj⟩
 ·unfold SlV.v at h1
  injection h1 with e1 e2 e3
  refine⟨by omega,by omega,fun j x hj=>⟨g,0,e1,?_⟩⟩
  rw[Nat.zero_add]
  have hv:s.v = .slice (some ⟨g,0,none⟩) s.n s.c:=by unfold SlV.v;rw[e1]
  rw[hv] at h
  exact qi h (by rw[List.getElem?_map,hj];rfl)
theorem IntsAt.of_row{W:World}{base n:Nat}{e:TypeId}{s:SlV}{l:List Int}(h:W.ownsRow base e 1 s.v n (l.map (Value.int .i64)))(hn:n=l.length):IntsAt W s l:=by
 rcases h.2 with⟨h1,h2⟩|⟨g,cap,cur,h1,h2,h3,h4,_⟩
 ·unfold SlV.v at h1
  injection h1 with e1 e2 e3
  have hl:l = []:=List.length_eq_zero_iff.1 (by omega)
  subst hl
  exact⟨by simp;omega,by omega,fun j x hj=>by simp at hj⟩
 ·unfold SlV.v at h1
  injection h1 with e1 e2 e3
  refine⟨by omega,by omega,fun j x hj=>⟨g,0,e1,?_⟩⟩
  rw[Nat.zero_add]
  have hv:s.v = .slice (some ⟨g,0,none⟩) s.n s.c:=by unfold SlV.v;rw[e1]
  rw[hv] at h
  exact qi h (by rw[List.getElem?_map,hj];rfl)
theorem qhI(s:ByteArray)(w:World):Calls Tryz.prog 167 #[.string s] w fun e w'=>e = .returned (.string s)/\w=w':=by
 go_enter Tryz.func167,Tryz.ntmps167
 go_wp2
 go_ret
 exact⟨rfl,rfl⟩
theorem yf(s t:ByteArray):eqB s t=(s.toList==t.toList):=by
 unfold eqB
 rw[Bool.eq_iff_iff,decide_eq_true_iff]
 exact(Lib.bytes_beq_iff s t).symm
theorem qgg(bn bf:Nat)(s nm:ByteArray)(w:World)(hf:w.cell? ⟨bf,0,none⟩=some (.func (.func 167) #[] #[]))(hn:w.cell? ⟨bn,0,none⟩=some (.string nm)) :
 Calls Tryz.prog 204 #[.string s,.pointer (some ⟨bf,0,none⟩),.pointer (some ⟨bn,0,none⟩)] w fun e w'=>e = .returned (.bool (eqB s nm))/\Below w.heap.size w w':=by
 go_enter Tryz.func204,Tryz.ntmps204
 go_wp2
 go_region_held3 (fun w'=>w'.cell? ⟨bf,0,none⟩=some (.func (.func 167) #[] #[])/\w'.cell? ⟨bn,0,none⟩=some (.string nm))
  (go_keep)
  ((go_at_call 167;refine(qhI _ _).mono ?_;rintro e w' ⟨rfl,rfl⟩))
 go_wp2
 go_ret
 exact⟨qg (yf s nm).symm,(Below.refl _ _).drew⟩
def zC(A B:World):Prop:=A.heap.size<=B.heap.size/\∀ (b:Nat) (o:Obj),A.heap[b]?=some o->o.isCells=true->B.heap[b]?=some o
theorem zC.refl(A:World):zC A A:=⟨Nat.le_refl _,fun _ _ h _=>h⟩
theorem zC.trans{A B C:World}(h:zC A B)(k:zC B C):zC A C:=⟨Nat.le_trans h.1 k.1,fun b o hb hc=>k.2 b o (h.2 b o hb hc) hc⟩
theorem zC.of_below{A B:World}(h:Below A.heap.size A B):zC A B:=⟨h.size,fun b _ hb _=>(h.block b (qm hb)).trans hb⟩
theorem zC.put{A:World}{l:Nat}{o o':Obj}(h:A.heap[l]?=some o)(hc:o.isCells=false):zC A (A.putObj l o'):=by
 refine⟨by simp,fun b p hp hpc=>?_⟩
 have:b≠l:=fun e=>by subst e;rw[hp] at h;cases h;rw[hc] at hpc;cases hpc
 exact(World.putObj_heap_other this).trans hp
theorem zC.cell{A B:World}(h:zC A B){p:Addr}{v:Value}(hc:A.cell? p=some v):B.cell? p=some v:=by
 have hex:∃o,A.heap[p.block]?=some o/\o.isCells=true:=by
  cases hh:A.heap[p.block]? with
  | none=>simp[World.cell?,hh] at hc
  | some o=>cases o <;> simp[World.cell?,hh,Obj.isCells] at hc ⊢
 obtain⟨o,ho1,ho2⟩:=hex
 rw[World.cell?_of_block (w:=A) ((h.2 _ o ho1 ho2).trans ho1.symm)];exact hc
theorem zC.ints{A B:World}(h:zC A B){s:SlV}{l:List Int}(hi:IntsAt A s l):IntsAt B s l:=
 ⟨hi.1,hi.2.1,fun j x hj=>by obtain⟨b,o,h1,h2⟩:=hi.2.2 j x hj;exact⟨b,o,h1,h.cell h2⟩⟩
def qez(n:Nat)(P:Program)(gf:Nat)(lb:Array Value)(E:List (List Int))(w0:World):Prop:=
 ∀ (l:Nat) (J:List (List Int)->World->Prop) (Jx:World->Prop) (W:World),Below w0.heap.size w0 W->(∀pre A B,J pre A->Below W.heap.size A B->J pre B) ->
  (∀pre x A (v:SlV),J pre A->pre++[x] <+: E->IntsAt A v x->YieldAt Fence.wide (n-1) P l #[.slice v.a v.n v.c] A fun e B=>(e = .returned (.bool true)/\J (pre++[x]) B/\zC A B)∨(e = .returned (.bool false)/\Jx B)) ->
  J [] W->CallsIn Fence.wide n P gf (#[.func (.yield l) #[] #[]]++lb) W fun e B=>(∃v,e = .returned v)/\(J E B∨Jx B)
def qbF(w:World)(p:List Int->Bool)(Ix:World->Prop)(x:List Int)(W:World):Exit->Act->World->Prop
 | .normal,_,W'=>p x=false/\zC W W'/\KeepsOthers W W'/\Below w.heap.size w W'
 | .ret,_,W'=>p x=true/\KeepsOthers W W'/\Ix W'
 | _,_,_=>False
theorem ja{B0:Nat}{w W:World}{l:Nat}(o':Obj)(h:Below B0 w W)(hl:B0<=l):Below B0 w (W.putObj l o'):=
 h.trans ⟨rfl,rfl,rfl,by simp,fun k hk=>World.putObj_heap_other (by omega)⟩
theorem qbG{n:Nat}{P:Program}{g:Operand}{ps:Array Tmp}{assign body:Code}{Q:Exit->Act->World->Prop}{a:Act}{w:World}{gf:Nat}{lb:Array Value}{p:List Int->Bool}
 (h1:1<=n) (hg:a.eval g = .func (.func gf) #[] lb) (eg:∀args w,(callFunc gf args).run P w = .ok (.enter gf args) w)
 {E:List (List Int)} (hit:qez (n-1) P gf lb E w) (hps:ps.size=1)
 (Ix:World->Prop) (hX2:∀A l o o',w.heap.size<=l->A.heap[l]?=some o->o.isCells=false->Ix A->Ix (A.putObj l o'))
 (Ax:SlV->Act->World->Prop) (hAx:∀v a' A l o o',w.heap.size<=l->A.heap[l]?=some o->o.isCells=false->Ax v a' A->Ax v a' (A.putObj l o'))
 (hassign:∀ (l:Nat) (v:SlV) (W:World) (K:Act->World->Prop),Below w.heap.size w W->(∀a' W',Below W.heap.size W W'->Ax v a' W'->K a' W') ->
   assign.wpIn (Fence.wide.inRound l) (n-1-1) P (Exit.then K (fun _ _ _=>False)) { tmps:=(ps.zip #[.slice v.a v.n v.c]).foldl (fun t (p,v)=>t.setIfInBounds p v) a.tmps,defers:=[] } W)
 (hbody:∀ (l:Nat) (x:List Int) (v:SlV) (a':Act) (W:World),x∈E->Below w.heap.size w W->Ax v a' W->IntsAt W v x->body.wpIn (Fence.wide.inRound l) (n-1-1) P (qbF w p Ix x W) a' W)
 (hdone:∀ (D:Nat) (W:World),w.heap.size<=D->Below w.heap.size w W->(∀x,x∈E->p x=false)->W.heap[D]?=some (.deferred (some []))->Q .normal { a with defers:={ target:=.collected D,args:=#[] } :: a.defers } W)
 (hstop:∀ (D:Nat) (W:World),w.heap.size<=D->Ix W->(∃x,x∈E/\p x=true)->W.heap[D]?=some (.deferred (some []))->Code.ret.wpIn Fence.wide n P Q { a with defers:={ target:=.collected D,args:=#[] } :: a.defers } W) :
 (Code.rangeFunc g ps assign body).wpIn Fence.wide n P Q a w:=by
 refine wpIn_rangeFunc ?_
 intro fn hfn
 obtain⟨rc,hrc⟩:∃rc:LoopState->Option Code->Loop,rc=fun st pe=>{ state:=st,pending:=pe,fn,tmps:=a.tmps,params:=ps,assign,body,defers:=w.heap.size }:=⟨_,rfl⟩
 obtain⟨S,hS⟩:∃S,S=(w.alloc (.deferred (some []))).alloc (.loop (rc .ready none)):=⟨_,rfl⟩
 have hSz:S.heap.size=w.heap.size+2:=by rw[hS];simp
 have hSb:Below w.heap.size w S:=by rw[hS];exact((Below.refl _ w).alloc (Nat.le_refl _) _).alloc (by simp) _
 have hSl:S.heap[w.heap.size+1]?=some (.loop (rc .ready none)):=by
  have:=World.alloc_heap_new (w.alloc (.deferred (some []))) (.loop (rc .ready none))
  rw[World.size_alloc] at this;rw[hS];exact this
 have hSd:S.heap[w.heap.size]?=some (.deferred (some [])):=by
  rw[hS];exact(Below.heap_alloc _ _ _ (by simp)).trans (World.alloc_heap_new w _)
 refine⟨w.heap.size+1,[{ target:=.collected w.heap.size,args:=#[] }],S,{ target:=.fn (.func gf) lb,args:=#[.func (.yield (w.heap.size+1)) #[] #[]] },S,gf,#[.func (.yield (w.heap.size+1)) #[] #[]]++lb,S,?_,?_,fun _ _=>trivial,?_,fun _=>h1,?_⟩
 ·rw[hS,hrc];exact run_enterLoop_outer _ _ _ _ _
 ·simp only[resolve,hg];simp[go_sem]
 ·simp[invoke,go_sem,eg]
 refine(hit (w.heap.size+1) (fun pre W=>Below w.heap.size w W/\(pre <+: E/\∀x,x∈pre->p x=false)/\W.heap[w.heap.size+1]?=some (.loop (rc .ready none))/\W.heap[w.heap.size]?=some (.deferred (some [])))
  (fun W=>Ix W/\(∃x,x∈E/\p x=true)/\W.heap[w.heap.size+1]?=some (.loop (rc .done (some .ret)))/\W.heap[w.heap.size]?=some (.deferred (some []))) S hSb ?_ ?_ ?_).mono ?_
 ·rintro pre A B ⟨hb,hp,hl,hd⟩ hbb
  exact⟨hb.trans (hbb.mono (by omega)),hp,(hbb.block _ (by omega)).trans hl,(hbb.block _ (by omega)).trans hd⟩
 ·rintro pre x A v ⟨hb,⟨hpre,hp⟩,hl,hd⟩ hE hI
  have hmem:x∈E:=hE.subset (by simp)
  have hy:=run_yield (P:=P) (args:=#[.slice v.a v.n v.c]) hl (by rw[hrc,hps];rfl)
  rw[hrc] at hy
  refine⟨fn,_,assign,body,hy,roundIn_of_wpIn hfn (hassign (w.heap.size+1) v A _ hb ?_)⟩
  intro a' W hkf hax
  have hlW:=(hkf.block _ (qm hl)).trans hl
  have hdW:=(hkf.block _ (qm hd)).trans hd
  refine⟨_,run_beginRound hlW (by rw[hrc]),?_⟩
  have hl1:(W.putObj (w.heap.size+1) (.loop { rc .ready none with state:=.busy })).heap[w.heap.size+1]?=some (.loop { rc .ready none with state:=.busy }):=World.putObj_heap_same (qm hlW)
  have hd1:(W.putObj (w.heap.size+1) (.loop { rc .ready none with state:=.busy })).heap[w.heap.size]?=some (.deferred (some [])):=(World.putObj_heap_other (by omega)).trans hdW
  have hk1:zC A (W.putObj (w.heap.size+1) (.loop { rc .ready none with state:=.busy })):=(zC.of_below hkf).trans (zC.put hlW rfl)
  have hbW:Below w.heap.size w W:=hb.trans (hkf.mono hb.size)
  refine wpIn_mono (hbody (w.heap.size+1) x v a' _ hmem (ja _ hbW (by omega)) (hAx v a' W _ _ _ (by omega) hlW rfl hax) (hk1.ints hI)) ?_
  intro e a2 W2 hp2
  cases e with
  |normal=>
   obtain⟨hq,hk2,ho2,hb2⟩:=hp2
   have hl2:=ho2.same _ _ hl1 rfl
   have hd2:=ho2.same _ _ hd1 rfl
   have he:=run_endRound (P:=P) none hl2
   refine⟨_,_,he,.inl ⟨rfl,⟨ja _ hb2 (by omega),⟨hE,fun y hy=>?_⟩,?_,(World.putObj_heap_other (by omega)).trans hd2⟩,(hk1.trans hk2).trans (zC.put hl2 rfl)⟩⟩
   ·rcases List.mem_append.1 hy with h|h
    ·exact hp y h
    ·obtain rfl:y=x:=by simpa using h
     exact hq
   ·rw[World.putObj_heap_same (qm hl2),hrc];rfl
  |ret=>
   obtain⟨hq,ho2,hx2⟩:=hp2
   have hl2:=ho2.same _ _ hl1 rfl
   have hd2:=ho2.same _ _ hd1 rfl
   have he:=run_endRound (P:=P) (some .ret) hl2
   refine⟨_,_,he,.inr ⟨rfl,hX2 _ _ _ _ (by omega) hl2 rfl hx2,⟨x,hmem,hq⟩,?_,(World.putObj_heap_other (by omega)).trans hd2⟩⟩
   rw[World.putObj_heap_same (qm hl2),hrc];rfl
  | exit id=>exact hp2.elim
  | goto t=>exact hp2.elim
  | panic ch=>exact hp2.elim
  | outgrown=>exact hp2.elim
 ·exact⟨hSb,⟨List.nil_prefix,fun x hx=>by cases hx⟩,hSl,hSd⟩
 ·rintro e W ⟨⟨v,rfl⟩,(⟨hb,⟨_,hp⟩,hl,hd⟩|⟨hx,hex,hl,hd⟩)⟩
  ·have he:=run_endLoop (P:=P) hl (by rw[hrc];simp)
   have hpd:(rc .ready none).pending=none:=by rw[hrc]
   rw[hpd] at he
   exact⟨none,_,he,hdone w.heap.size _ (Nat.le_refl _) (ja _ hb (by omega)) hp ((World.putObj_heap_other (by omega)).trans hd)⟩
  ·have he:=run_endLoop (P:=P) hl (by rw[hrc];simp)
   have hpd:(rc .done (some .ret)).pending=some .ret:=by rw[hrc]
   rw[hpd] at he
   exact⟨some .ret,_,he,hstop w.heap.size _ (Nat.le_refl _) (hX2 _ _ _ _ (by omega) hl rfl hx) hex ((World.putObj_heap_other (by omega)).trans hd)⟩
def qN{α:Type}(p:α->Bool)(l:List α)(k:Nat):Prop:=∀j,j<k->∀b,l[j]?=some b->p b=false
theorem qN.zero{α:Type}(p:α->Bool)(l:List α):qN p l 0:=fun _ h=>absurd h (Nat.not_lt_zero _)
theorem qN.succ{α:Type}{p:α->Bool}{l:List α}{k:Nat}{a:α}(h:qN p l k)(hk:l[k]?=some a)(hp:p a=false):qN p l (k+1):=fun j hj b hb=>by
 by_cases e:j<k
 ·exact h j e b hb
 ·obtain rfl:j=k:=by omega
  rw[hk] at hb;cases hb;exact hp
theorem qN.miss{α:Type}{p:α->Bool}{l:List α}{k:Nat}(h:qN p l k)(hk:l.length<=k):idxP p l = -1:=
 ZC fun j b hb=>h j (by have:=(List.getElem?_eq_some_iff.1 hb).1;omega) b hb
theorem qN.hit{α:Type}{p:α->Bool}{l:List α}{k:Nat}{a:α}(h:qN p l k)(hk:l[k]?=some a)(hp:p a=true):idxP p l=(k:Int):=XI h hk hp
theorem qhf(bn bf:Nat)(s:SlV)(l:List ByteArray)(nm:ByteArray)(w:World)(hl:StrsAt w s l)(hbig:s.n<4611686018427387904)
 (hf:w.cell? ⟨bf,0,none⟩=some (.func (.func 167) #[] #[])) (hn:w.cell? ⟨bn,0,none⟩=some (.string nm)) :
 Calls Tryz.prog 203 #[.slice s.a s.n s.c,.func (.func 204) #[] #[.pointer (some ⟨bf,0,none⟩),.pointer (some ⟨bn,0,none⟩)]] w fun e w'=>
  e = .returned (.int .i64 (idxP (fun x=>eqB x nm) l))/\Below w.heap.size w w':=by
 obtain⟨a,n,c⟩:=s
 obtain⟨hn1,hcap,hl⟩:=hl
 dsimp only at hn1 hcap hl hbig ⊢
 subst hn1
 replace hl:=Lib.hid hl
 go_enter Tryz.func203,Tryz.ntmps203
 go_wp2
 go_loopw [8] (fun i wr=>∃k:Nat,k<=l.length/\i = .int .i64 k/\qN (fun x=>eqB x nm) l k/\Below w.heap.size w wr) (fun i _=>l.length-(intOf i).toNat)
 case atStart=>exact⟨0,Nat.zero_le _,rfl,qN.zero _ _,Below.refl _ _⟩
 case round=>
  obtain⟨k,hk,rfl,hY,hB⟩:=hrel
  replace hY:=Lib.hid hY
  by_cases hlt:k<l.length
  ·obtain⟨x,hx⟩:∃x,l[k]?=some x:=⟨l[k],by rw[List.getElem?_eq_getElem hlt]⟩
   obtain⟨b,o,rfl,hc⟩:=hl.out k x hx
   have hc':=(hB.cell (World.block_lt_of_cell? _ _ hc)).trans hc
   have hi:IntKind.i64.wrap ((k:Int)+1)=k+1:=IntWalk.i64_in _ (by omega)
   have C:=fun h1 h2=>qgg bn bf x nm wr h1 h2
   replace C:=C (cell_below hB hf) (cell_below hB hn)
   replace hx:=Lib.hid hx
   clear hc hf hn
   by_cases hp:eqB x nm=true
   ·rw[hp] at C
    replace hp:=Lib.hid hp
    go_wp2_with (go_at_call 204;refine C.mono ?_;clear C;rintro e W1 ⟨rfl,hb⟩)
    go_ret
    exact⟨qp (hY.out.hit hx.out hp.out).symm,hB.trans (hb.mono hB.size)⟩
   ·have hp':eqB x nm=false:=by simpa using hp
    rw[hp'] at C
    replace hp':=Lib.hid hp'
    clear hp
    go_wp2_with (go_at_call 204;refine C.mono ?_;clear C;rintro e W1 ⟨rfl,hb⟩)
    exact⟨⟨k+1,by omega,by go_num,hY.out.succ hx.out hp'.out,hB.trans (hb.mono hB.size)⟩,by simp[intOf];omega⟩
  ·clear hf hn
   go_wp2_with fail
   go_ret
   exact⟨qp (hY.out.miss (by omega)).symm,hB⟩
theorem qbH(s:SlV)(l:List ByteArray)(nm:ByteArray)(w:World)(hl:StrsAt w s l)(hbig:s.n<4611686018427387904) :
 Calls Tryz.prog 166 #[.slice s.a s.n s.c,.string nm,.func (.func 167) #[] #[]] w fun e w'=>
  e = .returned (.int .i64 (regN l nm))/\Below w.heap.size w w':=by
 have hB:Below w.heap.size w ((w.alloc (.cells #[.string nm] 9)).alloc (.cells #[.func (.func 167) #[] #[]] 118)):=qe.alloc (by simp) _
 have C:=qhf w.heap.size (w.heap.size+1) s l nm ((w.alloc (.cells #[.string nm] 9)).alloc (.cells #[.func (.func 167) #[] #[]] 118)) (hl.below hB) hbig
  (by have:=qC (w.alloc (.cells #[.string nm] 9)) #[.func (.func 167) #[] #[]] 118 (j:=0) rfl
      rw[World.size_alloc] at this;exact this)
  (qf _ (qC w #[.string nm] 9 (j:=0) rfl))
 replace hB:=Lib.hid hB
 clear hl
 go_enter Tryz.func166,Tryz.ntmps166
 go_wp2_with (go_at_call 203;refine C.mono ?_;clear C;rintro e W1 ⟨rfl,hb⟩)
 go_ret
 exact⟨rfl,hB.out.trans (hb.mono hB.out.size)⟩
def yg(W:World)(c:CV)(ns:List ByteArray):Prop:=StrsAt W c.names ns/\c.names.n<4611686018427387904
theorem Xt(C:Nat)(c:CV)(ns:List ByteArray)(nm:ByteArray)(w:World)(hC:ChkAt w C c)(hN:yg w c ns) :
 Calls Tryz.prog 136 #[.pointer (some ⟨C,0,none⟩),.string nm] w fun e w'=>e = .returned (.int .i64 (regN ns nm))/\Below w.heap.size w w':=by
 have K:=qbH c.names ns nm w hN.1 hN.2
 have c8:=hC.cell (j:=8) rfl
 clear hN hC
 go_enter Tryz.func136,Tryz.ntmps136
 go_wp2_with (go_at_call 166;refine K.mono ?_;clear K;rintro e W1 ⟨rfl,hb⟩)
 go_ret
 exact⟨rfl,hb⟩
theorem jw(s:SlV)(l:List Int)(x:Int)(w:World)(hl:IntsAt w s l)(hbig:s.n<4611686018427387904) :
 Calls Tryz.prog 147 #[.slice s.a s.n s.c,.int .i64 x] w fun e w'=>e = .returned (.bool (l.contains x))/\w=w':=by
 obtain⟨a,n,c⟩:=s
 obtain⟨hn1,hcap,hl⟩:=hl
 dsimp only at hn1 hcap hl hbig ⊢
 subst hn1
 cases l with
 | nil=>exact(Tryz.slices_Contains_int_empty a c x w).mono fun e w' ⟨he,hw⟩=>⟨by rw[he];rfl,hw.symm⟩
 |cons y ys=>
  obtain⟨b,o,rfl,h0⟩:=hl 0 y rfl
  refine(Tryz.slices_Contains_int b o (ys.length+1) c (y::ys) x w (by simp) (by simp at hbig;omega) (fun j hj=>?_)).mono fun e w' ⟨he,hw⟩=>⟨?_,hw.symm⟩
  ·obtain⟨b',o',h1,h2⟩:=hl j ((y::ys).getD j 0) (by rw[List.getElem?_eq_getElem hj,List.getD_eq_getElem?_getD,List.getElem?_eq_getElem hj];rfl)
   cases h1;exact h2
  ·rw[he]
   refine qg ?_
   rw[List.take_of_length_le (by simp)]
theorem IntsAt.head{W:World}{s:SlV}{l:List Int}(h:IntsAt W s l)(k:Nat)(hk:k<=l.length):IntsAt W ⟨s.a,k,s.c⟩ (l.take k):=by
 refine⟨by simp;omega,?_,fun j x hj=>?_⟩
 ·have:=h.1;have:=h.2.1;show k<=s.c;omega
 ·rw[List.getElem?_take] at hj
  split at hj
  ·exact h.2.2 j x hj
  ·cases hj
def xN(ns l:List ByteArray)(k:Nat):Array Value:=((((l.take k).map (regN ns))++List.replicate (l.length-k) 0).map (Value.int .i64)).toArray
theorem qaj(ns l:List ByteArray):xN ns l 0=Array.replicate l.length (.int .i64 0):=by simp[xN]
theorem qak(ns l:List ByteArray)(k:Nat)(x:ByteArray)(hx:l[k]?=some x):(xN ns l k).setIfInBounds k (.int .i64 (regN ns x))=xN ns l (k+1):=by
 have hlt:k<l.length:=(List.getElem?_eq_some_iff.1 hx).1
 apply Array.ext'
 simp only[xN,Array.toList_setIfInBounds]
 rw[show l.length-k=(l.length-(k+1))+1 by omega,List.replicate_succ,List.take_add_one,hx]
 simp only[List.map_append,List.map_cons,Option.toList_some,List.map_nil,List.append_assoc,List.cons_append,List.nil_append]
 have hk:(List.map (Value.int IntKind.i64) (List.map (regN ns) (List.take k l))).length=k:=by simp;omega
 generalize List.map (Value.int IntKind.i64) (List.map (regN ns) (List.take k l))=A at hk ⊢
 rw[List.set_append_right _ _ (by omega),hk,Nat.sub_self];rfl
theorem qbI(ns l:List ByteArray):xN ns l l.length=((regsL ns l).map (Value.int .i64)).toArray:=by simp[xN,regsL]
theorem Tryz.infoInt:(Tryz.prog.info? 3).map (fun i=>(i.zero,i.size,i.bytes))=some (some (.int .i64 0),1,8):=by kernel_rfl
theorem zB(v:Value)(n:Nat):madeCells #[v] n=Array.replicate n v:=by
 apply Array.ext
 ·simp[madeCells]
 ·intro i h1 h2
  simp[madeCells,Nat.mod_one]
theorem qbJ(ns l:List ByteArray)(k:Nat)(hk:k<l.length):(xN ns l k)[k]?=some (.int .i64 0):=by
 have h1:((l.take k).map (regN ns)).length=k:=by simp;omega
 simp only[xN,List.getElem?_toArray,List.getElem?_map]
 rw[List.getElem?_append_right (by omega),h1,Nat.sub_self,List.getElem?_replicate,if_pos (by omega)]
 rfl
theorem yg.below{W W':World}{c:CV}{ns:List ByteArray}(h:yg W c ns)(hb:Below W.heap.size W W'):yg W' c ns:=⟨h.1.below hb,h.2⟩
def RegsPost(ns l:List ByteArray)(most:Int)(w:World)(e:Ending)(w':World):Prop:=
 ∃s:SlV,e = .returned (.tuple #[.slice s.a s.n s.c,.bool (regsOk ns l most.toNat)])/\Below w.heap.size w w'/\((l.length:Int)<=most->w'.ownsRow w.heap.size 3 1 s.v l.length ((regsL ns l).map (Value.int .i64)))
theorem jN(C:Nat)(c:CV)(ns:List ByteArray)(s:SlV)(l:List ByteArray)(most:Int)(w:World)(h0:0<=most)(hm:most<=1000)(hC:ChkAt w C c)(hN:yg w c ns)(hl:StrsAt w s l) :
 Calls Tryz.prog 137 #[.pointer (some ⟨C,0,none⟩),.slice s.a s.n s.c,.int .i64 most] w (RegsPost ns l most w):=by
 obtain⟨a,n,cp⟩:=s
 obtain⟨hn1,hcap,hl⟩:=hl
 dsimp only at hn1 hcap hl ⊢
 subst hn1
 by_cases hlong:most<l.length
 ·clear hC hN hl
  have hf:regsOk ns l most.toNat=false:=by unfold regsOk;simp;omega
  replace hf:=Lib.hid hf
  go_enter Tryz.func137,Tryz.ntmps137
  go_wp2
  go_ret2
  exact⟨⟨none,0,0⟩,by rw[hf.out];first|done|rfl,Below.refl _ _,fun h=>by omega⟩
 ·have hl0:(0:Int)<=l.length:=by omega
  replace hl:=Lib.hid hl
  have hC2:=Lib.hid hC
  have hN2:=Lib.hid hN
  clear hC hN
  have hmk:=run_make_row' (P:=Tryz.prog) 41 3 (.int .i64 0) 8 Tryz.underlying41 Tryz.infoInt rfl .i64 .i64 l.length (by omega) (by omega)
  go_enter Tryz.func137,Tryz.ntmps137
  go_wp2_with fail
  clear hmk
  have hC0:Cells (w.alloc (.cells (madeCells #[.int .i64 0] l.length) 3)) w.heap.size 3 (xN ns l 0):=by rw[qaj,←zB];exact Cells.new w _ _
  have hB0:Below w.heap.size w (w.alloc (.cells (madeCells #[.int .i64 0] l.length) 3)):=qe
  go_loopw [20] (fun i wr=>∃k:Nat,k<=l.length/\i = .int .i64 k/\Cells wr w.heap.size 3 (xN ns l k)/\Below w.heap.size w wr) (fun i _=>l.length-(intOf i).toNat)
  case atStart=>exact⟨0,Nat.zero_le _,rfl,hC0,hB0⟩
  case round=>
   clear hC0 hB0
   obtain⟨k,hk,rfl,hR,hB⟩:=hrel
   have k0:(0:Int)<=k:=Int.natCast_nonneg _
   by_cases hlt:k<l.length
   ·obtain⟨x,hx⟩:∃x,l[k]?=some x:=⟨l[k],by rw[List.getElem?_eq_getElem hlt]⟩
    obtain⟨b,o,rfl,hc⟩:=hl.out k x hx
    have hc':=cell_below hB hc
    have hi:IntKind.i64.wrap ((k:Int)+1)=k+1:=IntWalk.i64_in _ (by omega)
    have k1:(k:Int)<l.length:=by omega
    have K:=Xt C c ns x wr (hC2.out.below hB hC2.out.lt) (hN2.out.below hB)
    have hw:=hR.lt
    have hP:∀W1,Below wr.heap.size wr W1->(W1.cell? ⟨w.heap.size,k,none⟩=some (.int .i64 0)/\W1.frozen? ⟨w.heap.size,k,none⟩=false)/\Cells (W1.setCell ⟨w.heap.size,k,none⟩ (.int .i64 (regN ns x))) w.heap.size 3 (xN ns l (k+1))/\Below w.heap.size w (W1.setCell ⟨w.heap.size,k,none⟩ (.int .i64 (regN ns x))):=fun W1 hb=>by
     have hR1:=hR.below hb hw
     refine⟨⟨hR1.cell (qbJ ns l k hlt),hR1.frozen k⟩,?_,(hB.trans (hb.mono hB.size)).setCell (p:=⟨w.heap.size,k,none⟩) (Nat.le_refl _) _⟩
     have:=hR1.set (j:=k) (.int .i64 (regN ns x))
     rw[qak ns l k x hx] at this;exact this
    replace hx:=Lib.hid hx
    clear hc hR
    go_wp2_with (go_at_call 136;refine K.mono ?_;clear K;rintro e W1 ⟨rfl,hb⟩;obtain⟨⟨q0,q1⟩,q2⟩:=hP W1 hb;clear hP)
    exact⟨⟨k+1,by omega,by go_num,q2.1,q2.2⟩,by simp[intOf];omega⟩
   ·obtain rfl:k=l.length:=by omega
    rw[qbI] at hR
    have hrow:wr.ownsRow w.heap.size 3 1 (.slice (some ⟨w.heap.size,0,none⟩) l.length l.length) l.length ((regsL ns l).map (Value.int .i64)):=
     ⟨by simp[regsL],.inr ⟨w.heap.size,l.length,_,rfl,Nat.le_refl _,hR,Nat.le_refl _,by unfold maxLen;omega,by simp[regsL],by simp[regsL,List.take_of_length_le]⟩⟩
    have K:=jw ⟨some ⟨w.heap.size,0,none⟩,l.length,l.length⟩ (regsL ns l) (-1) wr (IntsAt.of_row (s:=⟨some ⟨w.heap.size,0,none⟩,l.length,l.length⟩) hrow (by simp[regsL])) (by show l.length<_;omega)
    have hP:RegsPost ns l most w (.returned (.tuple #[.slice (some ⟨w.heap.size,0,none⟩) l.length l.length,.bool (!(regsL ns l).contains (-1))])) wr:=
     ⟨⟨some ⟨w.heap.size,0,none⟩,l.length,l.length⟩,by
       have:regsOk ns l most.toNat = !(regsL ns l).contains (-1):=by
        unfold regsOk
        rw[decide_eq_true (by omega),Bool.true_and]
       rw[this],hB,fun _=>hrow⟩
    replace hP:=Lib.hid hP
    dsimp only at K
    generalize(regsL ns l).contains (-1)=q at K hP
    clear hrow hR
    go_wp2_with (go_at_call 147;refine K.mono ?_;clear K;rintro e W1 ⟨rfl,rfl⟩)
    go_ret2
    exact hP.out
theorem YC(l:List Int)(k:Nat)(x:Int)(hx:l[k]?=some x):qv (l.take k) (l.drop k)=((l.take k).contains x||qv (l.take (k+1)) (l.drop (k+1))):=by
 have hlt:k<l.length:=(List.getElem?_eq_some_iff.1 hx).1
 rw[List.drop_eq_getElem_cons hlt,List.take_add_one,hx]
 have:l[k]=x:=(List.getElem?_eq_some_iff.1 hx).2
 rw[this];rfl
theorem Qj(s:SlV)(l:List Int)(w:World)(hl:IntsAt w s l)(hbig:s.n<=4611686018427387904) :
 Calls Tryz.prog 138 #[.slice s.a s.n s.c] w fun e w'=>e = .returned (.bool (qv [] l))/\w=w':=by
 obtain⟨a,n,c⟩:=s
 have hl2:=Lib.hid hl
 obtain⟨hn1,hcap,hl⟩:=hl
 dsimp only at hn1 hcap hl hbig ⊢
 subst hn1
 replace hl:=Lib.hid hl
 go_enter Tryz.func138,Tryz.ntmps138
 go_wp2
 go_loop [7] (fun i=>∃k:Nat,k<=l.length/\i = .int .i64 k/\Hid (qv [] l=qv (l.take k) (l.drop k))) (fun i=>l.length-(intOf i).toNat)
 case atStart=>exact⟨0,Nat.zero_le _,rfl,Lib.hid (by simp)⟩
 case round=>
  obtain⟨k,hk,rfl,hT⟩:=hrel
  have k0:(0:Int)<=k:=Int.natCast_nonneg _
  by_cases hlt:k<l.length
  ·obtain⟨x,hx⟩:∃x,l[k]?=some x:=⟨l[k],by rw[List.getElem?_eq_getElem hlt]⟩
   obtain⟨b,o,rfl,hc⟩:=hl.out k x hx
   have hi:IntKind.i64.wrap ((k:Int)+1)=k+1:=IntWalk.i64_in _ (by omega)
   have k1:(k:Int)<l.length:=by omega
   have k2:(k:Int)<=c:=by omega
   have K:=jw ⟨some ⟨b,o,none⟩,k,c⟩ (l.take k) x w (hl2.out.head k hk) (by show k<_;omega)
   have hT2:=Lib.hid (hT.out.trans (YC l k x hx))
   dsimp only at K
   clear hT
   by_cases hcn:(l.take k).contains x=true
   ·have hT3:Hid (qv [] l=true):=Lib.hid (by rw[hT2.out,hcn];rfl)
    rw[hcn] at K
    clear hcn hx hT2
    go_wp2_with (go_at_call 147;refine K.mono ?_;clear K;rintro e W1 ⟨rfl,rfl⟩)
    go_ret
    exact⟨qg hT3.out.symm,rfl⟩
   ·have hcn':(l.take k).contains x=false:=by simpa using hcn
    have hT3:Hid (qv [] l=qv (l.take (k+1)) (l.drop (k+1))):=Lib.hid (by rw[hT2.out,hcn',Bool.false_or])
    rw[hcn'] at K
    clear hcn hcn' hx hT2
    go_wp2_with (go_at_call 147;refine K.mono ?_;clear K;rintro e W1 ⟨rfl,rfl⟩)
    go_round
    case rel=>exact⟨k+1,by omega,by go_num,hT3⟩
    case measure=>simp[intOf];omega
  ·have hT3:Hid (qv [] l=false):=Lib.hid (by rw[hT.out,List.drop_eq_nil_of_le (by omega)];rfl)
   clear hT
   go_wp2_with fail
   go_ret
   exact⟨qg hT3.out.symm,rfl⟩
structure PlcOk(p:Plc):Prop where
 at0:0<=p.2.1
 at1:p.2.1<=1000
 w0:1<=p.2.2
 w1:p.2.2<=1000
theorem qal(p q:Plc)(w:World)(hp:PlcOk p)(hq:PlcOk q) :
 Calls Tryz.prog 108 #[.agg #[.int .i64 p.1,.int .i64 p.2.1,.int .i64 p.2.2],.agg #[.int .i64 q.1,.int .i64 q.2.1,.int .i64 q.2.2]] w fun e w'=>
  e = .returned (.bool (lapP p q))/\Below w.heap.size w w':=by
 obtain⟨p1,p2,p3⟩:=p
 obtain⟨q1,q2,q3⟩:=q
 obtain⟨a1,a2,a3,a4⟩:=hp
 obtain⟨b1,b2,b3,b4⟩:=hq
 dsimp only at a1 a2 a3 a4 b1 b2 b3 b4 ⊢
 by_cases h:p1=q1
 ·subst h
  refine(Ys p1 p2 p3 q2 q3 w a1 a2 a3 a4 b1 b2 b3 b4).mono fun e w' ⟨he,hw⟩=>⟨?_,hw⟩
  rw[he];refine qg ?_
  unfold lapP;simp
 ·have h1:Hid (lapP (p1,p2,p3) (q1,q2,q3)=false):=Lib.hid (by unfold lapP;simp[h])
  have h2:(p1==q1)=false:=by simpa using h
  have h3:decide (p1=q1)=false:=by simpa using h
  go_enter Tryz.func108,Tryz.ntmps108
  go_wp2_with fail
  go_ret
  exact⟨qg h1.out.symm,qe.alloc (by simp) _⟩
structure qP(W:World)(c:CV)(ps:List Plc):Prop where
 ok:∀p,p∈ps->PlcOk p
 len:c.places.n=ps.length
 cap:c.places.n<=c.places.c
 big:c.places.n<4611686018427387904
 at_:∀ (i:Nat) p,ps[i]?=some p->∃b o,c.places.a=some ⟨b,o,none⟩/\W.cell? ⟨b,o+i*3,none⟩=some (.int .i64 p.1)/\W.cell? ⟨b,o+i*3+1,none⟩=some (.int .i64 p.2.1)/\W.cell? ⟨b,o+i*3+2,none⟩=some (.int .i64 p.2.2)
theorem qP.below{W W':World}{c:CV}{ps:List Plc}(h:qP W c ps)(hb:Below W.heap.size W W'):qP W' c ps:=
 ⟨h.ok,h.len,h.cap,h.big,fun i p hp=>by obtain⟨b,o,h1,h2,h3,h4⟩:=h.at_ i p hp;exact⟨b,o,h1,cell_below hb h2,cell_below hb h3,cell_below hb h4⟩⟩
def Num(ps:List Plc)(r:Int):Prop:=0<=r/\r<ps.length
theorem Num.get{ps:List Plc}{r:Int}(h:Num ps r):ps[r.toNat]?=some (plc ps r):=by
 have:r.toNat<ps.length:=by have:=h.1;have:=h.2;omega
 unfold plc
 rw[List.getElem?_eq_getElem this,List.getD_eq_getElem?_getD,List.getElem?_eq_getElem this];rfl
theorem Num.plc_ok{W:World}{c:CV}{ps:List Plc}{r:Int}(h:Num ps r)(hp:qP W c ps):PlcOk (plc ps r):=hp.ok _ (List.mem_of_getElem? h.get)
theorem qeA(bC br C:Nat)(c:CV)(ps:List Plc)(r x:Int)(w:World)(hbC:w.cell? ⟨bC,0,none⟩=some (.pointer (some ⟨C,0,none⟩)))(hbr:w.cell? ⟨br,0,none⟩=some (.int .i64 r))(hC:ChkAt w C c)(hP:qP w c ps)(hr:Num ps r)(hx:Num ps x) :
 Calls Tryz.prog 206 #[.int .i64 x,.pointer (some ⟨bC,0,none⟩),.pointer (some ⟨br,0,none⟩)] w fun e w'=>e = .returned (.bool (lapP (plc ps r) (plc ps x)))/\Below w.heap.size w w':=by
 have K:=fun W=>qal (plc ps r) (plc ps x) W (hr.plc_ok hP) (hx.plc_ok hP)
 obtain⟨b,o,ha,p0,p1,p2⟩:=hP.at_ _ _ hr.get
 obtain⟨b',o',ha',q0,q1,q2⟩:=hP.at_ _ _ hx.get
 have hlen:=hP.len
 obtain⟨i,rfl⟩:∃i:Nat,r=i:=⟨r.toNat,by have:=hr.1;omega⟩
 obtain⟨j,rfl⟩:∃j:Nat,x=j:=⟨x.toNat,by have:=hx.1;omega⟩
 have i0:(0:Int)<=i:=Int.natCast_nonneg _
 have j0:(0:Int)<=j:=Int.natCast_nonneg _
 have i1:i<c.places.n:=by have:=hr.2;omega
 have j1:j<c.places.n:=by have:=hx.2;omega
 have i2:(i:Int)<c.places.n:=by omega
 have j2:(j:Int)<c.places.n:=by omega
 have c9:=hC.cell (j:=9) (v:=.slice c.places.a c.places.n c.places.c) rfl
 rw[ha] at ha'
 cases ha'
 rw[ha] at c9
 simp only[Int.toNat_natCast] at p0 p1 p2 q0 q1 q2
 generalize plc ps (i:Int)=pr at K p0 p1 p2 ⊢
 generalize plc ps (j:Int)=px at K q0 q1 q2 ⊢
 obtain⟨u0,u1,u2⟩:=pr
 obtain⟨v0,v1,v2⟩:=px
 dsimp only at K p0 p1 p2 q0 q1 q2
 generalize lapP (u0,u1,u2) (v0,v1,v2)=z at K ⊢
 generalize c.places.n=pn at *
 generalize c.places.c=pc at *
 clear ha hP hC hr hx hlen
 go_enter Tryz.func206,Tryz.ntmps206
 go_wp2
 go_region_held3 (fun w'=>w'.cell? ⟨bC,0,none⟩=some (.pointer (some ⟨C,0,none⟩))/\w'.cell? ⟨br,0,none⟩=some (.int .i64 i)/\w'.cell? ⟨C,9,none⟩=some (.slice (some ⟨b,o,none⟩) pn pc) /\
  w'.cell? ⟨b,o+i*3,none⟩=some (.int .i64 u0)/\w'.cell? ⟨b,o+i*3+1,none⟩=some (.int .i64 u1)/\w'.cell? ⟨b,o+i*3+2,none⟩=some (.int .i64 u2) /\
  w'.cell? ⟨b,o+j*3,none⟩=some (.int .i64 v0)/\w'.cell? ⟨b,o+j*3+1,none⟩=some (.int .i64 v1)/\w'.cell? ⟨b,o+j*3+2,none⟩=some (.int .i64 v2))
  (go_keep)
  ((go_at_call 108;refine(K _).mono ?_;clear K;rintro e W1 ⟨rfl,hb⟩;have k0:W1.cell? ⟨bC,0,none⟩=some (.pointer (some ⟨C,0,none⟩)):=qh hb;have k1:W1.cell? ⟨br,0,none⟩=some (.int .i64 i):=qh hb;have k2:W1.cell? ⟨C,9,none⟩=some (.slice (some ⟨b,o,none⟩) pn pc):=qh hb;have k3:W1.cell? ⟨b,o+i*3,none⟩=some (.int .i64 u0):=qh hb;have k4:W1.cell? ⟨b,o+i*3+1,none⟩=some (.int .i64 u1):=qh hb;have k5:W1.cell? ⟨b,o+i*3+2,none⟩=some (.int .i64 u2):=qh hb;have k6:W1.cell? ⟨b,o+j*3,none⟩=some (.int .i64 v0):=qh hb;have k7:W1.cell? ⟨b,o+j*3+1,none⟩=some (.int .i64 v1):=qh hb;have k8:W1.cell? ⟨b,o+j*3+2,none⟩=some (.int .i64 v2):=qh hb))
 go_wp2
 go_ret
 exact⟨rfl,((Below.refl _ _).drew).trans hb⟩
def qeB(g:Nat)(lb:Array Value)(p:Int->Bool)(l:List Int)(w:World):Prop:=
 ∀x,x∈l->∀W,Below w.heap.size w W->Calls Tryz.prog g (#[.int .i64 x]++lb) W fun e w'=>e = .returned (.bool (p x))/\Below W.heap.size W w'
theorem qeC(g:Nat)(lb:Array Value)(p:Int->Bool)(eg:∀args w,(callFunc g args).run Tryz.prog w = .ok (.enter g args) w)(s:SlV)(l:List Int)(w:World)(hl:IntsAt w s l)(hbig:s.n<4611686018427387904)(hp:qeB g lb p l w) :
 Calls Tryz.prog 205 #[.slice s.a s.n s.c,.func (.func g) #[] lb] w fun e w'=>e = .returned (.int .i64 (idxP p l))/\Below w.heap.size w w':=by
 obtain⟨a,n,c⟩:=s
 obtain⟨hn1,hcap,hl⟩:=hl
 dsimp only at hn1 hcap hl hbig ⊢
 subst hn1
 replace hl:=Lib.hid hl
 replace hp:=Lib.hid hp
 go_enter Tryz.func205,Tryz.ntmps205
 go_wp2
 go_loopw [8] (fun i wr=>∃k:Nat,k<=l.length/\i = .int .i64 k/\qN p l k/\Below w.heap.size w wr) (fun i _=>l.length-(intOf i).toNat)
 case atStart=>exact⟨0,Nat.zero_le _,rfl,qN.zero _ _,Below.refl _ _⟩
 case round=>
  obtain⟨k,hk,rfl,hY,hB⟩:=hrel
  replace hY:=Lib.hid hY
  have k0:(0:Int)<=k:=Int.natCast_nonneg _
  by_cases hlt:k<l.length
  ·obtain⟨x,hx⟩:∃x,l[k]?=some x:=⟨l[k],by rw[List.getElem?_eq_getElem hlt]⟩
   obtain⟨b,o,rfl,hc⟩:=hl.out k x hx
   have hc':=cell_below hB hc
   have hi:IntKind.i64.wrap ((k:Int)+1)=k+1:=IntWalk.i64_in _ (by omega)
   have k1:(k:Int)<l.length:=by omega
   have C:=hp.out x (List.mem_of_getElem? hx) wr hB
   replace hx:=Lib.hid hx
   clear hc
   by_cases hq:p x=true
   ·rw[hq] at C
    replace hq:=Lib.hid hq
    go_wp2_with (go_at_fn g;refine C.mono ?_;clear C;rintro e W1 ⟨rfl,hb⟩)
    go_ret
    exact⟨qp (hY.out.hit hx.out hq.out).symm,hB.trans (hb.mono hB.size)⟩
   ·have hq':p x=false:=by simpa using hq
    rw[hq'] at C
    replace hq':=Lib.hid hq'
    clear hq
    go_wp2_with (go_at_fn g;refine C.mono ?_;clear C;rintro e W1 ⟨rfl,hb⟩)
    exact⟨⟨k+1,by omega,by go_num,hY.out.succ hx.out hq'.out,hB.trans (hb.mono hB.size)⟩,by simp[intOf];omega⟩
  ·clear eg
   go_wp2_with fail
   go_ret
   exact⟨qp (hY.out.miss (by omega)).symm,hB⟩
theorem qam{α:Type}(p:α->Bool)(l:List α):decide (0<=idxP p l)=l.any p:=by
 rcases idxP_cases p l with⟨h,hn⟩|⟨k,hk,h,hp⟩
 ·rw[h,Bool.eq_iff_iff]
  simp only[List.any_eq_true,decide_eq_true_eq]
  constructor
  ·intro h0;omega
  ·rintro⟨x,hx,hpx⟩;rw[hn x hx] at hpx;cases hpx
 ·rw[h,Bool.eq_iff_iff]
  simp only[List.any_eq_true,decide_eq_true_eq]
  exact⟨fun _=>⟨l[k],List.getElem_mem hk,hp⟩,fun _=>Int.natCast_nonneg _⟩
theorem yH(g:Nat)(lb:Array Value)(p:Int->Bool)(eg:∀args w,(callFunc g args).run Tryz.prog w = .ok (.enter g args) w)(s:SlV)(l:List Int)(w:World)(hl:IntsAt w s l)(hbig:s.n<4611686018427387904)(hp:qeB g lb p l w) :
 Calls Tryz.prog 168 #[.slice s.a s.n s.c,.func (.func g) #[] lb] w fun e w'=>e = .returned (.bool (l.any p))/\Below w.heap.size w w':=by
 have C:=qeC g lb p eg s l w hl hbig hp
 have hz:=Lib.hid (qam p l)
 generalize idxP p l=z at C hz
 clear hl hp eg
 go_enter Tryz.func168,Tryz.ntmps168
 go_wp2_with (go_at_call 205;refine C.mono ?_;clear C;rintro e W1 ⟨rfl,hb⟩)
 go_ret
 exact⟨qg (by rw[←hz.out]),hb⟩
theorem ZT(C:Nat)(c:CV)(ps:List Plc)(r:Int)(s:SlV)(l:List Int)(w:World)(hC:ChkAt w C c)(hP:qP w c ps)(hr:Num ps r)(hl:IntsAt w s l)(hbig:s.n<4611686018427387904)(hx:∀x,x∈l->Num ps x) :
 Calls Tryz.prog 174 #[.pointer (some ⟨C,0,none⟩),.int .i64 r,.slice s.a s.n s.c] w fun e w'=>e = .returned (.bool (lapsOneB ps r l))/\Below w.heap.size w w':=by
 have hB:Below w.heap.size w ((w.alloc (.cells #[.pointer (some ⟨C,0,none⟩)] 158)).alloc (.cells #[.int .i64 r] 3)):=qe.alloc (by simp) _
 have h1:=qf (.cells #[.int .i64 r] 3) (qC w #[.pointer (some ⟨C,0,none⟩)] 158 (j:=0) rfl)
 have h2:=qC (w.alloc (.cells #[.pointer (some ⟨C,0,none⟩)] 158)) #[.int .i64 r] 3 (j:=0) rfl
 rw[World.size_alloc] at h2
 have K:=yH 206 #[.pointer (some ⟨w.heap.size,0,none⟩),.pointer (some ⟨w.heap.size+1,0,none⟩)] (fun x=>lapP (plc ps r) (plc ps x)) (enters_of Tryz.func206 (by kernel_rfl) rfl) s l _ (hl.below hB) hbig
  (fun x hm W hb=>qeA w.heap.size (w.heap.size+1) C c ps r x W ((hb.cell (p:=⟨w.heap.size,0,none⟩) (by simp;omega)).trans h1) ((hb.cell (p:=⟨w.heap.size+1,0,none⟩) (by simp)).trans h2) ((hC.below hB hC.lt).below hb (by have:=hC.lt;simp;omega)) ((hP.below hB).below hb) hr (hx x hm))
 have hq:(l.any fun x=>lapP (plc ps r) (plc ps x))=lapsOneB ps r l:=rfl
 rw[hq] at K
 generalize lapsOneB ps r l=q at K ⊢
 replace hB:=Lib.hid hB
 clear h1 h2 hC hP hl hx hq
 go_enter Tryz.func174,Tryz.ntmps174
 go_wp2_with (go_at_call 168;refine K.mono ?_;clear K;rintro e W1 ⟨rfl,hb⟩)
 go_ret
 exact⟨rfl,hB.out.trans (hb.mono hB.out.size)⟩
theorem YD(ps:List Plc)(l:List Int)(k:Nat)(x:Int)(hx:l[k]?=some x):qV ps (l.take k) (l.drop k)=(!lapsOneB ps x (l.take k)&&qV ps (l.take (k+1)) (l.drop (k+1))):=by
 have hlt:k<l.length:=(List.getElem?_eq_some_iff.1 hx).1
 rw[List.drop_eq_getElem_cons hlt,List.take_add_one,hx]
 have:l[k]=x:=(List.getElem?_eq_some_iff.1 hx).2
 rw[this];rfl
theorem ZD(C:Nat)(c:CV)(ps:List Plc)(s:SlV)(l:List Int)(w:World)(hC:ChkAt w C c)(hP:qP w c ps)(hl:IntsAt w s l)(hbig:s.n<4611686018427387904)(hx:∀x,x∈l->Num ps x) :
 Calls Tryz.prog 144 #[.pointer (some ⟨C,0,none⟩),.slice s.a s.n s.c] w fun e w'=>e = .returned (.bool (apartB ps l))/\Below w.heap.size w w':=by
 obtain⟨a,n,cp⟩:=s
 have hl2:=Lib.hid hl
 have hC2:=Lib.hid hC
 have hP2:=Lib.hid hP
 have hx2:=Lib.hid hx
 obtain⟨hn1,hcap,hl⟩:=hl
 dsimp only at hn1 hcap hl hbig ⊢
 subst hn1
 replace hl:=Lib.hid hl
 clear hC hP hx
 go_enter Tryz.func144,Tryz.ntmps144
 go_wp2
 go_loopw [9] (fun i wr=>∃k:Nat,k<=l.length/\i = .int .i64 k/\Hid (apartB ps l=qV ps (l.take k) (l.drop k))/\Below w.heap.size w wr) (fun i _=>l.length-(intOf i).toNat)
 case atStart=>exact⟨0,Nat.zero_le _,rfl,Lib.hid (by simp[apartB]),Below.refl _ _⟩
 case round=>
  obtain⟨k,hk,rfl,hT,hB⟩:=hrel
  have k0:(0:Int)<=k:=Int.natCast_nonneg _
  by_cases hlt:k<l.length
  ·obtain⟨x,hx⟩:∃x,l[k]?=some x:=⟨l[k],by rw[List.getElem?_eq_getElem hlt]⟩
   obtain⟨b,o,rfl,hc⟩:=hl.out k x hx
   have hc':=cell_below hB hc
   have hi:IntKind.i64.wrap ((k:Int)+1)=k+1:=IntWalk.i64_in _ (by omega)
   have k1:(k:Int)<l.length:=by omega
   have k2:(k:Int)<=cp:=by omega
   have K:=ZT C c ps x ⟨some ⟨b,o,none⟩,k,cp⟩ (l.take k) wr (hC2.out.below hB hC2.out.lt) (hP2.out.below hB) (hx2.out x (List.mem_of_getElem? hx)) ((hl2.out.head k hk).below hB) (by show k<_;omega) (fun y hy=>hx2.out y (List.mem_of_mem_take hy))
   have hT2:=Lib.hid (hT.out.trans (YD ps l k x hx))
   dsimp only at K
   clear hT hc
   by_cases hcn:lapsOneB ps x (l.take k)=true
   ·have hT3:Hid (apartB ps l=false):=Lib.hid (by rw[hT2.out,hcn];rfl)
    rw[hcn] at K
    clear hcn hx hT2
    go_wp2_with (go_at_call 174;refine K.mono ?_;clear K;rintro e W1 ⟨rfl,hb⟩)
    go_ret
    exact⟨qg hT3.out.symm,hB.trans (hb.mono hB.size)⟩
   ·have hcn':lapsOneB ps x (l.take k)=false:=by simpa using hcn
    have hT3:Hid (apartB ps l=qV ps (l.take (k+1)) (l.drop (k+1))):=Lib.hid (by rw[hT2.out,hcn'];rfl)
    rw[hcn'] at K
    clear hcn hcn' hx hT2
    go_wp2_with (go_at_call 174;refine K.mono ?_;clear K;rintro e W1 ⟨rfl,hb⟩)
    exact⟨⟨k+1,by omega,by go_num,hT3,hB.trans (hb.mono hB.size)⟩,by simp[intOf];omega⟩
  ·have hT3:Hid (apartB ps l=true):=Lib.hid (by rw[hT.out,List.drop_eq_nil_of_le (by omega)];rfl)
   clear hT
   go_wp2_with fail
   go_ret
   exact⟨qg hT3.out.symm,hB⟩
def ClassesAt(W:World)(s:SlV)(l:List ClassD):Prop:=
 s.n=l.length/\s.n<=s.c/\∀ (j:Nat) x,l[j]?=some x->∃b o,s.a=some ⟨b,o,none⟩/\∃r:SlV,W.cell? ⟨b,o+j*2,none⟩=some (.string x.name)/\W.cell? ⟨b,o+j*2+1,none⟩=some (.slice r.a r.n r.c)/\StrsAt W r x.regs
theorem ClassesAt.below{W W':World}{s:SlV}{l:List ClassD}(h:ClassesAt W s l)(hb:Below W.heap.size W W'):ClassesAt W' s l:=
 ⟨h.1,h.2.1,fun j x hj=>by obtain⟨b,o,h1,r,h2,h3,h4⟩:=h.2.2 j x hj;exact⟨b,o,h1,r,cell_below hb h2,cell_below hb h3,h4.below hb⟩⟩
def qW(W:World)(s:SlV)(l:List OperD):Prop:=
 s.n=l.length/\s.n<=s.c/\∀ (j:Nat) x,l[j]?=some x->∃b o,s.a=some ⟨b,o,none⟩/\W.cell? ⟨b,o+j*2,none⟩=some (.string x.cls)/\W.cell? ⟨b,o+j*2+1,none⟩=some (.string x.fix)
theorem qW.below{W W':World}{s:SlV}{l:List OperD}(h:qW W s l)(hb:Below W.heap.size W W'):qW W' s l:=
 ⟨h.1,h.2.1,fun j x hj=>by obtain⟨b,o,h1,h2,h3⟩:=h.2.2 j x hj;exact⟨b,o,h1,cell_below hb h2,cell_below hb h3⟩⟩
def OpsAt(W:World)(s:SlV)(l:List OpD):Prop:=
 s.n=l.length/\s.n<=s.c/\∀ (j:Nat) x,l[j]?=some x->∃b o,s.a=some ⟨b,o,none⟩/\∃u k:SlV,W.cell? ⟨b,o+j*6,none⟩=some (.string x.name)/\W.cell? ⟨b,o+j*6+1,none⟩=some (.string x.d.cls)/\W.cell? ⟨b,o+j*6+2,none⟩=some (.string x.d.fix) /\
  W.cell? ⟨b,o+j*6+3,none⟩=some (.slice u.a u.n u.c)/\W.cell? ⟨b,o+j*6+4,none⟩=some (.int .i64 x.tie)/\W.cell? ⟨b,o+j*6+5,none⟩=some (.slice k.a k.n k.c)/\qW W u x.uses/\StrsAt W k x.clob
theorem OpsAt.below{W W':World}{s:SlV}{l:List OpD}(h:OpsAt W s l)(hb:Below W.heap.size W W'):OpsAt W' s l:=
 ⟨h.1,h.2.1,fun j x hj=>by obtain⟨b,o,h1,u,k,h2,h3,h4,h5,h6,h7,h8,h9⟩:=h.2.2 j x hj;exact⟨b,o,h1,u,k,cell_below hb h2,cell_below hb h3,cell_below hb h4,cell_below hb h5,cell_below hb h6,cell_below hb h7,h8.below hb,h9.below hb⟩⟩
theorem ClassesAt.head{W:World}{s:SlV}{l:List ClassD}(h:ClassesAt W s l)(k:Nat)(hk:k<=l.length):ClassesAt W ⟨s.a,k,s.c⟩ (l.take k):=by
 refine⟨by simp;omega,?_,fun j x hj=>?_⟩
 ·have:=h.1;have:=h.2.1;show k<=s.c;omega
 ·rw[List.getElem?_take] at hj
  split at hj
  ·exact h.2.2 j x hj
  ·cases hj
theorem OpsAt.head{W:World}{s:SlV}{l:List OpD}(h:OpsAt W s l)(k:Nat)(hk:k<=l.length):OpsAt W ⟨s.a,k,s.c⟩ (l.take k):=by
 refine⟨by simp;omega,?_,fun j x hj=>?_⟩
 ·have:=h.1;have:=h.2.1;show k<=s.c;omega
 ·rw[List.getElem?_take] at hj
  split at hj
  ·exact h.2.2 j x hj
  ·cases hj
theorem Xl(name:ByteArray)(ra:Option Addr)(rn rc:Nat)(w:World):Calls Tryz.prog 135 #[.agg #[.string name,.slice ra rn rc]] w fun e w'=>e = .returned (.string name)/\Below w.heap.size w w':=by
 go_enter Tryz.func135,Tryz.ntmps135
 go_wp2
 go_ret
 exact⟨rfl,qe⟩
theorem qds(bn bf:Nat)(name:ByteArray)(ra:Option Addr)(rn rc:Nat)(nm:ByteArray)(w:World)(hf:w.cell? ⟨bf,0,none⟩=some (.func (.func 135) #[] #[]))(hn:w.cell? ⟨bn,0,none⟩=some (.string nm)) :
 Calls Tryz.prog 165 #[.agg #[.string name,.slice ra rn rc],.pointer (some ⟨bf,0,none⟩),.pointer (some ⟨bn,0,none⟩)] w fun e w'=>e = .returned (.bool (eqB name nm))/\Below w.heap.size w w':=by
 have lf:=World.block_lt_of_cell? _ _ hf
 have ln:=World.block_lt_of_cell? _ _ hn
 dsimp only at lf ln
 have nf:=World.new_ne w _ hf
 have nn:=World.new_ne w _ hn
 go_enter Tryz.func165,Tryz.ntmps165
 go_wp2
 go_region_held3 (fun w'=>w'.cell? ⟨bf,0,none⟩=some (.func (.func 135) #[] #[])/\w'.cell? ⟨bn,0,none⟩=some (.string nm)/\w'.cell? ⟨w.heap.size,0,none⟩=some (.string name)/\w'.cell? ⟨w.heap.size,1,none⟩=some (.slice ra rn rc))
  (go_keep)
  ((go_at_call 135;refine(Xl _ _ _ _ _).mono ?_;rintro e W1 ⟨rfl,hb⟩;have k0:W1.cell? ⟨bf,0,none⟩=some (.func (.func 135) #[] #[]):=qh hb;have k1:W1.cell? ⟨bn,0,none⟩=some (.string nm):=qh hb;have k2:W1.cell? ⟨w.heap.size,0,none⟩=some (.string name):=qh hb;have k3:W1.cell? ⟨w.heap.size,1,none⟩=some (.slice ra rn rc):=qh hb))
 go_wp2
 go_ret
 exact⟨qg (yf name nm).symm,(qe.drew).trans (hb.mono (by simp))⟩
theorem qeD(bn bf:Nat)(s:SlV)(l:List ClassD)(nm:ByteArray)(w:World)(hl:ClassesAt w s l)(hbig:s.n<4611686018427387904)
 (hf:w.cell? ⟨bf,0,none⟩=some (.func (.func 135) #[] #[])) (hn:w.cell? ⟨bn,0,none⟩=some (.string nm)) :
 Calls Tryz.prog 164 #[.slice s.a s.n s.c,.func (.func 165) #[] #[.pointer (some ⟨bf,0,none⟩),.pointer (some ⟨bn,0,none⟩)]] w fun e w'=>
  e = .returned (.int .i64 (idxP (fun x:ClassD=>eqB x.name nm) l))/\Below w.heap.size w w':=by
 obtain⟨a,n,c⟩:=s
 obtain⟨hn1,hcap,hl⟩:=hl
 dsimp only at hn1 hcap hl hbig ⊢
 subst hn1
 replace hl:=Lib.hid hl
 go_enter Tryz.func164,Tryz.ntmps164
 go_wp2
 go_loopw [8] (fun i wr=>∃k:Nat,k<=l.length/\i = .int .i64 k/\qN (fun x:ClassD=>eqB x.name nm) l k/\Below w.heap.size w wr) (fun i _=>l.length-(intOf i).toNat)
 case atStart=>exact⟨0,Nat.zero_le _,rfl,qN.zero _ _,Below.refl _ _⟩
 case round=>
  obtain⟨k,hk,rfl,hY,hB⟩:=hrel
  replace hY:=Lib.hid hY
  have k0:(0:Int)<=k:=Int.natCast_nonneg _
  by_cases hlt:k<l.length
  ·obtain⟨x,hx⟩:∃x,l[k]?=some x:=⟨l[k],by rw[List.getElem?_eq_getElem hlt]⟩
   obtain⟨b,o,rfl,hx0⟩:=hl.out k x hx
   obtain⟨r,hc0,hc1,_⟩:=hx0
   replace hc0:=cell_below hB hc0
   replace hc1:=cell_below hB hc1
   have hi:IntKind.i64.wrap ((k:Int)+1)=k+1:=IntWalk.i64_in _ (by omega)
   have k1:(k:Int)<l.length:=by omega
   have C:=fun h1 h2=>qds bn bf x.name r.a r.n r.c nm wr h1 h2
   replace C:=C (cell_below hB hf) (cell_below hB hn)
   replace hx:=Lib.hid hx
   clear hf hn
   by_cases hp:eqB x.name nm=true
   ·rw[hp] at C
    replace hp:=Lib.hid hp
    go_wp2_with (go_at_call 165;refine C.mono ?_;clear C;rintro e W1 ⟨rfl,hb⟩)
    go_ret
    exact⟨qp (hY.out.hit hx.out hp.out).symm,hB.trans (hb.mono hB.size)⟩
   ·have hp':eqB x.name nm=false:=by simpa using hp
    rw[hp'] at C
    replace hp':=Lib.hid hp'
    clear hp
    go_wp2_with (go_at_call 165;refine C.mono ?_;clear C;rintro e W1 ⟨rfl,hb⟩)
    exact⟨⟨k+1,by omega,by go_num,hY.out.succ hx.out hp'.out,hB.trans (hb.mono hB.size)⟩,by simp[intOf];omega⟩
  ·clear hf hn
   go_wp2_with fail
   go_ret
   exact⟨qp (hY.out.miss (by omega)).symm,hB⟩
theorem ZU(s:SlV)(l:List ClassD)(nm:ByteArray)(w:World)(hl:ClassesAt w s l)(hbig:s.n<4611686018427387904) :
 Calls Tryz.prog 134 #[.slice s.a s.n s.c,.string nm,.func (.func 135) #[] #[]] w fun e w'=>
  e = .returned (.int .i64 (idxP (fun x:ClassD=>eqB x.name nm) l))/\Below w.heap.size w w':=by
 have hB:Below w.heap.size w ((w.alloc (.cells #[.string nm] 9)).alloc (.cells #[.func (.func 135) #[] #[]] 160)):=qe.alloc (by simp) _
 have C:=qeD w.heap.size (w.heap.size+1) s l nm ((w.alloc (.cells #[.string nm] 9)).alloc (.cells #[.func (.func 135) #[] #[]] 160)) (hl.below hB) hbig
  (by have:=qC (w.alloc (.cells #[.string nm] 9)) #[.func (.func 135) #[] #[]] 160 (j:=0) rfl
      rw[World.size_alloc] at this;exact this)
  (qf _ (qC w #[.string nm] 9 (j:=0) rfl))
 replace hB:=Lib.hid hB
 clear hl
 generalize idxP (fun x:ClassD=>eqB x.name nm) l=z at C ⊢
 go_enter Tryz.func134,Tryz.ntmps134
 go_wp2_with (go_at_call 164;refine C.mono ?_;clear C;rintro e W1 ⟨rfl,hb⟩)
 go_ret
 exact⟨rfl,hB.out.trans (hb.mono hB.out.size)⟩
theorem YE(name dc df:ByteArray)(ua:Option Addr)(un uc:Nat)(tie:Int)(ka:Option Addr)(kn kc:Nat)(w:World):Calls Tryz.prog 142 #[.agg #[.string name,.string dc,.string df,.slice ua un uc,.int .i64 tie,.slice ka kn kc]] w fun e w'=>e = .returned (.string name)/\Below w.heap.size w w':=by
 go_enter Tryz.func142,Tryz.ntmps142
 go_wp2
 go_ret
 exact⟨rfl,qe⟩
theorem qhg(bn bf:Nat)(name dc df:ByteArray)(ua:Option Addr)(un uc:Nat)(tie:Int)(ka:Option Addr)(kn kc:Nat)(nm:ByteArray)(w:World)(hf:w.cell? ⟨bf,0,none⟩=some (.func (.func 142) #[] #[]))(hn:w.cell? ⟨bn,0,none⟩=some (.string nm)) :
 Calls Tryz.prog 171 #[.agg #[.string name,.string dc,.string df,.slice ua un uc,.int .i64 tie,.slice ka kn kc],.pointer (some ⟨bf,0,none⟩),.pointer (some ⟨bn,0,none⟩)] w fun e w'=>e = .returned (.bool (eqB name nm))/\Below w.heap.size w w':=by
 have lf:=World.block_lt_of_cell? _ _ hf
 have ln:=World.block_lt_of_cell? _ _ hn
 dsimp only at lf ln
 have nf:=World.new_ne w _ hf
 have nn:=World.new_ne w _ hn
 go_enter Tryz.func171,Tryz.ntmps171
 go_wp2
 go_region_held3 (fun w'=>w'.cell? ⟨bf,0,none⟩=some (.func (.func 142) #[] #[])/\w'.cell? ⟨bn,0,none⟩=some (.string nm)/\w'.cell? ⟨w.heap.size,0,none⟩=some (.string name)/\w'.cell? ⟨w.heap.size,1,none⟩=some (.string dc)/\w'.cell? ⟨w.heap.size,2,none⟩=some (.string df)/\w'.cell? ⟨w.heap.size,3,none⟩=some (.slice ua un uc)/\w'.cell? ⟨w.heap.size,4,none⟩=some (.int .i64 tie)/\w'.cell? ⟨w.heap.size,5,none⟩=some (.slice ka kn kc))
  (go_keep)
  ((go_at_call 142;refine(YE _ _ _ _ _ _ _ _ _ _ _).mono ?_;rintro e W1 ⟨rfl,hb⟩;have k0:W1.cell? ⟨bf,0,none⟩=some (.func (.func 142) #[] #[]):=qh hb;have k1:W1.cell? ⟨bn,0,none⟩=some (.string nm):=qh hb;have k2:W1.cell? ⟨w.heap.size,0,none⟩=some (.string name):=qh hb;have k3:W1.cell? ⟨w.heap.size,1,none⟩=some (.string dc):=qh hb;have k4:W1.cell? ⟨w.heap.size,2,none⟩=some (.string df):=qh hb;have k5:W1.cell? ⟨w.heap.size,3,none⟩=some (.slice ua un uc):=qh hb;have k6:W1.cell? ⟨w.heap.size,4,none⟩=some (.int .i64 tie):=qh hb;have k7:W1.cell? ⟨w.heap.size,5,none⟩=some (.slice ka kn kc):=qh hb))
 go_wp2
 go_ret
 exact⟨qg (yf name nm).symm,(qe.drew).trans (hb.mono (by simp))⟩
theorem qhJ(bn bf:Nat)(s:SlV)(l:List OpD)(nm:ByteArray)(w:World)(hl:OpsAt w s l)(hbig:s.n<4611686018427387904)
 (hf:w.cell? ⟨bf,0,none⟩=some (.func (.func 142) #[] #[])) (hn:w.cell? ⟨bn,0,none⟩=some (.string nm)) :
 Calls Tryz.prog 170 #[.slice s.a s.n s.c,.func (.func 171) #[] #[.pointer (some ⟨bf,0,none⟩),.pointer (some ⟨bn,0,none⟩)]] w fun e w'=>
  e = .returned (.int .i64 (idxP (fun x:OpD=>eqB x.name nm) l))/\Below w.heap.size w w':=by
 obtain⟨a,n,c⟩:=s
 obtain⟨hn1,hcap,hl⟩:=hl
 dsimp only at hn1 hcap hl hbig ⊢
 subst hn1
 replace hl:=Lib.hid hl
 go_enter Tryz.func170,Tryz.ntmps170
 go_wp2
 go_loopw [8] (fun i wr=>∃k:Nat,k<=l.length/\i = .int .i64 k/\qN (fun x:OpD=>eqB x.name nm) l k/\Below w.heap.size w wr) (fun i _=>l.length-(intOf i).toNat)
 case atStart=>exact⟨0,Nat.zero_le _,rfl,qN.zero _ _,Below.refl _ _⟩
 case round=>
  obtain⟨k,hk,rfl,hY,hB⟩:=hrel
  replace hY:=Lib.hid hY
  have k0:(0:Int)<=k:=Int.natCast_nonneg _
  by_cases hlt:k<l.length
  ·obtain⟨x,hx⟩:∃x,l[k]?=some x:=⟨l[k],by rw[List.getElem?_eq_getElem hlt]⟩
   obtain⟨b,o,rfl,hx0⟩:=hl.out k x hx
   obtain⟨u,v,hc0,hc1,hc2,hc3,hc4,hc5,_⟩:=hx0
   replace hc0:=cell_below hB hc0
   replace hc1:=cell_below hB hc1
   replace hc2:=cell_below hB hc2
   replace hc3:=cell_below hB hc3
   replace hc4:=cell_below hB hc4
   replace hc5:=cell_below hB hc5
   have hi:IntKind.i64.wrap ((k:Int)+1)=k+1:=IntWalk.i64_in _ (by omega)
   have k1:(k:Int)<l.length:=by omega
   have C:=fun h1 h2=>qhg bn bf x.name x.d.cls x.d.fix u.a u.n u.c x.tie v.a v.n v.c nm wr h1 h2
   replace C:=C (cell_below hB hf) (cell_below hB hn)
   replace hx:=Lib.hid hx
   clear hf hn
   by_cases hp:eqB x.name nm=true
   ·rw[hp] at C
    replace hp:=Lib.hid hp
    go_wp2_with (go_at_call 171;refine C.mono ?_;clear C;rintro e W1 ⟨rfl,hb⟩)
    go_ret
    exact⟨qp (hY.out.hit hx.out hp.out).symm,hB.trans (hb.mono hB.size)⟩
   ·have hp':eqB x.name nm=false:=by simpa using hp
    rw[hp'] at C
    replace hp':=Lib.hid hp'
    clear hp
    go_wp2_with (go_at_call 171;refine C.mono ?_;clear C;rintro e W1 ⟨rfl,hb⟩)
    exact⟨⟨k+1,by omega,by go_num,hY.out.succ hx.out hp'.out,hB.trans (hb.mono hB.size)⟩,by simp[intOf];omega⟩
  ·clear hf hn
   go_wp2_with fail
   go_ret
   exact⟨qp (hY.out.miss (by omega)).symm,hB⟩
theorem qeE(s:SlV)(l:List OpD)(nm:ByteArray)(w:World)(hl:OpsAt w s l)(hbig:s.n<4611686018427387904) :
 Calls Tryz.prog 141 #[.slice s.a s.n s.c,.string nm,.func (.func 142) #[] #[]] w fun e w'=>
  e = .returned (.int .i64 (idxP (fun x:OpD=>eqB x.name nm) l))/\Below w.heap.size w w':=by
 have hB:Below w.heap.size w ((w.alloc (.cells #[.string nm] 9)).alloc (.cells #[.func (.func 142) #[] #[]] 165)):=qe.alloc (by simp) _
 have C:=qhJ w.heap.size (w.heap.size+1) s l nm ((w.alloc (.cells #[.string nm] 9)).alloc (.cells #[.func (.func 142) #[] #[]] 165)) (hl.below hB) hbig
  (by have:=qC (w.alloc (.cells #[.string nm] 9)) #[.func (.func 142) #[] #[]] 165 (j:=0) rfl
      rw[World.size_alloc] at this;exact this)
  (qf _ (qC w #[.string nm] 9 (j:=0) rfl))
 replace hB:=Lib.hid hB
 clear hl
 generalize idxP (fun x:OpD=>eqB x.name nm) l=z at C ⊢
 go_enter Tryz.func141,Tryz.ntmps141
 go_wp2_with (go_at_call 170;refine C.mono ?_;clear C;rintro e W1 ⟨rfl,hb⟩)
 go_ret
 exact⟨rfl,hB.out.trans (hb.mono hB.out.size)⟩
theorem qj{W:World}{base base':Nat}{e:TypeId}{size:Nat}{v:Value}{n:Nat}{xs:List Value}(h:W.ownsRow base e size v n xs)(hb:base'<=base):W.ownsRow base' e size v n xs:=
 ⟨h.1,h.2.elim .inl (fun⟨g,cap,cur,a,b,r⟩=>.inr ⟨g,cap,cur,a,Nat.le_trans hb b,r⟩)⟩
def IntsR(W:World)(s:SlV)(l:List Int):Prop:=W.ownsRow 0 3 1 s.v l.length (l.map (Value.int .i64))
theorem IntsR.at_{W:World}{s:SlV}{l:List Int}(h:IntsR W s l):IntsAt W s l:=IntsAt.of_row h rfl
theorem IntsR.below{W W':World}{s:SlV}{l:List Int}(h:IntsR W s l)(hb:Below W.heap.size W W'):IntsR W' s l:=qb h hb
theorem IntsR.nil(W:World):IntsR W ⟨none,0,0⟩ []:=World.ownsRow_nil _ _ _ _
theorem IntsR.len{W:World}{s:SlV}{l:List Int}(h:IntsR W s l):s.n=l.length:=h.at_.1
theorem qan(b o j:Nat):(⟨b,o,none⟩:Addr).add j=⟨b,o+j,none⟩:=by
 unfold Addr.add;split <;> simp_all
def XJ(w:World)(l:List Int)(e:Ending)(w':World):Prop:=∃s:SlV,e = .returned (.slice s.a s.n s.c)/\w'.ownsRow w.heap.size 3 1 s.v l.length (l.map (Value.int .i64))/\Below w.heap.size w w'
theorem xm(s:SlV)(l:List Int)(w:World)(hl:IntsAt w s l)(hbig:s.n<=100000)(hnil:s.a=none->s.c=0) :
 Calls Tryz.prog 46 #[.slice s.a s.n s.c] w (XJ w l):=by
 obtain⟨a,n,c⟩:=s
 obtain⟨hn1,hcap,hl⟩:=hl
 dsimp only at hn1 hcap hl hbig hnil ⊢
 subst hn1
 have q22:∀ (w:World) (a:Option Addr) (n c n' c':Nat),(binOp .eql 41 (.slice a n c) (.slice none n' c')).run Tryz.prog w = .ok (.bool a.isNone) w:=fun w a n c n' c'=>Lib.run_eql_slice_nil w _ _ a n c n' c' Tryz.underlying41
 cases a with
 |none=>
  have hc:=hnil rfl
  subst hc
  have hl0:l = []:=List.length_eq_zero_iff.1 (by omega)
  subst hl0
  clear hl
  go_enter Tryz.func46,Tryz.ntmps46
  go_wp2
  go_ret
  exact⟨⟨none,0,0⟩,rfl,World.ownsRow_nil _ _ _ _,Below.refl _ _⟩
 |some ad=>
  have hl2:∀ (j:Nat) u,(l.map (Value.int .i64))[j]?=some u->w.cell? (ad.add j)=some u:=fun j u hj=>by
   rw[List.getElem?_map] at hj
   cases hx:l[j]? with
   | none=>rw[hx] at hj;cases hj
   |some x=>
    rw[hx] at hj;cases hj
    obtain⟨b,o,h1,h2⟩:=hl j x hx
    cases h1
    rw[qan]
    exact h2
  have hl3:=Lib.hid hl2
  obtain⟨i0,hi,hz0,hz1,hz2⟩:=info_parts Tryz.infoInt
  clear hl hl2 hnil
  go_enter Tryz.func46,Tryz.ntmps46
  go_wp2_with (at_builtin;refine wpList_append_own _ rfl _ _ 41 rfl w.heap.size 3 i0 _ 1 8 Tryz.underlying41 hi hz0 hz1 hz2 rfl (by decide) _ _ _ rfl (World.ownsRow_made w #[] 0 (Nat.le_refl _) (Nat.zero_le _) (by simp)) ad l.length c (l.map (Value.int .i64)) rfl ?qc1 ?qc2 ?qc3 ?qc4 ?qc5 ?qc6 ?_)
  case qc1=>simp
  case qc2=>
   intro j u hj
   exact qf _ (hl3.out j u hj)
  case qc3=>intro u hu;obtain⟨x,_,rfl⟩:=List.mem_map.1 hu;rfl
  case qc4=>unfold maxLen;omega
  case qc5=>omega
  case qc6=>simp
  intro v' w1 hown hgrow hnil
  have hown':w1.ownsRow w.heap.size 3 1 v' l.length (l.map (Value.int .i64)):=by simpa using hown
  obtain⟨a',c',rfl⟩:=qk hown'
  have hB:Below w.heap.size w w1:=((Below.refl _ w).alloc (Nat.le_refl _) _).grown hgrow (by simp) (by intro k hk;simp[Value.ownBlock] at hk;omega)
  clear hown hgrow hnil
  go_wp2
  go_ret
  exact⟨⟨a',l.length,c'⟩,rfl,hown',hB⟩
theorem Tryz.infoSl:(Tryz.prog.info? 41).map (fun i=>(i.zero,i.size,i.bytes))=some (some (.slice none 0 0),1,24):=by kernel_rfl
def zA(W:World)(s:SlV)(l:List SlV):Prop:=
 s.n=l.length/\s.n<=s.c/\∀ (j:Nat) x,l[j]?=some x->∃b o,s.a=some ⟨b,o,none⟩/\W.cell? ⟨b,o+j,none⟩=some (.slice x.a x.n x.c)
theorem zA.below{W W':World}{s:SlV}{l:List SlV}(h:zA W s l)(hb:Below W.heap.size W W'):zA W' s l:=
 ⟨h.1,h.2.1,fun j x hj=>by obtain⟨b,o,h1,h2⟩:=h.2.2 j x hj;exact⟨b,o,h1,cell_below hb h2⟩⟩
theorem zA.of_row{W:World}{base n:Nat}{e:TypeId}{s:SlV}{l:List SlV}(h:W.ownsRow base e 1 s.v n (l.map SlV.v))(hn:n=l.length):zA W s l:=by
 rcases h.2 with⟨h1,h2⟩|⟨g,cap,cur,h1,h2,h3,h4,_⟩
 ·unfold SlV.v at h1
  injection h1 with e1 e2 e3
  have hl:l = []:=List.length_eq_zero_iff.1 (by omega)
  subst hl
  exact⟨by simp;omega,by omega,fun j x hj=>by simp at hj⟩
 ·unfold SlV.v at h1
  injection h1 with e1 e2 e3
  refine⟨by omega,by omega,fun j x hj=>⟨g,0,e1,?_⟩⟩
  rw[Nat.zero_add]
  have hv:s.v = .slice (some ⟨g,0,none⟩) s.n s.c:=by unfold SlV.v;rw[e1]
  rw[hv] at h
  exact qi h (by rw[List.getElem?_map,hj];rfl)
def CloneLPost(w:World)(l:List SlV)(e:Ending)(w':World):Prop:=∃s:SlV,e = .returned (.slice s.a s.n s.c)/\w'.ownsRow w.heap.size 41 1 s.v l.length (l.map SlV.v)/\Below w.heap.size w w'
theorem qbK(s:SlV)(l:List SlV)(w:World)(hl:zA w s l)(hbig:s.n<=100000)(hnil:s.a=none->s.c=0) :
 Calls Tryz.prog 179 #[.slice s.a s.n s.c] w (CloneLPost w l):=by
 obtain⟨a,n,c⟩:=s
 obtain⟨hn1,hcap,hl⟩:=hl
 dsimp only at hn1 hcap hl hbig hnil ⊢
 subst hn1
 have q22:∀ (w:World) (a:Option Addr) (n c n' c':Nat),(binOp .eql 38 (.slice a n c) (.slice none n' c')).run Tryz.prog w = .ok (.bool a.isNone) w:=fun w a n c n' c'=>Lib.run_eql_slice_nil w _ _ a n c n' c' Tryz.underlying38
 cases a with
 |none=>
  have hc:=hnil rfl
  subst hc
  have hl0:l = []:=List.length_eq_zero_iff.1 (by omega)
  subst hl0
  clear hl
  go_enter Tryz.func179,Tryz.ntmps179
  go_wp2
  go_ret
  exact⟨⟨none,0,0⟩,rfl,World.ownsRow_nil _ _ _ _,Below.refl _ _⟩
 |some ad=>
  have hl2:∀ (j:Nat) u,(l.map SlV.v)[j]?=some u->w.cell? (ad.add j)=some u:=fun j u hj=>by
   rw[List.getElem?_map] at hj
   cases hx:l[j]? with
   | none=>rw[hx] at hj;cases hj
   |some x=>
    rw[hx] at hj;cases hj
    obtain⟨b,o,h1,h2⟩:=hl j x hx
    cases h1
    rw[qan]
    exact h2
  have hl3:=Lib.hid hl2
  obtain⟨i0,hi,hz0,hz1,hz2⟩:=info_parts Tryz.infoSl
  clear hl hl2 hnil
  go_enter Tryz.func179,Tryz.ntmps179
  go_wp2_with (at_builtin;refine wpList_append_own _ rfl _ _ 38 rfl w.heap.size 41 i0 _ 1 24 Tryz.underlying38 hi hz0 hz1 hz2 rfl (by decide) _ _ _ rfl (World.ownsRow_made w #[] 0 (Nat.le_refl _) (Nat.zero_le _) (by simp)) ad l.length c (l.map SlV.v) rfl ?qc1 ?qc2 ?qc3 ?qc4 ?qc5 ?qc6 ?_)
  case qc1=>simp
  case qc2=>
   intro j u hj
   exact qf _ (hl3.out j u hj)
  case qc3=>intro u hu;obtain⟨x,_,rfl⟩:=List.mem_map.1 hu;rfl
  case qc4=>unfold maxLen;omega
  case qc5=>omega
  case qc6=>simp
  intro v' w1 hown hgrow hnil
  have hown':w1.ownsRow w.heap.size 41 1 v' l.length (l.map SlV.v):=by simpa using hown
  obtain⟨a',c',rfl⟩:=qk hown'
  have hB:Below w.heap.size w w1:=((Below.refl _ w).alloc (Nat.le_refl _) _).grown hgrow (by simp) (by intro k hk;simp[Value.ownBlock] at hk;omega)
  clear hown hgrow hnil
  go_wp2
  go_ret
  exact⟨⟨a',l.length,c'⟩,rfl,hown',hB⟩
theorem Cells.setMany{b:Nat}{t:TypeId} : ∀ (vs:List Value) (o:Nat) (W:World) (cs:Array Value),Cells W b t cs->∃cs',Cells (W.setCells b o vs) b t cs'/\cs'.size=cs.size/\∀j,j<o->cs'[j]?=cs[j]?
 | [],_,_,cs,h=>⟨cs,h,rfl,fun _ _=>rfl⟩
 |v::vs,o,W,cs,h=>by
  obtain⟨cs',h1,h2,h3⟩:=Cells.setMany vs (o+1) (W.setCell ⟨b,o,none⟩ v) _ (h.set (j:=o) v)
  refine⟨cs',h1,by rw[h2];simp,fun j hj=>?_⟩
  rw[h3 j (by omega),Array.getElem?_setIfInBounds_ne (by omega)]
theorem Qx{B b:Nat}{a:World}(hb:B<=b):∀ (vs:List Value) (o:Nat) (w:World),Below B a w->Below B a (w.setCells b o vs)
 | [],_,_,h=>h
 | v::vs,o,_,h=>Qx hb vs (o+1) _ (h.setCell (p:=⟨b,o,none⟩) hb v)
structure yU(l:List Int)(p:Int->Bool)(cur0:Array Value)(i j:Nat)(cur:Array Value):Prop where
 size:cur.size=cur0.size
 lt:i<j
 le:j<=l.length
 len:((l.take j).filter fun x=>!p x).length=i
 low:∀ (t:Nat) x,((l.take j).filter fun x=>!p x)[t]?=some x->cur[t]?=some (Value.int .i64 x)
 high:∀ (t:Nat),j<=t->cur[t]?=cur0[t]?
theorem yU.skip{l:List Int}{p:Int->Bool}{cur0 cur:Array Value}{i j:Nat}{x:Int}(h:yU l p cur0 i j cur)(hx:l[j]?=some x)(hp:p x=true):yU l p cur0 i (j+1) cur:=by
 have hlt:j<l.length:=(List.getElem?_eq_some_iff.1 hx).1
 have e:(l.take (j+1)).filter (fun x=>!p x)=(l.take j).filter fun x=>!p x:=by rw[List.take_add_one,hx,List.filter_append];simp[hp]
 exact⟨h.size,by have:=h.lt;omega,by omega,by rw[e];exact h.len,by rw[e];exact h.low,fun t ht=>h.high t (by omega)⟩
theorem yU.keep{l:List Int}{p:Int->Bool}{cur0 cur:Array Value}{i j:Nat}{x:Int}(h:yU l p cur0 i j cur)(hl:l.length<=cur0.size)(hx:l[j]?=some x)(hp:p x=false):yU l p cur0 (i+1) (j+1) (cur.setIfInBounds i (.int .i64 x)):=by
 have hlt:j<l.length:=(List.getElem?_eq_some_iff.1 hx).1
 have e:(l.take (j+1)).filter (fun x=>!p x)=((l.take j).filter fun x=>!p x)++[x]:=by rw[List.take_add_one,hx,List.filter_append];simp[hp]
 have hi:=h.lt
 refine⟨by simp[h.size],by omega,by omega,by rw[e,List.length_append,h.len];rfl,fun t y hy=>?_,fun t ht=>?_⟩
 ·rw[e] at hy
  by_cases ht:t<i
  ·rw[List.getElem?_append_left (by rw[h.len];exact ht)] at hy
   rw[Array.getElem?_setIfInBounds_ne (by omega)]
   exact h.low t y hy
  ·rw[List.getElem?_append_right (by rw[h.len];omega),h.len] at hy
   have ht2:t=i:=by
    have:=(List.getElem?_eq_some_iff.1 hy).1
    simp at this;omega
   subst ht2
   rw[Nat.sub_self] at hy
   have:x=y:=by simpa using hy
   subst this
   rw[Array.getElem?_setIfInBounds_self_of_lt (by rw[h.size];omega)]
 ·rw[Array.getElem?_setIfInBounds_ne (by omega)]
  exact h.high t (by omega)
def DelPost(base:Nat)(w:World)(l:List Int)(p:Int->Bool)(e:Ending)(w':World):Prop:=
 ∃s:SlV,e = .returned (.slice s.a s.n s.c)/\w'.ownsRow base 3 1 s.v (l.filter fun x=>!p x).length ((l.filter fun x=>!p x).map (Value.int .i64))/\Below base w w'
theorem XK(base g:Nat)(lb:Array Value)(p:Int->Bool)(eg:∀args w,(callFunc g args).run Tryz.prog w = .ok (.enter g args) w)(s:SlV)(l:List Int)(w:World)(hl:w.ownsRow base 3 1 s.v l.length (l.map (Value.int .i64)))(hbig:l.length<=100000)(hbase:base<=w.heap.size)
 (hp:∀x,x∈l->∀W,Below base w W->Calls Tryz.prog g (#[.int .i64 x]++lb) W fun e w'=>e = .returned (.bool (p x))/\Below W.heap.size W w') :
 Calls Tryz.prog 177 #[.slice s.a s.n s.c,.func (.func g) #[] lb] w (DelPost base w l p):=by
 have hIF:=qeC g lb p eg s l w (IntsAt.of_row hl rfl) (by have:=(IntsAt.of_row hl rfl).1;omega) (fun x hx W hb=>hp x hx W (hb.mono hbase))
 have hn:=(IntsAt.of_row hl rfl).1
 rcases idxP_cases p l with⟨e1,hno⟩|⟨k0,hk0,e1,hyes⟩
 ·
   rw[e1] at hIF
   have hfil:l.filter (fun x=>!p x)=l:=List.filter_eq_self.2 fun x hx=>by simp[hno x hx]
   have hP:∀W,Below w.heap.size w W->DelPost base w l p (.returned (.slice s.a s.n s.c)) W:=fun W hb=>⟨s,rfl,by rw[hfil];exact qb hl hb,hb.mono hbase⟩
   replace hP:=Lib.hid hP
   clear hl hp hno hfil e1 hn
   go_enter Tryz.func177,Tryz.ntmps177
   go_wp2_with (go_at_call 205;refine hIF.mono ?_;clear hIF;rintro e W1 ⟨rfl,hb⟩)
   go_ret
   exact hP.out _ hb
 ·obtain⟨a,n,c⟩:=s
  dsimp only at hn
  subst hn
  rcases hl.2 with⟨_,h2⟩|⟨B,cap,cur0,h1,hbB,hBc,hcap,hmax,hsz,htk⟩
  ·omega
  ·unfold SlV.v at h1
   injection h1 with ea _ ec
   dsimp only at ea ec
   subst ea ec
   rw[e1] at hIF
   have hC0:Cells w B 3 cur0:=hBc
   have hlc:l.length<=cur0.size:=by omega
   have hcur:∀ (t:Nat) x,l[t]?=some x->cur0[t]?=some (.int .i64 x):=fun t x hx=>by
    have:(l.map (Value.int .i64))[t]?=some (.int .i64 x):=by rw[List.getElem?_map,hx];rfl
    rw[←htk,List.getElem?_take] at this
    split at this
    ·simpa using this
    ·cases this
   have hfirst:∀j,j<k0->∀x,l[j]?=some x->p x=false:=by
    unfold idxP at e1
    cases hf:l.findIdx? p with
    | none=>rw[hf] at e1;simp at e1
    |some k=>
     rw[hf] at e1
     have hk:k=k0:=by have:(k:Int)=k0:=e1;omega
     subst hk
     obtain⟨_,_,hno⟩:=List.findIdx?_eq_some_iff_getElem.1 hf
     intro j hj x hx
     have:=hno j hj
     rw[(List.getElem?_eq_some_iff.1 hx).2] at this
     simpa using this
   have hstart:yU l p cur0 k0 (k0+1) cur0:=by
    have e0:(l.take k0).filter (fun x=>!p x)=l.take k0:=List.filter_eq_self.2 fun x hx=>by
     obtain⟨j,hj⟩:=List.getElem?_of_mem hx
     rw[List.getElem?_take] at hj
     split at hj
     ·simp[hfirst j (by assumption) x hj]
     ·cases hj
    have e2:(l.take (k0+1)).filter (fun x=>!p x)=l.take k0:=by
     rw[List.take_add_one,List.getElem?_eq_getElem hk0,List.filter_append,e0];simp[hyes]
    refine⟨rfl,by omega,by omega,by rw[e2];simp;omega,fun t x hx=>?_,fun _ _=>rfl⟩
    rw[e2,List.getElem?_take] at hx
    split at hx
    ·exact hcur t x hx
    ·cases hx
   have hp2:=Lib.hid hp
   have hc2:=Lib.hid hcur
   replace hstart:=Lib.hid hstart
   have hl0:(0:Int)<=l.length:=Int.natCast_nonneg _
   have hne1:((k0:Int) == -1)=false:=beq_eq_false_iff_ne.2 (by omega)
   have hk0':IntKind.i64.wrap ((k0:Int)+1)=k0+1:=IntWalk.i64_in _ (by omega)
   clear hl hp hcur hfirst e1 hyes htk hBc
   go_enter Tryz.func177,Tryz.ntmps177
   go_wp2_with (go_at_call 205;refine hIF.mono ?_;clear hIF;rintro e W1 ⟨rfl,hb⟩)
   clear hne1 hk0'
   go_loopw [5,6] (fun s5 s6 wr=>∃ (i j:Nat) (cur:Array Value),s5 = .int .i64 i/\s6 = .int .i64 j/\Cells wr B 3 cur/\yU l p cur0 i j cur/\Below base w wr) (fun _ s6 _=>l.length-(intOf s6).toNat)
   case atStart=>exact⟨k0,k0+1,cur0,rfl,by go_num,hC0.below hb hC0.lt,hstart.out,hb.mono hbase⟩
   case round=>
    obtain⟨i,j,cur,rfl,rfl,hC,inv,hB⟩:=hrel
    have hij:=inv.lt
    have hjl:=inv.le
    have hsz2:=inv.size
    have i0:(0:Int)<=i:=Int.natCast_nonneg _
    have j0:(0:Int)<=j:=Int.natCast_nonneg _
    have i1:(i:Int)<l.length:=by omega
    replace inv:=Lib.hid inv
    by_cases hlt:j<l.length
    ·obtain⟨x,hx⟩:∃x,l[j]?=some x:=⟨l[j],by rw[List.getElem?_eq_getElem hlt]⟩
     have j1:(j:Int)<l.length:=by omega
     have hi:IntKind.i64.wrap ((i:Int)+1)=i+1:=IntWalk.i64_in _ (by omega)
     have hj:IntKind.i64.wrap ((j:Int)+1)=j+1:=IntWalk.i64_in _ (by omega)
     have cj:=hC.cell (j:=j) (by rw[inv.out.high j (Nat.le_refl _)];exact hc2.out j x hx)
     obtain⟨old,ho⟩:∃v,cur[i]?=some v:=⟨cur[i]'(by omega),by rw[Array.getElem?_eq_getElem (by omega)]⟩
     have K:=hp2.out x (List.mem_of_getElem? hx) wr hB
     have hlt2:=hC.lt
     have hNx:∀W1,Below wr.heap.size wr W1->(W1.cell? ⟨B,i,none⟩=some old/\W1.frozen? ⟨B,i,none⟩=false)/\Cells W1 B 3 cur/\Cells (W1.setCell ⟨B,i,none⟩ (.int .i64 x)) B 3 (cur.setIfInBounds i (.int .i64 x))/\Below base w W1/\Below base w (W1.setCell ⟨B,i,none⟩ (.int .i64 x)):=fun W1 hb1=>by
      have hC1:=hC.below hb1 hlt2
      have hB1:=hB.trans (hb1.mono (Nat.le_trans hbase hB.size))
      exact⟨⟨hC1.cell ho,hC1.frozen i⟩,hC1,hC1.set (j:=i) _,hB1,hB1.setCell (p:=⟨B,i,none⟩) hbB _⟩
     replace hx:=Lib.hid hx
     clear hC ho
     by_cases hq:p x=true
     ·rw[hq] at K
      replace hq:=Lib.hid hq
      go_wp2_with (go_at_fn g;refine K.mono ?_;clear K;rintro e W2 ⟨rfl,hb2⟩;obtain⟨_,m1,_,m3,_⟩:=hNx W2 hb2;clear hNx)
      exact⟨⟨i,j+1,cur,rfl,by go_num,m1,inv.out.skip hx.out hq.out,m3⟩,by simp[intOf];omega⟩
     ·have hq':p x=false:=by simpa using hq
      rw[hq'] at K
      replace hq':=Lib.hid hq'
      clear hq
      go_wp2_with (go_at_fn g;refine K.mono ?_;clear K;rintro e W2 ⟨rfl,hb2⟩;obtain⟨⟨m0,m0'⟩,m1,m2,m3,m4⟩:=hNx W2 hb2;clear hNx)
      exact⟨⟨i+1,j+1,_,by go_num,by go_num,m2,inv.out.keep hlc hx.out hq'.out,m4⟩,by simp[intOf];omega⟩
    ·obtain rfl:j=l.length:=by omega
     have hcl:∀ty,(Builtin.clear_ #[41] ty #[.slice (some ⟨B,i,none⟩) (l.length-i) (c-i)]).run Tryz.prog wr = .ok (.tuple #[]) (wr.setCells B i (List.replicate (l.length-i) (.int .i64 0))):=
      fun ty=>Lib.run_clear_slice wr _ _ ty _ Tryz.underlying41 (fun _=>by kernel_rfl) rfl rfl B i _ _ (by omega)
       (fun t ht=>by rw[hC.cell (j:=i+t) (v:=cur[i+t]'(by omega)) (Array.getElem?_eq_getElem (by omega))];rfl) (fun t _=>hC.frozen _)
     have hfin:DelPost base w l p (.returned (.slice (some ⟨B,0,none⟩) i c)) (wr.setCells B i (List.replicate (l.length-i) (.int .i64 0))):=by
      obtain⟨cs',h1,h2,h3⟩:=hC.setMany (List.replicate (l.length-i) (.int .i64 0)) i wr cur
      have hlen:=inv.out.len
      rw[List.take_length] at hlen
      refine⟨⟨some ⟨B,0,none⟩,i,c⟩,rfl,?_,Qx hbB _ _ _ hB⟩
      rw[hlen]
      refine⟨by simp[hlen],.inr ⟨B,c,cs',rfl,hbB,h1,by omega,hmax,by omega,?_⟩⟩
      apply List.ext_getElem?
      intro t
      rw[Nat.mul_one,List.getElem?_take]
      split
      ·rename_i ht
       have:=inv.out.low t
       rw[List.take_length] at this
       rw[List.getElem?_map]
       obtain⟨y,hy⟩:∃y,(l.filter fun x=>!p x)[t]?=some y:=⟨_,List.getElem?_eq_getElem (by omega)⟩
       rw[hy]
       have h4:=this y hy
       rw[←h3 t ht] at h4
       simpa using h4
      ·rename_i ht
       rw[List.getElem?_eq_none (by simp;omega)]
     replace hfin:=Lib.hid hfin
     have hltz:¬ (l.length:Int)<l.length:=by omega
     have i2:(i:Int)<=l.length:=by omega
     have i3:(i:Int)<=c:=by omega
     clear hC
     go_wp2
     go_ret
     exact hfin.out
theorem qdt(bC bl C:Nat)(c:CV)(ps:List Plc)(x h:Int)(s:SlV)(tl:List Int)(w:World)(hbC:w.cell? ⟨bC,0,none⟩=some (.pointer (some ⟨C,0,none⟩)))(hbl:w.cell? ⟨bl,0,none⟩=some (.slice s.a s.n s.c))(hC:ChkAt w C c)(hP:qP w c ps)
 (hl:IntsAt w s (h::tl)) (hbig:s.n<4611686018427387904) (hx:Num ps x) (hh:Num ps h) :
 Calls Tryz.prog 169 #[.int .i64 x,.pointer (some ⟨bC,0,none⟩),.pointer (some ⟨bl,0,none⟩)] w fun e w'=>e = .returned (.bool (decide ((plc ps x).2.2≠(plc ps h).2.2)))/\Below w.heap.size w w':=by
 obtain⟨b,o,ha,_,_,p2⟩:=hP.at_ _ _ hx.get
 obtain⟨b',o',ha',_,_,q2⟩:=hP.at_ _ _ hh.get
 obtain⟨bs,os,has,cs0⟩:=hl.2.2 0 h rfl
 have hlen:=hP.len
 have hsn:0<s.n:=by have:=hl.1;simp at this;omega
 obtain⟨i,rfl⟩:∃i:Nat,x=i:=⟨x.toNat,by have:=hx.1;omega⟩
 obtain⟨j,rfl⟩:∃j:Nat,h=j:=⟨h.toNat,by have:=hh.1;omega⟩
 have i0:(0:Int)<=i:=Int.natCast_nonneg _
 have j0:(0:Int)<=j:=Int.natCast_nonneg _
 have i1:i<c.places.n:=by have:=hx.2;omega
 have j1:j<c.places.n:=by have:=hh.2;omega
 have i2:(i:Int)<c.places.n:=by omega
 have j2:(j:Int)<c.places.n:=by omega
 have s2:(0:Int)<s.n:=by omega
 have c9:=hC.cell (j:=9) (v:=.slice c.places.a c.places.n c.places.c) rfl
 rw[ha] at ha'
 cases ha'
 rw[ha] at c9
 rw[has] at hbl
 simp only[Int.toNat_natCast] at p2 q2
 rw[Nat.add_zero] at cs0
 generalize(plc ps (i:Int)).2.2=u at p2 ⊢
 generalize(plc ps (j:Int)).2.2=v at q2 ⊢
 generalize c.places.n=pn at *
 generalize c.places.c=pc at *
 generalize s.n=sn at *
 generalize s.c=sc at *
 clear ha hP hC hx hh hlen hl has
 go_enter Tryz.func169,Tryz.ntmps169
 go_wp2
 go_quiet (fail)
 go_wp2
 go_ret
 exact⟨qg (by rw[Bool.eq_iff_iff];simp),below_drewN (Below.refl _ _) _⟩
theorem yh(C:Nat)(c:CV)(ps:List Plc)(s:SlV)(l:List Int)(w:World)(hC:ChkAt w C c)(hP:qP w c ps)(hl:IntsAt w s l)(hbig:s.n<4611686018427387904)(hx:∀x,x∈l->Num ps x) :
 Calls Tryz.prog 139 #[.pointer (some ⟨C,0,none⟩),.slice s.a s.n s.c] w fun e w'=>e = .returned (.bool (oneWidthB ps l))/\Below w.heap.size w w':=by
 have hB:Below w.heap.size w ((w.alloc (.cells #[.pointer (some ⟨C,0,none⟩)] 158)).alloc (.cells #[.slice s.a s.n s.c] 41)):=qe.alloc (by simp) _
 have h1:=qf (.cells #[.slice s.a s.n s.c] 41) (qC w #[.pointer (some ⟨C,0,none⟩)] 158 (j:=0) rfl)
 have h2:=qC (w.alloc (.cells #[.pointer (some ⟨C,0,none⟩)] 158)) #[.slice s.a s.n s.c] 41 (j:=0) rfl
 rw[World.size_alloc] at h2
 have K:=yH 169 #[.pointer (some ⟨w.heap.size,0,none⟩),.pointer (some ⟨w.heap.size+1,0,none⟩)] (fun x=>decide ((plc ps x).2.2≠(plc ps (l.headD 0)).2.2)) (enters_of Tryz.func169 (by kernel_rfl) rfl) s l _ (hl.below hB) hbig
  (fun x hm W hb=>by
    cases l with
    | nil=>cases hm
    |cons h tl=>
     exact qdt w.heap.size (w.heap.size+1) C c ps x h s tl W ((hb.cell (p:=⟨w.heap.size,0,none⟩) (by simp;omega)).trans h1) ((hb.cell (p:=⟨w.heap.size+1,0,none⟩) (by simp)).trans h2) ((hC.below hB hC.lt).below hb (by have:=hC.lt;simp;omega)) ((hP.below hB).below hb) ((hl.below hB).below hb) hbig (hx x hm) (hx h (by simp)))
 have hq:(!(l.any fun x=>decide ((plc ps x).2.2≠(plc ps (l.headD 0)).2.2)))=oneWidthB ps l:=rfl
 generalize(l.any fun x=>decide ((plc ps x).2.2≠(plc ps (l.headD 0)).2.2))=q at K hq
 rw[←hq]
 replace hB:=Lib.hid hB
 clear h1 h2 hC hP hl hx hq
 go_enter Tryz.func139,Tryz.ntmps139
 go_wp2_with (go_at_call 168;refine K.mono ?_;clear K;rintro e W1 ⟨rfl,hb⟩)
 go_ret
 exact⟨rfl,hB.out.trans (hb.mono hB.out.size)⟩
theorem jb(s:ByteArray)(w:World):Calls Tryz.prog 140 #[.string s] w fun e w'=>e = .returned (.int .i64 (arityN s))/\w=w':=by
 by_cases h2:∃x,x∈opNames2/\s.toList=x
 ·obtain⟨x,hx,hs⟩:=h2
  have hr:Hid (arityN s=2):=Lib.hid (by unfold arityN;rw[hs,if_pos (by simpa using hx)])
  simp only[opNames2,List.mem_cons,List.not_mem_nil,or_false] at hx
  rcases hx with rfl|rfl|rfl|rfl|rfl|rfl|rfl|rfl|rfl|rfl|rfl|rfl
  all_goals
   go_enter Tryz.func140,Tryz.ntmps140
   go_wp2
   go_ret
   exact⟨qp (by rw[hr.out];rfl),rfl⟩
 ·have hn:∀x,x∈opNames2->(s.toList==x)=false:=fun x hx=>by
   simp only[beq_eq_false_iff_ne,ne_eq]
   exact fun e=>h2 ⟨x,hx,e⟩
  have g0:=hn [97,100,100] (by decide)
  have g1:=hn [115,117,98] (by decide)
  have g2:=hn [109,117,108] (by decide)
  have g3:=hn [97,110,100] (by decide)
  have g4:=hn [111,114] (by decide)
  have g5:=hn [120,111,114] (by decide)
  have g6:=hn [115,104,108] (by decide)
  have g7:=hn [115,104,114] (by decide)
  have g8:=hn [100,105,118] (by decide)
  have g9:=hn [114,101,109] (by decide)
  have g10:=hn [108,116] (by decide)
  have g11:=hn [101,113] (by decide)
  have hc:opNames2.contains s.toList=false:=by
   cases h:opNames2.contains s.toList with
   | false=>rfl
   | true=>exact absurd ⟨s.toList,by simpa using h,rfl⟩ h2
  by_cases h1:(s.toList==[110,111,116])=true
  ·have hr:Hid (arityN s=1):=Lib.hid (by unfold arityN;rw[hc,h1];rfl)
   clear hn h2 hc
   go_enter Tryz.func140,Tryz.ntmps140
   go_wp2
   go_ret
   exact⟨qp (by rw[hr.out];rfl),rfl⟩
  ·have h1':(s.toList==[110,111,116])=false:=by simpa using h1
   have hr:Hid (arityN s=0):=Lib.hid (by unfold arityN;rw[hc,h1'];rfl)
   clear hn h2 hc h1
   go_enter Tryz.func140,Tryz.ntmps140
   go_wp2
   go_ret
   exact⟨qp (by rw[hr.out];rfl),rfl⟩
theorem qhh(a b c d:ByteArray)(w:World):(binOp .eql 51 (.agg #[.string a,.string b]) (.agg #[.string c,.string d])).run Tryz.prog w = .ok (.bool (eqB a c&&eqB b d)) w:=by
 have u9:=Tryz.underlying9
 have a9:=Tryz.isAgg9
 have z9:=Tryz.sizeOf9
 have hS:Tryz.prog.underlying 51=some (.struct (Tryz.prog.fieldsOf 51)):=by kernel_rfl
 have hp:Tryz.prog.stoodInHeld 51=false:=by kernel_rfl
 rw[run_eql_struct,show(10000:Nat)=9999+1 from rfl,run_equalIn_agg w 9999 51 _ _ hS hp]
 simp only[Program.fieldsOf,Tryz.underlying51]
 rw[yf,yf]
 go_simp
 cases h1:(a.toList==c.toList) <;> cases h2:(b.toList==d.toList) <;> simp_all
theorem xU(o:OpD)(u k:SlV)(w:World)(hu:qW w u o.uses)(hbig:u.n<4611686018427387904) :
 Calls Tryz.prog 172 #[.agg #[.string o.name,.string o.d.cls,.string o.d.fix,.slice u.a u.n u.c,.int .i64 o.tie,.slice k.a k.n k.c]] w fun e w'=>e = .returned (.bool (zp o))/\Below w.heap.size w w':=by
 obtain⟨nm,⟨dc,df⟩,us,tie,cl⟩:=o
 obtain⟨ua,un,uc⟩:=u
 obtain⟨hn,hcap,hu⟩:=hu
 dsimp only at hn hcap hu hbig ⊢
 by_cases t1:tie = -1
 ·subst t1
  clear hu hn
  go_enter Tryz.func172,Tryz.ntmps172
  go_wp2
  go_quiet (fail)
  go_wp2
  go_ret
  exact⟨qg (by simp[zp]),below_drewN (qe) _⟩
 ·have t1':(tie == -1)=false:=by simpa using t1
  by_cases t2:0<=tie
  ·by_cases t3:tie<un
   ·obtain⟨j,rfl⟩:∃j:Nat,tie=j:=⟨tie.toNat,by omega⟩
    have hj:j<us.length:=by omega
    obtain⟨b,of,rfl,c0,c1⟩:=hu j us[j] (List.getElem?_eq_getElem hj)
    have hr:Hid (zp ⟨nm,⟨dc,df⟩,us,j,cl⟩=(eqB dc us[j].cls&&eqB df us[j].fix)):=Lib.hid (by
     unfold zp ye
     simp only[Int.toNat_natCast,List.getElem?_eq_getElem hj]
     rw[decide_eq_false t1,decide_eq_true t2,decide_eq_true (by omega:(j:Int)<us.length)];simp)
    generalize us[j].cls=xc at c0 hr
    generalize us[j].fix=xf at c1 hr
    have hE:=qhh dc df xc xf
    have j1:j<un:=by omega
    generalize(eqB dc xc&&eqB df xf)=q at hr hE
    have nb:=World.new_ne w _ c0
    clear hu hn
    go_enter Tryz.func172,Tryz.ntmps172
    go_wp2
    go_region_held3 (fun w'=>w'.cell? ⟨w.heap.size,0,none⟩=some (.string nm)/\w'.cell? ⟨w.heap.size,1,none⟩=some (.string dc)/\w'.cell? ⟨w.heap.size,2,none⟩=some (.string df)/\w'.cell? ⟨w.heap.size,3,none⟩=some (.slice (some ⟨b,of,none⟩) un uc)/\w'.cell? ⟨w.heap.size,4,none⟩=some (.int .i64 j)/\w'.cell? ⟨w.heap.size,5,none⟩=some (.slice k.a k.n k.c)/\w'.cell? ⟨b,of+j*2,none⟩=some (.string xc)/\w'.cell? ⟨b,of+j*2+1,none⟩=some (.string xf))
     (go_keep)
     (fail)
    go_wp2
    go_ret
    exact⟨qg hr.out.symm,qe.drew⟩
   ·have hr:Hid (zp ⟨nm,⟨dc,df⟩,us,tie,cl⟩=false):=Lib.hid (by
     unfold zp
     rw[decide_eq_false t1,decide_eq_false (by omega:¬ tie<us.length)];simp)
    have d3:decide (tie<(un:Int))=false:=decide_eq_false t3
    clear hu hn
    go_enter Tryz.func172,Tryz.ntmps172
    go_wp2
    go_quiet (fail)
    go_wp2
    go_ret
    exact⟨qg hr.out.symm,below_drewN (qe) _⟩
  ·have hr:Hid (zp ⟨nm,⟨dc,df⟩,us,tie,cl⟩=false):=Lib.hid (by
    unfold zp
    rw[decide_eq_false t1,decide_eq_false t2];simp)
   have d2:decide (0<=tie)=false:=decide_eq_false t2
   clear hu hn
   go_enter Tryz.func172,Tryz.ntmps172
   go_wp2
   go_quiet (fail)
   go_wp2
   go_ret
   exact⟨qg hr.out.symm,below_drewN (qe) _⟩
def qQ(W:World)(s:SlV)(ls:List (List Int)):Prop:=
 ∃vs:List SlV,vs.length=ls.length/\W.ownsRow 0 41 1 s.v ls.length (vs.map SlV.v)/\∀ (i:Nat) v l,vs[i]?=some v->ls[i]?=some l->IntsR W v l/\l.length<=1000/\(v.a=none->v.c=0)
theorem qQ.below{W W':World}{s:SlV}{ls:List (List Int)}(h:qQ W s ls)(hb:Below W.heap.size W W'):qQ W' s ls:=by
 obtain⟨vs,h1,h2,h3⟩:=h
 exact⟨vs,h1,qb h2 hb,fun i v l hv hl=>⟨(h3 i v l hv hl).1.below hb,(h3 i v l hv hl).2⟩⟩
theorem qQ.nil(W:World):qQ W ⟨none,0,0⟩ []:=⟨[],rfl,World.ownsRow_nil _ _ _ _,fun i v l hv _=>by simp at hv⟩
theorem qQ.len{W:World}{s:SlV}{ls:List (List Int)}(h:qQ W s ls):s.n=ls.length:=by
 obtain⟨vs,h1,h2,_⟩:=h
 rw[(zA.of_row h2 h1.symm).1,h1]
theorem qQ.get{W:World}{s:SlV}{ls:List (List Int)}(h:qQ W s ls){i:Nat}{l:List Int}(hl:ls[i]?=some l) :
 ∃ (b o:Nat) (v:SlV),s.a=some ⟨b,o,none⟩/\W.cell? ⟨b,o+i,none⟩=some (.slice v.a v.n v.c)/\IntsR W v l/\l.length<=1000/\(v.a=none->v.c=0)/\s.n<=s.c:=by
 obtain⟨vs,h1,h2,h3⟩:=h
 have hi:i<ls.length:=(List.getElem?_eq_some_iff.1 hl).1
 have hv:vs[i]?=some vs[i]:=List.getElem?_eq_getElem (by omega)
 have hH:=zA.of_row h2 h1.symm
 obtain⟨b,o,e1,e2⟩:=hH.2.2 i _ hv
 exact⟨b,o,vs[i],e1,e2,(h3 i _ _ hv hl).1,(h3 i _ _ hv hl).2.1,(h3 i _ _ hv hl).2.2,hH.2.1⟩
def QL(w1 w:World)(l:List Int)(e:Ending)(w':World):Prop:=
 ∃s:SlV,e = .returned (.slice s.a s.n s.c)/\Below w.heap.size w w'/\IntsR w' s l/\l.length<=1000/\(s.a=none->s.c=0)/\∀b,s.v.ownBlock=some b->b<w1.heap.size∨w.heap.size<=b
theorem YF{ns:List ByteArray}{cs:List ClassD}{o:OperD}(h:idxP (fun x:ClassD=>eqB x.name o.cls) cs = -1):choiceS ns cs o = []:=by
 unfold choiceS idxP at *
 cases hf:cs.findIdx? (fun x=>eqB x.name o.cls) with
 | none=>rfl
 | some k=>rw[hf] at h;simp at h
theorem YG{ns:List ByteArray}{cs:List ClassD}{o:OperD}{k:Nat}(h:idxP (fun x:ClassD=>eqB x.name o.cls) cs=(k:Int)) :
 k<cs.length/\choiceS ns cs o=if o.fix.toList==[] then(clsOf ns cs).getD k [] else if((clsOf ns cs).getD k []).contains (regN ns o.fix) then [regN ns o.fix] else []:=by
 unfold choiceS idxP at *
 cases hf:cs.findIdx? (fun x=>eqB x.name o.cls) with
 | none=>rw[hf] at h;simp at h
 |some k'=>
  rw[hf] at h
  have:k'=k:=by have:(k':Int)=k:=h;omega
  subst this
  exact⟨(List.findIdx?_eq_some_iff_getElem.1 hf).1,rfl⟩
theorem qdu(W:World)(x:Int):IntsR (W.alloc (.cells #[.int .i64 x] 3)) ⟨some ⟨W.heap.size,0,none⟩,1,1⟩ [x]:=
 ⟨rfl,.inr ⟨W.heap.size,1,#[.int .i64 x],rfl,Nat.zero_le _,World.alloc_heap_new W _,Nat.le_refl _,by unfold maxLen;omega,rfl,rfl⟩⟩
theorem XL(C:Nat)(c:CV)(ns:List ByteArray)(cs:List ClassD)(o:OperD)(w1 w:World)(hC:ChkAt w C c)(hN:yg w c ns)(hK:ClassesAt w c.m.classes cs)(hkb:c.m.classes.n<=64)(hL:qQ w1 c.classes (clsOf ns cs))(hw1:Below w1.heap.size w1 w) :
 Calls Tryz.prog 173 #[.pointer (some ⟨C,0,none⟩),.agg #[.string o.cls,.string o.fix]] w (QL w1 w (choiceS ns cs o)):=by
 obtain⟨oc,fx⟩:=o
 have hb0:Below w.heap.size w (w.alloc (.cells #[.string oc,.string fx] 51)):=qe
 have K1:∀W,Below w.heap.size w W->Calls Tryz.prog 134 #[.slice c.m.classes.a c.m.classes.n c.m.classes.c,.string oc,.func (.func 135) #[] #[]] W fun e w'=>
  e = .returned (.int .i64 (idxP (fun x:ClassD=>eqB x.name oc) cs))/\Below W.heap.size W w':=fun W hb=>ZU c.m.classes cs oc W (hK.below hb) (by omega)
 have c2:=hC.cell (j:=2) (v:=.slice c.m.classes.a c.m.classes.n c.m.classes.c) rfl
 have hlt:=hC.lt
 have nC:=World.new_ne w _ c2
 have hC2:=Lib.hid hC
 have hN2:=Lib.hid hN
 rcases idxP_cases (fun x:ClassD=>eqB x.name oc) cs with⟨h,_⟩|⟨k,hk,h,_⟩
 ·have hr:=Lib.hid (YF (ns:=ns) (o:=⟨oc,fx⟩) h)
  rw[h] at K1
  clear hC hN hK hL h
  go_enter Tryz.func173,Tryz.ntmps173
  go_wp2
  go_region_held3 (fun w'=>w'.cell? ⟨C,2,none⟩=some (.slice c.m.classes.a c.m.classes.n c.m.classes.c)/\w'.cell? ⟨w.heap.size,0,none⟩=some (.string oc)/\w'.cell? ⟨w.heap.size,1,none⟩=some (.string fx))
   (go_keep)
   ((go_at_call 134;refine(K1 _ hb0.drew).mono ?_;clear K1;rintro e W1 ⟨rfl,hb⟩;have k0:W1.cell? ⟨C,2,none⟩=some (.slice c.m.classes.a c.m.classes.n c.m.classes.c):=qh hb;have k1:W1.cell? ⟨w.heap.size,0,none⟩=some (.string oc):=qh hb;have k2:W1.cell? ⟨w.heap.size,1,none⟩=some (.string fx):=qh hb))
  go_wp2
  go_ret
  exact⟨⟨none,0,0⟩,rfl,hb0.drew.trans (hb.mono (by simp)),by rw[hr.out];exact IntsR.nil _,by rw[hr.out];simp,fun _=>rfl,fun b h=>by cases h⟩
 ·obtain⟨hkl,hr⟩:=YG (ns:=ns) (o:=⟨oc,fx⟩) h
  have hget:(clsOf ns cs)[k]?=some (regsL ns cs[k].regs):=by
   unfold clsOf
   rw[List.getElem?_map,List.getElem?_eq_getElem hk];rfl
  have hgd:(clsOf ns cs).getD k []=regsL ns cs[k].regs:=by rw[List.getD_eq_getElem?_getD,hget];rfl
  rw[hgd] at hr
  obtain⟨b,of,v,ha,hv,hI,hI2,hI3,hcap⟩:=hL.get hget
  have hvb:∀b,v.v.ownBlock=some b->b<w1.heap.size:=fun b hb=>by
   obtain⟨_,cur,hc⟩:=qd hI hb
   exact hc.lt
  replace hv:=cell_below hw1 hv
  replace hI:=hI.below hw1
  generalize regsL ns cs[k].regs=kl at hr hI hI2
  have hlen:=hL.len
  have hkn:k<c.classes.n:=by rw[hlen];unfold clsOf;rw[List.length_map];exact hk
  have k0:(0:Int)<=k:=Int.natCast_nonneg _
  have k1:(k:Int)<c.classes.n:=by omega
  have c10:=hC.cell (j:=10) (v:=.slice c.classes.a c.classes.n c.classes.c) rfl
  rw[ha] at c10
  rw[h] at K1
  have hlv:=World.block_lt_of_cell? _ _ hv
  have nb:=World.new_ne w _ hv
  dsimp only at hlv
  have hI':=Lib.hid hI
  clear hC hN hK hL h hgd hget hlen ha hI hkn
  by_cases hf:fx.toList = []
  ·have hr2:Hid (choiceS ns cs ⟨oc,fx⟩=kl):=Lib.hid (by rw[hr];simp[hf])
   clear hr
   go_enter Tryz.func173,Tryz.ntmps173
   go_wp2
   go_region_held3 (fun w'=>w'.cell? ⟨C,2,none⟩=some (.slice c.m.classes.a c.m.classes.n c.m.classes.c)/\w'.cell? ⟨w.heap.size,0,none⟩=some (.string oc)/\w'.cell? ⟨w.heap.size,1,none⟩=some (.string fx))
    (go_keep)
    ((go_at_call 134;refine(K1 _ hb0.drew).mono ?_;clear K1;rintro e W1 ⟨rfl,hb⟩;have k0:W1.cell? ⟨C,2,none⟩=some (.slice c.m.classes.a c.m.classes.n c.m.classes.c):=qh hb;have k1:W1.cell? ⟨w.heap.size,0,none⟩=some (.string oc):=qh hb;have k2:W1.cell? ⟨w.heap.size,1,none⟩=some (.string fx):=qh hb))
   have hB1:=hb0.drew.trans (hb.mono (by simp))
   have c10':=cell_below hB1 c10
   have hv':=cell_below hB1 hv
   go_wp2
   go_ret
   exact⟨v,rfl,hB1,by rw[hr2.out];exact hI'.out.below hB1,by rw[hr2.out];exact hI2,hI3,fun b h=>.inl (hvb b h)⟩
  ·have hf2:(!fx.toList.isEmpty)=true:=by cases hz:fx.toList with
    | nil=>exact absurd hz hf
    | cons a b=>rfl
   have hf3:fx.toList.isEmpty=false:=by simpa using hf2
   have K3:∀W,Below w.heap.size w W->Calls Tryz.prog 136 #[.pointer (some ⟨C,0,none⟩),.string fx] W fun e w'=>e = .returned (.int .i64 (regN ns fx))/\Below W.heap.size W w':=fun W hb=>Xt C c ns fx W (hC2.out.below hb hlt) (hN2.out.below hb)
   have K4:∀W,Below w.heap.size w W->Calls Tryz.prog 147 #[.slice v.a v.n v.c,.int .i64 (regN ns fx)] W fun e w'=>e = .returned (.bool (kl.contains (regN ns fx)))/\W=w':=fun W hb=>jw v kl _ W (hI'.out.below hb).at_ (by have:=hI'.out.len;omega)
   have hr2:Hid (choiceS ns cs ⟨oc,fx⟩=if kl.contains (regN ns fx) then [regN ns fx] else []):=Lib.hid (by rw[hr];simp[hf])
   clear hr
   by_cases hcn:kl.contains (regN ns fx)=true
   ·have hr3:Hid (choiceS ns cs ⟨oc,fx⟩ = [regN ns fx]):=Lib.hid (by rw[hr2.out,hcn];rfl)
    rw[hcn] at K4
    clear hcn hr2
    go_enter Tryz.func173,Tryz.ntmps173
    go_wp2
    go_region_held3 (fun w'=>w'.cell? ⟨C,2,none⟩=some (.slice c.m.classes.a c.m.classes.n c.m.classes.c)/\w'.cell? ⟨w.heap.size,0,none⟩=some (.string oc)/\w'.cell? ⟨w.heap.size,1,none⟩=some (.string fx))
     (go_keep)
     ((go_at_call 134;refine(K1 _ hb0.drew).mono ?_;clear K1;rintro e W1 ⟨rfl,hb⟩;have k0:W1.cell? ⟨C,2,none⟩=some (.slice c.m.classes.a c.m.classes.n c.m.classes.c):=qh hb;have k1:W1.cell? ⟨w.heap.size,0,none⟩=some (.string oc):=qh hb;have k2:W1.cell? ⟨w.heap.size,1,none⟩=some (.string fx):=qh hb))
    have hB1:=hb0.drew.trans (hb.mono (by simp))
    go_wp2_with (first
     |(go_at_call 136;refine(K3 _ hB1).mono ?_;clear K3;rintro e W2 ⟨rfl,hb2⟩;have hB2:=hB1.trans (hb2.mono hB1.size);have c10':=cell_below hB2 c10;have hv':=cell_below hB2 hv)
     |(go_at_call 147;refine(K4 _ hB2).mono ?_;clear K4;rintro e W3 ⟨rfl,rfl⟩))
    go_ret
    exact⟨⟨some ⟨W2.heap.size,0,none⟩,1,1⟩,rfl,hB2.alloc hB2.size _,by rw[hr3.out];exact qdu _ _,by rw[hr3.out];simp,(fun h=>by cases h),fun b h=>.inr (by cases h;exact hB2.size)⟩
   ·have hcn':kl.contains (regN ns fx)=false:=by simpa using hcn
    have hr3:Hid (choiceS ns cs ⟨oc,fx⟩ = []):=Lib.hid (by rw[hr2.out,hcn'];rfl)
    rw[hcn'] at K4
    clear hcn hcn' hr2
    go_enter Tryz.func173,Tryz.ntmps173
    go_wp2
    go_region_held3 (fun w'=>w'.cell? ⟨C,2,none⟩=some (.slice c.m.classes.a c.m.classes.n c.m.classes.c)/\w'.cell? ⟨w.heap.size,0,none⟩=some (.string oc)/\w'.cell? ⟨w.heap.size,1,none⟩=some (.string fx))
     (go_keep)
     ((go_at_call 134;refine(K1 _ hb0.drew).mono ?_;clear K1;rintro e W1 ⟨rfl,hb⟩;have k0:W1.cell? ⟨C,2,none⟩=some (.slice c.m.classes.a c.m.classes.n c.m.classes.c):=qh hb;have k1:W1.cell? ⟨w.heap.size,0,none⟩=some (.string oc):=qh hb;have k2:W1.cell? ⟨w.heap.size,1,none⟩=some (.string fx):=qh hb))
    have hB1:=hb0.drew.trans (hb.mono (by simp))
    go_wp2_with (first
     |(go_at_call 136;refine(K3 _ hB1).mono ?_;clear K3;rintro e W2 ⟨rfl,hb2⟩;have hB2:=hB1.trans (hb2.mono hB1.size);have c10':=cell_below hB2 c10;have hv':=cell_below hB2 hv)
     |(go_at_call 147;refine(K4 _ hB2).mono ?_;clear K4;rintro e W3 ⟨rfl,rfl⟩))
    go_ret
    exact⟨⟨none,0,0⟩,rfl,hB2,by rw[hr3.out];exact IntsR.nil _,by rw[hr3.out];simp,fun _=>rfl,fun b h=>by cases h⟩
end Go.Proofs.YtkoloennfejaaaaGreatDoor
