
import Derived.Test.YtomlgdnafeeeiaaGreatDoorGeoTwo
import Derived.LaidEql
import Derived.Stop.Asserts
import Derived.RowKitTokens
set_option maxHeartbeats 4000000
set_option maxRecDepth 100000
/-
 A round of a range over a function that ends in a panic: the iterator is left by it,the statement too,and what the function that holds the loop has deferred is run. And what follows: see the heads within.
-/
namespace Go.Proofs.YtomlgdnafeeeiaaGreatDoor
open Proofs.Tryz
section
open Go.RowKit
def Qh(f:FuncId)(P:Program)(c:Code)(Q:Exit->Act->World->Prop)(a:Act)(w:World):Prop:=
 ∀ (b:Frame) (k:List Item) (cs:List Frame),b.roundOf=none->b.fn=f->∃e a' w',Q e a' w'/\ArrivesIn (Machine.fenced P Fence.wide) P (lone (b.atR a (.code c::k)) cs w) b k cs e a' w'
section
variable {f:FuncId} {n:Nat} {P:Program} {Q:Exit->Act->World->Prop} {a:Act} {w:World}
theorem Qh.of{c:Code}(h:c.wpIn Fence.wide n P Q a w):Qh f P c Q a w:=fun b k cs hro _=>h b k cs hro trivial (room_wide _)
theorem Qh.seq{x y:Code}(h:Qh f P x (Exit.then (Qh f P y Q) Q) a w):Qh f P (.seq x y) Q a w:=by
 intro b k cs hro hb
 have h0:(lone (b.atR a (.code (.seq x y)::k)) cs w).fenced P Fence.wide:=fenced_wide _ _
 obtain⟨e,a₁,w₁,hq,harr⟩:=h b (.code y::k) cs hro hb
 have hpass:e ≠ .normal->ArrivesIn (Machine.fenced P Fence.wide) P (lone (b.atR a (.code (.seq x y)::k)) cs w) b k cs e a₁ w₁:=fun hne=>
  .of_steps (.one h0 stepR_seq) (.pass (x:=.code y) rfl (fun _ _=>.inl hne) harr)
 cases e with
 |normal=>
  obtain⟨e₂,a₂,w₂,hq₂,harr₂⟩:=hq b k cs hro hb
  exact⟨e₂,a₂,w₂,hq₂,.of_steps (.head h0 stepR_seq harr) harr₂⟩
 | _=>exact⟨_,a₁,w₁,hq,hpass (by simp)⟩
theorem Qh.block{id:Nat}{c:Code}(h:c.wpIn Fence.wide n P (Exit.inBlock id Q) a w):Qh f P (.block id c) Q a w:=Qh.of (wpIn_block h)
theorem qbm{fn:Func}{c:Code}{args:Array Value}{R:Ending->World->Prop}(hf:P.funcs[f]?=some fn)(hb:fn.body=some c)
 (h:Qh f P c (bodyPostM Fence.wide n P fn R) { tmps:=args++Array.replicate (fn.ntmps-args.size) undef,defers:=[] } w):CallsIn Fence.wide n P f args w R:=by
 refine⟨trivial,fun cs hr=>?_⟩
 let b:Frame:={ (default:Frame) with fn:=f,kind:=.normal,roundOf:=none }
 have henter:Frame.enter P f args .normal=b.atR { tmps:=args++Array.replicate (fn.ntmps-args.size) undef,defers:=[] } [.code c]:=by
  simp[Frame.enter,Frame.atR,hf,hb,b]
 obtain⟨e,a',w',hq,harr⟩:=h b [] cs rfl rfl
 rw[←henter] at harr
 have out:∀ (u:FrameMode) (todo:List Item),StepsIn (Machine.fenced P Fence.wide) P (lone (Frame.enter P f args .normal) cs w) (lone { b.atR a' todo with mode:=u } cs w')->LeavesInM Fence.wide n P fn a'.tmps R a'.defers u w' ->
  ∃e w' fr,R e w'/\ComesIn (Machine.fenced P Fence.wide) P (lone (Frame.enter P f args .normal) cs w) (lone fr cs w') e/\fr.fn=f/\fr.leaving P w' e:=fun u todo hs hl=>by
  obtain⟨e',w'',fr',hR,hs',hfn,hlv⟩:=leaves_stepsInM a'.defers u w' { b.atR a' todo with mode:=u } cs rfl rfl rfl hf rfl trivial hr hl
  exact⟨e',w'',fr',hR,ComesIn.of_steps hs hs',hfn,hlv⟩
 cases e with
 | normal=>exact out .returning [] (StepsIn.trans harr (.one (fenced_wide _ _) (stepR_end rfl))) hq
 | ret=>obtain⟨todo,hs⟩:=harr.1 rfl;exact out .returning todo hs hq
 | panic chain=>obtain⟨todo,hs⟩:=harr;exact out (.panicking chain) todo hs hq
 | exit id=>exact hq.elim
 | goto l=>exact hq.elim
 | outgrown=>exact⟨.outgrown,w',b,hq,harr.resolve_left (by simp[b]),rfl,trivial⟩
end
theorem qcz{n:Nat}{P:Program}{l:Nat}{f:FuncId}{fn:Func}{tmps:Array Value}{assign body:Code}{w:World}{chain:List PanicEntry}{R:World->Prop}(hf:P.funcs[f]?=some fn)
 (h:assign.wpIn (Fence.wide.inRound l) n P (Exit.then (fun a₁ w₁=>∃w₂,(Instr.beginRound l).run P w₁ = .ok () w₂ /\
   body.wpIn (Fence.wide.inRound l) n P (fun e a' w'=>e = .panic chain/\a'.defers = []/\R w') a₁ w₂) (fun _ _ _=>False)) { tmps:=tmps,defers:=[] } w) :
 RoundIn Fence.wide n P l f tmps assign body w fun e w'=>e = .panicked chain/\R w':=by
 refine⟨trivial,fun c cs hr=>?_⟩
 let b:Frame:={ (default:Frame) with fn:=f,kind:=.normal,roundOf:=some l }
 have hb0:Frame.round l f tmps assign body .normal=b.atR { tmps:=tmps,defers:=[] } [.code assign,.beginRound,.code body]:=by simp[Frame.round,Frame.atR,b]
 obtain⟨e,a₁,w₁,hq,harr⟩:=h b [.beginRound,.code body] (c::cs) rfl trivial hr
 rw[←hb0] at harr
 cases e with
 |normal=>
  obtain⟨w₂,hbr,hbody⟩:=hq
  obtain⟨e₂,a₂,w₃,⟨rfl,hd,hR⟩,todo,hs⟩:=hbody b [] (c::cs) rfl trivial hr
  have s1:StepsIn (Machine.fenced P Fence.wide) P (lone (b.atR a₁ [.beginRound,.code body]) (c::cs) w₁) (lone (b.atR a₁ [.code body]) (c::cs) w₂):=.one (fenced_wide _ _) (stepR_beginRound rfl hbr)
  exact⟨.panicked chain,w₃,⟨rfl,hR⟩,(StepsIn.trans harr s1).trans (StepsIn.trans hs (.one (fenced_wide _ _) (step_leave_panicked ⟨rfl,hd,fn,hf⟩)))⟩
 | exit id=>exact hq.elim
 | goto t=>exact hq.elim
 | ret=>exact hq.elim
 | panic ch=>exact hq.elim
 | outgrown=>exact hq.elim
end
section
open Go.RowKit
def qiu{α:Type}(n:Nat)(P:Program)(gf:Nat)(lb:Array Value)(encs:α->Array Value)(Ts:List Nat)(Ok:List α->α->Prop)(E:List α)(x0:α)(chain:List PanicEntry)(w0:World):Prop:=
 ∀ (l:Nat) (J:List α->World->Prop) (R:World->Prop) (W:World),BX w0 W->(∀pre A B,J pre A->BX A B->J pre B) ->
  (∀pre x A,J pre A->Ok pre x->YieldAt Fence.wide (n-1) P l (encs x) A fun e B=>e = .returned (.bool true)/\J (pre++[x]) B/\qR Ts A B) ->
  (∀A,J E A->YieldAt Fence.wide (n-1) P l (encs x0) A fun e B=>e = .panicked chain/\R B) ->
  J [] W->CallsIn Fence.wide n P gf (#[.func (.yield l) #[] #[]]++lb) W fun e B=>e = .panicked chain/\R B
theorem qcA{α:Type}{n:Nat}{P:Program}{f:FuncId}{fv:Func}{g:Operand}{ps:Array Tmp}{assign body:Code}{Q:Exit->Act->World->Prop}{a:Act}{w w0:World}{gf:Nat}{lb:Array Value}(hf:P.funcs[f]?=some fv)
 (hg:a.eval g = .func (.func gf) #[] lb) (eg:∀args w,(callFunc gf args).run P w = .ok (.enter gf args) w)
 {encs:α->Array Value} {Ts:List Nat} {Ok:List α->α->Prop} {E:List α} {x0:α} {chain:List PanicEntry} (hit:qiu (n-1) P gf lb encs Ts Ok E x0 chain w0) (hb0:BX w0 w) (hTs:∀t,t∈Ts->t<w.heap.size) (hps:∀x,(encs x).size=ps.size)
 (I:List α->World->Prop) (hI:OwnFrom w.heap.size I) (h0:I [] w) (Ax:α->Act->World->Prop) (hAx:∀x a',OwnFrom w.heap.size (fun(_:Unit) W=>Ax x a' W)) (Rb:World->Prop)
 (hassign:∀ (l:Nat) (pre:List α) (x:α) (W:World) (K:Act->World->Prop),I pre W->(Ok pre x∨(pre=E/\x=x0))->(∀a' W',KeepsFrom w.heap.size W W'->qR Ts W W'->I pre W'->Ax x a' W'->K a' W') ->
   assign.wpIn (Fence.wide.inRound l) (n-1-1) P (Exit.then K (fun _ _ _=>False)) { tmps:=(ps.zip (encs x)).foldl (fun t (p,v)=>t.setIfInBounds p v) a.tmps,defers:=[] } W)
 (hbody:∀ (l:Nat) (pre:List α) (x:α) (a':Act) (W:World),I pre W->Ax x a' W->Ok pre x->body.wpIn (Fence.wide.inRound l) (n-1-1) P (qct w.heap.size Ts I (pre++[x]) W) a' W)
 (hlast:∀ (l:Nat) (a':Act) (W:World),I E W->Ax x0 a' W->body.wpIn (Fence.wide.inRound l) (n-1-1) P (fun e a'' W'=>e = .panic chain/\a''.defers = []/\KeepsFrom w.heap.size W W'/\Rb W') a' W)
 (hdone:∀ (D:Nat) (W:World),w.heap.size<=D->Rb W->W.heap[D]?=some (.deferred (some []))->Q (.panic chain) { a with defers:={ target:=.collected D,args:=#[] } :: a.defers } W) :
 Qh f P (Code.rangeFunc g ps assign body) Q a w:=by
 intro b k cs hro hb
 obtain⟨rc,hrc⟩:∃rc:LoopState->Loop,rc=fun st=>{ state:=st,pending:=none,fn:=f,tmps:=a.tmps,params:=ps,assign,body,defers:=w.heap.size }:=⟨_,rfl⟩
 obtain⟨S,hS⟩:∃S,S=(w.alloc (.deferred (some []))).alloc (.loop (rc .ready)):=⟨_,rfl⟩
 have hSb:BX w S:=by rw[hS];exact((kB _ w).alloc (vL _) _).alloc (by simp) _
 have hSl:S.heap[w.heap.size+1]?=some (.loop (rc .ready)):=by
  have:=World.alloc_heap_new (w.alloc (.deferred (some []))) (.loop (rc .ready))
  rw[vZ] at this;rw[hS];exact this
 have hSd:S.heap[w.heap.size]?=some (.deferred (some [])):=by
  rw[hS];exact(Below.heap_alloc _ _ _ (by simp)).trans (World.alloc_heap_new w _)
 have he:(Instr.enterLoop b.fn a.tmps ps assign body b.roundOf).run P w = .ok (w.heap.size+1,[{ target:=.collected w.heap.size,args:=#[] }]) S:=by
  rw[hro,hb,hS,hrc];exact run_enterLoop_outer _ _ _ _ _
 have hres:(resolve a.eval (rangeCall g (w.heap.size+1)) 0).run P S = .ok { target:=.fn (.func gf) lb,args:=#[.func (.yield (w.heap.size+1)) #[] #[]] } S:=by
  simp only[resolve,hg];simp[go_sem]
 have hinv:(invoke (.fn (.func gf) lb) #[.func (.yield (w.heap.size+1)) #[] #[]]).run P S = .ok (.enter gf (#[.func (.yield (w.heap.size+1)) #[] #[]]++lb)) S:=by
  simp[invoke,go_sem,eg]
 have henter:=stepR_rangeFunc (P:=P) (b:=b) (a:=a) (k:=k) (cs:=cs) (w:=w) he hres hinv
 have hcall:CallsIn Fence.wide (n-1) P gf (#[.func (.yield (w.heap.size+1)) #[] #[]]++lb) S fun e B=>e = .panicked chain/\(Rb B/\B.heap[w.heap.size]?=some (.deferred (some []))):=by
  refine hit (w.heap.size+1) (fun pre W=>I pre W/\W.heap[w.heap.size+1]?=some (.loop (rc .ready))/\W.heap[w.heap.size]?=some (.deferred (some []))) _ S (hb0.trans (hSb.mono hb0.size)) ?_ ?_ ?_ ?_
  ·rintro pre A B ⟨hi,hl,hd⟩ hb
   exact⟨hI pre A B none hi (xz hb) (fun r e=>by cases e),(hb.block _ (qD hl)).trans hl,(hb.block _ (qD hd)).trans hd⟩
  ·rintro pre x A ⟨hi,hl,hd⟩ hok
   have hy:=run_yield (P:=P) (args:=encs x) hl (by rw[hrc];exact hps x)
   rw[hrc] at hy
   refine⟨f,_,assign,body,hy,roundIn_of_wpIn trivial (hassign (w.heap.size+1) pre x A _ hi (.inl hok) ?_)⟩
   intro a' W hkf hk hiW hax
   have hlW:=hkf.same _ _ (by omega) hl rfl
   have hdW:=hkf.same _ _ (vL _) hd rfl
   refine⟨_,run_beginRound hlW (by rw[hrc]),?_⟩
   have hl1:(W.putObj (w.heap.size+1) (.loop { rc .ready with state:=.busy })).heap[w.heap.size+1]?=some (.loop { rc .ready with state:=.busy }):=World.putObj_heap_same (qD hlW)
   have hd1:(W.putObj (w.heap.size+1) (.loop { rc .ready with state:=.busy })).heap[w.heap.size]?=some (.deferred (some [])):=(kP (by omega)).trans hdW
   have hk1:qR Ts W (W.putObj (w.heap.size+1) (.loop { rc .ready with state:=.busy })):=Zg hTs _ _ _ _ (by omega) hlW rfl rfl
   refine wpIn_mono (hbody (w.heap.size+1) pre x a' _ (hI.putObj _ hiW (by omega) hlW rfl) ((hAx x a').putObj (s:=()) _ hax (by omega) hlW rfl) hok) ?_
   intro e a2 W2 hp
   cases e with
   |normal=>
    obtain⟨hkf2,hk2,hi2⟩:=hp
    have hl2:=hkf2.same _ _ (by omega) hl1 rfl
    have hd2:=hkf2.same _ _ (vL _) hd1 rfl
    have he:=run_endRound (P:=P) none hl2
    refine⟨_,_,he,rfl,⟨hI.putObj _ hi2 (by omega) hl2 rfl,?_,(kP (by omega)).trans hd2⟩,((hk.trans hk1).trans hk2).trans (Zg hTs _ _ _ _ (by omega) hl2 rfl rfl)⟩
    rw[World.putObj_heap_same (qD hl2),hrc];rfl
   | ret=>exact hp.elim
   | exit id=>exact hp.elim
   | goto t=>exact hp.elim
   | panic ch=>exact hp.elim
   | outgrown=>exact hp.elim
  ·rintro A ⟨hi,hl,hd⟩
   have hy:=run_yield (P:=P) (args:=encs x0) hl (by rw[hrc];exact hps x0)
   rw[hrc] at hy
   refine⟨f,_,assign,body,hy,qcz hf (hassign (w.heap.size+1) E x0 A _ hi (.inr ⟨rfl,rfl⟩) ?_)⟩
   intro a' W hkf _ hiW hax
   have hlW:=hkf.same _ _ (by omega) hl rfl
   have hdW:=hkf.same _ _ (vL _) hd rfl
   refine⟨_,run_beginRound hlW (by rw[hrc]),?_⟩
   have hd1:(W.putObj (w.heap.size+1) (.loop { rc .ready with state:=.busy })).heap[w.heap.size]?=some (.deferred (some [])):=(kP (by omega)).trans hdW
   refine wpIn_mono (hlast (w.heap.size+1) a' _ (hI.putObj _ hiW (by omega) hlW rfl) ((hAx x0 a').putObj (s:=()) _ hax (by omega) hlW rfl)) ?_
   rintro e a2 W2 ⟨rfl,hd2,hkf2,hR⟩
   exact⟨rfl,hd2,hR,hkf2.same _ _ (vL _) hd1 rfl⟩
  ·exact⟨hI [] w S none h0 (xz hSb) (fun r e=>by cases e),hSl,hSd⟩
 obtain⟨e,w₃,fr,⟨rfl,hR,hd⟩,hsteps,_,hleave⟩:=hcall.2 (b.atR { a with defers:={ target:=.collected w.heap.size,args:=#[] } :: a.defers } (.inRangeFunc (w.heap.size+1)::k)::cs) (room_wide _)
 refine⟨.panic chain,_,w₃,hdone w.heap.size w₃ (vL _) hR hd,.inRangeFunc (w.heap.size+1)::k,.head (fenced_wide _ _) henter (StepsIn.trans hsteps (.one (fenced_wide _ _) ?_))⟩
 rw[←Frame.raise_atR];exact step_leave_panicked hleave
end
section
open Go.RowKit Go.Shelf
attribute [local go_sem] Oper.semAt_some
theorem qdB(l:Nat)(nm:ByteArray)(wd at_ deep root aAt aW:Int)(sv av:Value)(chain:List PanicEntry)(R:World->Prop)(W:World)
 (hY:YieldAt Fence.wide 0 prog l #[.agg #[.string nm,.int .i64 wd,.int .i64 at_,sv,.int .i64 deep,.int .i64 root,.int .i64 aAt,.int .i64 aW,av]] (W.alloc (.cells #[.string nm,.int .i64 wd,.int .i64 at_,sv,.int .i64 deep,.int .i64 root,.int .i64 aAt,.int .i64 aW,av] 175)) fun e B=>e = .panicked chain/\R B) :
 Calls prog 168 #[.agg #[.string nm,.int .i64 wd,.int .i64 at_,sv,.int .i64 deep,.int .i64 root,.int .i64 aAt,.int .i64 aW,av],.func (.yield l) #[] #[]] W fun e B=>e = .panicked chain/\R B:=by
 obtain⟨fn,tmps,assign,body,hy,hR⟩:=xN (m':=0) hY
 refine(callsIn_wide (n:=1)).1 ?_
 refine callsIn_of_wp func168 rfl trivial ?_ rfl
 simp only[ntmps168,List.size_toArray,List.length_cons,List.length_nil,Nat.reduceAdd,Nat.reduceSub,Array.replicate_succ,Array.replicate_zero,List.push_toArray,List.append_toArray,List.nil_append,List.cons_append]
 gi_wp2_with (refine hR.mono ?_;clear hR;rintro e W1 ⟨rfl,hr⟩)
 exact⟨rfl,rfl,hr⟩
end
section
open Go.RowKit
def jQ(n:Int):List PanicEntry:=[{ v:=.iface 163 (.int .i64 n),recovered:=false }]
theorem qke(nm:ByteArray)(wd at_ deep root aAt aW:Int)(sv av:Value)(w:World)(h:wd<1∨(¬ wd<1/\64<wd)) :
 Calls prog 171 #[.agg #[.string nm,.int .i64 wd,.int .i64 at_,sv,.int .i64 deep,.int .i64 root,.int .i64 aAt,.int .i64 aW,av]] w fun e w'=>
  e = .returned (.bool false)/\BX w w':=by
 rcases h with h|⟨h',h⟩
 ·have i1:¬ 1<=wd:=by omega
  go_enter func171,ntmps171
  go_wp2
  go_ret
  exact⟨rfl,qi⟩
 ·have i1:1<=wd:=by omega
  have i2:¬ wd<=64:=by omega
  go_enter func171,ntmps171
  go_wp2
  go_ret
  exact⟨rfl,qi⟩
theorem qiv(base T:Nat)(ns:List ByteArray)(ps:List (Int×Int×Int))(nm:ByteArray)(wd at_ deep root aAt aW:Int)(sv av:Value)(w:World)(hk:ns.length=200)(hT:Qe base T ns ps w)(hd:deep<=6) :
 Calls prog 129 #[.pointer (some ⟨T,0,none⟩),.agg #[.string nm,.int .i64 wd,.int .i64 at_,sv,.int .i64 deep,.int .i64 root,.int .i64 aAt,.int .i64 aW,av]] w fun e w'=>
  e = .panicked (jQ 2)/\BX w w':=by
 obtain⟨nV,pV,hTc,hn,hp⟩:=hT
 rw[hk] at hn
 obtain⟨na,ncap,rfl⟩:=qx hn
 have t0:=hTc.cell (j:=0) (v:=.slice na 200 ncap) rfl
 have t1:=fun o=>qk o t0
 have hd':¬ 6<deep:=by omega
 go_enter func129,ntmps129
 go_wp2_with fail
 exact⟨rfl,rfl,qi⟩
theorem qiw(base T:Nat)(ns:List ByteArray)(ps:List (Int×Int×Int))(nm:ByteArray)(wd at_ deep root aAt aW:Int)(sv av:Value)(w:World)(hE:Env w)(hN:xo nm)(hW:js nm)(hno:nm∉ns)(hk:ns.length<200)(hT:Qe base T ns ps w)(hd:deep<=6)
 (hw:wd<1∨(¬ wd<1/\64<wd)) :
 Calls prog 129 #[.pointer (some ⟨T,0,none⟩),.agg #[.string nm,.int .i64 wd,.int .i64 at_,sv,.int .i64 deep,.int .i64 root,.int .i64 aAt,.int .i64 aW,av]] w fun e w'=>
  e = .panicked (jQ 6)/\BX w w':=by
 obtain⟨nV,pV,hTc,hn,hp⟩:=hT
 obtain⟨k,hkn⟩:∃k,ns.length=k:=⟨_,rfl⟩
 rw[hkn] at hn hk
 have hkn:=vH hkn
 obtain⟨na,ncap,rfl⟩:=qx hn
 obtain⟨w0,hw0⟩:∃w0,w0=w.alloc (.cells #[.string nm,.int .i64 wd,.int .i64 at_,sv,.int .i64 deep,.int .i64 root,.int .i64 aAt,.int .i64 aW,av] 175):=⟨_,rfl⟩
 have hb0:BX w w0:=by rw[hw0];exact qi
 have hs0:qd w0 w.heap.size 175 #[.string nm,.int .i64 wd,.int .i64 at_,sv,.int .i64 deep,.int .i64 root,.int .i64 aAt,.int .i64 aW,av]:=by rw[hw0];exact qd.new _ _ _
 have hTc0:=hTc.below hb0 hTc.lt
 have hk2:(((k:Nat):Int)==200)=false:=by simp;omega
 have hd':¬ 6<deep:=by omega
 have C1:∀W,BX w0 W->Calls prog 169 #[.string nm] W fun e w'=>e = .returned (.bool true)/\BX W w':=fun W hb=>jF nm W ((hE.below hb0).below hb) hN hW
 have C2:∀W,BX w0 W->Calls prog 170 #[.slice na k ncap,.string nm] W fun e w'=>e = .returned (.bool false)/\W=w':=fun W hb=>
  QM base k _ ns nm W hkn.out (by omega) (qe (qe hn hb0) hb) hno
 have C3:=fun W=>qke nm wd at_ deep root aAt aW sv av W hw
 have hread:∀W,BX w0 W->(W.cell? ⟨w.heap.size,0,none⟩=some (.string nm)/\W.cell? ⟨w.heap.size,1,none⟩=some (.int .i64 wd)/\W.cell? ⟨w.heap.size,2,none⟩=some (.int .i64 at_)/\W.cell? ⟨w.heap.size,3,none⟩=some sv /\
  W.cell? ⟨w.heap.size,4,none⟩=some (.int .i64 deep)/\W.cell? ⟨w.heap.size,5,none⟩=some (.int .i64 root)/\W.cell? ⟨w.heap.size,6,none⟩=some (.int .i64 aAt)/\W.cell? ⟨w.heap.size,7,none⟩=some (.int .i64 aW)/\W.cell? ⟨w.heap.size,8,none⟩=some av /\
  W.cell? ⟨T,0,none⟩=some (.slice na k ncap)):=fun W hb=>by
  have a:=hs0.below hb hs0.lt
  have b:=hTc0.below hb hTc0.lt
  exact⟨a.cell rfl,a.cell rfl,a.cell rfl,a.cell rfl,a.cell rfl,a.cell rfl,a.cell rfl,a.cell rfl,a.cell rfl,b.cell rfl⟩
 have hR0:=hread w0 (kB _ _)
 rw[hw0] at hR0
 obtain⟨r0,r1,r2,r3,r4,r5,r6,r7,r8,r9⟩:=hR0
 clear hw
 go_enter func129,ntmps129
 go_wp2_with fail
 rw[←hw0]
 clear r0 r1 r2 r3 r4 r5 r6 r7 r8 r9 hw0
 obtain⟨r0,r1,r2,r3,r4,r5,r6,r7,r8,r9⟩:=hread w0 (kB _ _)
 go_region_held3 (fun w'=>w'.cell? ⟨w.heap.size,0,none⟩=some (.string nm)/\w'.cell? ⟨w.heap.size,1,none⟩=some (.int .i64 wd)/\w'.cell? ⟨w.heap.size,2,none⟩=some (.int .i64 at_)/\w'.cell? ⟨w.heap.size,3,none⟩=some (sv)/\w'.cell? ⟨w.heap.size,4,none⟩=some (.int .i64 deep)/\w'.cell? ⟨w.heap.size,5,none⟩=some (.int .i64 root)/\w'.cell? ⟨w.heap.size,6,none⟩=some (.int .i64 aAt)/\w'.cell? ⟨w.heap.size,7,none⟩=some (.int .i64 aW)/\w'.cell? ⟨w.heap.size,8,none⟩=some (av)/\w'.cell? ⟨T,0,none⟩=some (.slice na k ncap))
  (go_keep)
  ((first
    |(go_at_call 169;refine(C1 _ ((kB _ _).drew)).mono ?_;clear C1;rintro e W1 ⟨rfl,hb⟩;have hB1:BX w0 W1:=((kB _ _).drew).trans hb;have hR1:=hread W1 hB1)
    |(go_at_call 170;refine(C2 _ hB1).mono ?_;clear C2;rintro e W2 ⟨rfl,rfl⟩)))
 clear r0 r1 r2 r3 r4 r5 r6 r7 r8 r9
 go_wp2_with (go_at_call 171;refine(C3 _).mono ?_;clear C3;rintro e W3 ⟨rfl,hb3⟩;have hB3:=hB1.trans (hb3.mono hB1.size))
 exact⟨rfl,rfl,hb0.trans (hB3.mono hb0.size)⟩
end
section
open Go.RowKit Go.Extern.Stop Go.Stop Go.Extern
theorem qas(v:Value)(h:(#[v]:Array Value).size=1)(h':0<1):(#[v]:Array Value).getLit 0 h h'=v:=rfl
theorem qfd(v x:Value)(h:(#[v,x]:Array Value).size=2)(h':0<2):(#[v,x]:Array Value).getLit 0 h h'=v:=rfl
theorem qfe(v x:Value)(h:(#[v,x]:Array Value).size=2)(h':1<2):(#[v,x]:Array Value).getLit 1 h h'=x:=rfl
theorem qcB(t:Addr)(w:World):(ReflectliteValue.unpack (.iface 168 (.pointer (some t)))).run prog w
 = .ok (.agg #[.pointer (some ⟨9,168,none⟩),.pointer (some ⟨w.heap.size,0,none⟩),.int .u64 150]) (w.alloc (.cells #[.pointer (some t)] 168)):=by kernel_rfl
theorem qgZ (a : Addr) (w : World) : (ReflectliteValue.methodAny (ReflectliteValue.valueError "reflectlite.Value.Type" 0) (fun t _ _ _ => ReflectliteType.toType t) #[.agg #[.pointer (some ⟨9, 168, none⟩), .pointer (some a), .int .u64 150]]).run prog w
 = .ok (.iface 233 (.agg #[.pointer (some ⟨9,168,none⟩)])) w:=by kernel_rfl
theorem qbn (k : Nat) (h : Value) (w : World) : (Go.method (k + 1) 233 (.agg #[h]) "Kind").run prog w = .ok (276, h) w := by kernel_rfl
theorem qha(w:World):((ReflectliteType.abiMethod fun t=>(fun a:Nat=>Value.int IntKind.u8 (a:Int)) <$> Rtype.kind t) #[.pointer (some ⟨9,168,none⟩)]).run prog w = .ok (.int .u8 22) w:=by kernel_rfl
theorem qhb(w:World):((ReflectliteType.abiMethod fun t=>(fun a:Nat=>Value.int IntKind.u8 (a:Int)) <$> Rtype.kind t) #[.pointer (some ⟨9,163,none⟩)]).run prog w = .ok (.int .u8 2) w:=by kernel_rfl
theorem qat(a:Addr)(w:World):(ReflectliteValue.parts (.agg #[.pointer (some ⟨9,168,none⟩),.pointer (some a),.int .u64 150])).run prog w = .ok (some (168,a,150)) w:=by kernel_rfl
theorem qff(a p:Addr)(W:World)(ha:W.cell? a=some (.pointer (some p))) :
 (ReflectliteValue.method (ReflectliteValue.valueError "reflectlite.Value.IsNil" 0) ReflectliteValue.isNil #[.agg #[.pointer (some ⟨9, 168, none⟩), .pointer (some a), .int .u64 150]]).run prog W = .ok (.bool false) W := by
 change Sem.run prog (_ >>= _) _=_
 simp only[qas,Sem.run_bind,qat,Result.andThen]
 simp[ReflectliteValue.isNil,loadVar,isAgg,underlying,underlying168,ha,Result.andThen]
theorem qbo (k : Nat) (h : Value) (w : World) : (Go.method (k + 1) 233 (.agg #[h]) "Elem").run prog w = .ok (288, .agg #[h]) w := by kernel_rfl
theorem XU (k : Nat) (h : Value) (w : World) : (Go.method (k + 1) 233 (.agg #[h]) "Implements").run prog w = .ok (289, .agg #[h]) w := by kernel_rfl
theorem Xi (k : Nat) (h : Value) (w : World) : (Go.method (k + 1) 233 (.agg #[h]) "AssignableTo").run prog w = .ok (286, .agg #[h]) w := by kernel_rfl
theorem qhc(w:World):(ReflectliteType.method ReflectliteType.elem #[.agg #[.pointer (some ⟨9,168,none⟩)]]).run prog w = .ok (.iface 233 (.agg #[.pointer (some ⟨9,163,none⟩)])) w:=by kernel_rfl
theorem Ks (w : World) : (ReflectliteType.relation "Implements" ReflectliteType.implements_ #[.agg #[.pointer (some ⟨9, 163, none⟩)], .iface 233 (.agg #[.pointer (some ⟨9, 165, none⟩)])]).run prog w = .ok (.bool true) w := by kernel_rfl
theorem qdC(v:Value)(w:World):(ReflectliteType.typeOf #[.iface 163 v]).run prog w = .ok (.iface 233 (.agg #[.pointer (some ⟨9,163,none⟩)])) w:=by kernel_rfl
theorem Ku (w : World) : (ReflectliteType.relation "AssignableTo" ReflectliteType.assignableTo #[.agg #[.pointer (some ⟨9, 163, none⟩)], .iface 233 (.agg #[.pointer (some ⟨9, 163, none⟩)])]).run prog w = .ok (.bool true) w := by kernel_rfl
theorem qcC(e:Int)(w:World):(ReflectliteValue.unpack (.iface 163 (.int .i64 e))).run prog w
 = .ok (.agg #[.pointer (some ⟨9,163,none⟩),.pointer (some ⟨w.heap.size,0,none⟩),.int .u64 130]) (w.alloc (.cells #[.int .i64 e] 163)):=by kernel_rfl
theorem qdD(w:World):(Rtype.elem? 168).run prog w = .ok (some 163) w:=by kernel_rfl
theorem qkf(p:Addr)(w:World):(ReflectliteValue.mk 163 p ReflectliteValue.flagAddr).run prog w = .ok (.agg #[.pointer (some ⟨9,163,none⟩),.pointer (some p),.int .u64 386]) w:=by kernel_rfl
theorem qfg(a p:Addr)(W:World)(ha:W.cell? a=some (.pointer (some p))) :
 (ReflectliteValue.method (ReflectliteValue.valueError "reflectlite.Value.Elem" 0) ReflectliteValue.elem #[.agg #[.pointer (some ⟨9, 168, none⟩), .pointer (some a), .int .u64 150]]).run prog W
   = .ok (.agg #[.pointer (some ⟨9,163,none⟩),.pointer (some p),.int .u64 386]) W:=by
 change Sem.run prog (_ >>= _) _=_
 simp only[qas,Sem.run_bind,qat,Result.andThen]
 simp[ReflectliteValue.elem,loadVar,isAgg,underlying,underlying168,ha,Result.andThen,qdD,qkf]
theorem qdE(a:Addr)(w:World):(ReflectliteValue.parts (.agg #[.pointer (some ⟨9,163,none⟩),.pointer (some a),.int .u64 386])).run prog w = .ok (some (163,a,386)) w:=by kernel_rfl
theorem qfh(a:Addr)(w:World):(ReflectliteValue.parts (.agg #[.pointer (some ⟨9,163,none⟩),.pointer (some a),.int .u64 130])).run prog w = .ok (some (163,a,130)) w:=by kernel_rfl
theorem qdF(w:World):(Rtype.directlyAssignable 163 163).run prog w = .ok true w:=by kernel_rfl
theorem qix(ta b:Addr)(e:Int)(old:Value)(W:World)(hb:W.cell? b=some (.int .i64 e))(ht:W.cell? ta=some old)(hf:W.frozen? ta=false) :
 (ReflectliteValue.set #[.agg #[.pointer (some ⟨9,163,none⟩),.pointer (some ta),.int .u64 386],.agg #[.pointer (some ⟨9,163,none⟩),.pointer (some b),.int .u64 130]]).run prog W
   = .ok (.tuple #[]) (W.setCell ta (.int .i64 e)):=by
 change Sem.run prog (_ >>= _) _=_
 simp only[qfd,qfe,Sem.run_bind,qdE,qfh,Result.andThen]
 simp[ReflectliteValue.flagAddr,loadVar,isAgg,underlying,underlying163,hb,Result.andThen,qdF,storeVar,Value.cells,storeCells,Addr.add]
 rw[run_store prog W ta _ _ (by rfl)]
 simp[ht,hf]
theorem qiy(e:Int)(t:Addr)(old:Value)(w:World)(hg:w.cell? ⟨1,0,none⟩=some (.iface 233 (.agg #[.pointer (some ⟨9,165,none⟩)])))(ht0:w.cell? t=some old)(hf0:w.frozen? t=false) :
 Calls prog 127 #[.iface 163 (.int .i64 e),.iface 168 (.pointer (some t))] w fun ev w'=>ev = .returned (.bool true)/\w'=((((w.alloc (.cells #[.pointer (some t)] 168)).alloc (.cells #[.pointer (some ⟨9,168,none⟩),.pointer (some ⟨w.heap.size,0,none⟩),.int .u64 150] 210)).alloc (.cells #[.pointer (some ⟨9,168,none⟩),.pointer (some ⟨w.heap.size,0,none⟩),.int .u64 150] 210)).alloc (.cells #[.int .i64 e] 163)).setCell t (.int .i64 e):=by
 have h6:=@run_callFunc_extern prog 163 _ (fun args=>ReflectliteValue.unpack (args.getD 0 (.tuple #[]))) func163 (by kernel_rfl) (by kernel_rfl) (by kernel_rfl) (by kernel_rfl)
 have h7 := @run_callFunc_extern prog 164 _ (ReflectliteValue.methodAny (ReflectliteValue.valueError "reflectlite.Value.Type" 0) (fun t _ _ _ => ReflectliteType.toType t)) func164 (by kernel_rfl) (by kernel_rfl) (by kernel_rfl) (by kernel_rfl)
 have h8 := @run_callFunc_extern prog 165 _ (ReflectliteValue.method (ReflectliteValue.valueError "reflectlite.Value.IsNil" 0) ReflectliteValue.isNil) func165 (by kernel_rfl) (by kernel_rfl) (by kernel_rfl) (by kernel_rfl)
 have h27:=@run_callFunc_extern prog 276 _ (ReflectliteType.abiMethod fun t=>do pure (.int .u8 (←Rtype.kind t))) func276 (by kernel_rfl) (by kernel_rfl) (by kernel_rfl) (by kernel_rfl)
 have h37:=@run_callFunc_extern prog 288 _ (ReflectliteType.method ReflectliteType.elem) func288 (by kernel_rfl) (by kernel_rfl) (by kernel_rfl) (by kernel_rfl)
 have h38 := @run_callFunc_extern prog 289 _ (ReflectliteType.relation "Implements" ReflectliteType.implements_) func289 (by kernel_rfl) (by kernel_rfl) (by kernel_rfl) (by kernel_rfl)
 have h10:=@run_callFunc_extern prog 192 _ ReflectliteType.typeOf func192 (by kernel_rfl) (by kernel_rfl) (by kernel_rfl) (by kernel_rfl)
 have h35 := @run_callFunc_extern prog 286 _ (ReflectliteType.relation "AssignableTo" ReflectliteType.assignableTo) func286 (by kernel_rfl) (by kernel_rfl) (by kernel_rfl) (by kernel_rfl)
 have h11 := @run_callFunc_extern prog 193 _ (ReflectliteValue.method (ReflectliteValue.valueError "reflectlite.Value.Elem" 0) ReflectliteValue.elem) func193 (by kernel_rfl) (by kernel_rfl) (by kernel_rfl) (by kernel_rfl)
 have h12:=@run_callFunc_extern prog 194 _ ReflectliteValue.set func194 (by kernel_rfl) (by kernel_rfl) (by kernel_rfl) (by kernel_rfl)
 have tO:=qdC
 have mA:=Xi
 have a25:=Ku
 have v25:=qcC
 have f6:=qcB
 have f7:=qgZ
 have mK:=qbn
 have mE:=qbo
 have mI:=XU
 have k27:=qha
 have k25:=qhb
 have e27:=qhc
 have i25:=Ks
 have n8:=qff ⟨w.heap.size,0,none⟩ t ((w.alloc (.cells #[.pointer (some t)] 168)).alloc (.cells #[.pointer (some ⟨9,168,none⟩),.pointer (some ⟨w.heap.size,0,none⟩),.int .u64 150] 210)) (by simp)
 have hlt:1<w.heap.size:=kW _ _ hg
 have hg2:((w.alloc (.cells #[.pointer (some t)] 168)).alloc (.cells #[.pointer (some ⟨9,168,none⟩),.pointer (some ⟨w.heap.size,0,none⟩),.int .u64 150] 210)).cell? ⟨1,0,none⟩=some (.iface 233 (.agg #[.pointer (some ⟨9,165,none⟩)])):=by
  rw[World.cell?_alloc_lt _ _ ⟨1,0,none⟩ (by simp <;> omega),World.cell?_alloc_lt _ _ ⟨1,0,none⟩ hlt];exact hg
 have htl:t.block<w.heap.size:=by
  rcases Nat.lt_or_ge t.block w.heap.size with h|h
  ·exact h
  ·simp[World.cell?,Array.getElem?_eq_none h] at ht0
 have el:=qfg ⟨w.heap.size,0,none⟩ t (((w.alloc (.cells #[.pointer (some t)] 168)).alloc (.cells #[.pointer (some ⟨9,168,none⟩),.pointer (some ⟨w.heap.size,0,none⟩),.int .u64 150] 210)).alloc (.cells #[.pointer (some ⟨9,168,none⟩),.pointer (some ⟨w.heap.size,0,none⟩),.int .u64 150] 210)) (by rw[World.cell?_alloc_lt _ _ ⟨w.heap.size,0,none⟩ (by simp;omega)];simp)
 have st:=qix t ⟨w.heap.size+1+1+1,0,none⟩ e old ((((w.alloc (.cells #[.pointer (some t)] 168)).alloc (.cells #[.pointer (some ⟨9,168,none⟩),.pointer (some ⟨w.heap.size,0,none⟩),.int .u64 150] 210)).alloc (.cells #[.pointer (some ⟨9,168,none⟩),.pointer (some ⟨w.heap.size,0,none⟩),.int .u64 150] 210)).alloc (.cells #[.int .i64 e] 163))
  (by rw[World.cell?_alloc_at _ _ _ _ (by simp)];rfl)
  (by rw[World.cell?_alloc_lt _ _ t (by simp;omega),World.cell?_alloc_lt _ _ t (by simp;omega),World.cell?_alloc_lt _ _ t (by simp;omega),World.cell?_alloc_lt _ _ t htl];exact ht0)
  (by rw[World.frozen?_alloc_old _ _ t (by simp;omega),World.frozen?_alloc_old _ _ t (by simp;omega),World.frozen?_alloc_old _ _ t (by simp;omega),World.frozen?_alloc_old _ _ t (Nat.ne_of_lt htl)];exact hf0)
 go_enter func127,ntmps127
 go_wp2
 refine wp_loop_rounds 1 ?_
 rw[rounds_succ]
 go_wp2
 go_ret
 exact⟨rfl,rfl⟩
end
section
open Go.RowKit Go.Shelf
attribute [local go_sem] Oper.semAt_some
def Zi(w:World):Prop:=w.cell? ⟨1,0,none⟩=some (.iface 233 (.agg #[.pointer (some ⟨9,165,none⟩)]))
theorem Zi.below{A B:World}(h:Zi A)(hb:BX A B):Zi B:=qb hb h
theorem qkg(n:Int)(p:Addr)(old:Value)(w:World)(hA:Zi w)(hp:w.cell? p=some old)(hf:w.frozen? p=false) :
 Calls prog 127 #[.iface 163 (.int .i64 n),.iface 168 (.pointer (some ⟨w.heap.size,0,none⟩))] (w.alloc (.cells #[.int .i64 0] 163)) fun e W=>
  e = .returned (.bool true)/\W.cell? ⟨w.heap.size,0,none⟩=some (.int .i64 n)/\W.cell? p=some old/\W.frozen? p=false/\BX w W:=by
 have hlt:p.block<w.heap.size:=kW _ _ hp
 refine(qiy n ⟨w.heap.size,0,none⟩ (.int .i64 0) (w.alloc (.cells #[.int .i64 0] 163)) (hA.below (qi)) (by simp) (by simp)).mono ?_
 rintro e W ⟨rfl,rfl⟩
 have hc:qd ((((((w.alloc (.cells #[.int .i64 0] 163)).alloc (.cells #[.pointer (some ⟨w.heap.size,0,none⟩)] 168)).alloc (.cells #[.pointer (some ⟨9,168,none⟩),.pointer (some ⟨(w.alloc (.cells #[.int .i64 0] 163)).heap.size,0,none⟩),.int .u64 150] 210)).alloc (.cells #[.pointer (some ⟨9,168,none⟩),.pointer (some ⟨(w.alloc (.cells #[.int .i64 0] 163)).heap.size,0,none⟩),.int .u64 150] 210)).alloc (.cells #[.int .i64 n] 163)).setCell ⟨w.heap.size,0,none⟩ (.int .i64 n)) w.heap.size 163 #[.int .i64 n]:=
  (((((qd.new w _ _).alloc _).alloc _).alloc _).alloc _).set (j:=0) (.int .i64 n)
 have hB:BX w ((((((w.alloc (.cells #[.int .i64 0] 163)).alloc (.cells #[.pointer (some ⟨w.heap.size,0,none⟩)] 168)).alloc (.cells #[.pointer (some ⟨9,168,none⟩),.pointer (some ⟨(w.alloc (.cells #[.int .i64 0] 163)).heap.size,0,none⟩),.int .u64 150] 210)).alloc (.cells #[.pointer (some ⟨9,168,none⟩),.pointer (some ⟨(w.alloc (.cells #[.int .i64 0] 163)).heap.size,0,none⟩),.int .u64 150] 210)).alloc (.cells #[.int .i64 n] 163)).setCell ⟨w.heap.size,0,none⟩ (.int .i64 n)):=
  ((((((kB _ w).alloc (vL _) _).alloc (by simp) _).alloc (by simp;omega) _).alloc (by simp;omega) _).alloc (by simp;omega) _).setCell (p:=⟨w.heap.size,0,none⟩) (vL _) _
 exact⟨rfl,hc.cell rfl,(hB.cell hlt).trans hp,(hB.frozen hlt).trans hf,hB⟩
theorem qhd(m:Nat)(n:Int)(p:Addr)(old:Value)(w:World)(hA:Zi w)(hp:w.cell? p=some old)(hf:w.frozen? p=false) :
 CallsDIn Fence.wide m prog 126 #[.pointer (some p)] (.panicking (jQ n)) w fun e u' w'=>e = .returned (.tuple #[])/\settle u' = .returning/\∃w1,BX w w1/\w'=w1.setCell p (.int .i64 n):=by
 have hta:∀w,(Instr.typeAssert (.iface 163 (.int .i64 n)) 20 165 true).run prog w = .ok (.tuple #[.iface 163 (.int .i64 n),.bool true]) w:=fun _=>by kernel_rfl
 have hAs:=qkg n p old w hA hp hf
 refine callsDIn_of_wpSIn func126 rfl trivial fun c₀ cs hu=>?_
 apply wpSIn_seq
 apply wpSIn_region
 simp[wpOpsSIn,go_sem,ntmps126,Exit.thenS,Array.replicate_succ]
 apply wpSIn_seq
 apply wpSIn_region
 simp[wpOpsSIn,go_sem,recoverD,hu,hta,Exit.thenS,jQ]
 refine wpSIn_of_wpIn (F:=Fence.wide) rfl ?_
 clear hta hA hp hf
 gi_wp2_with (refine⟨trivial,(fun h=>absurd h (by decide)),(callsIn_wide.2 hAs).mono ?_⟩;clear hAs;rintro e W1 ⟨rfl,hc1,hp1,hf1,hB⟩)
 exact⟨rfl,_,rfl,.tuple #[],by simp[results,results126,go_sem],rfl,by simp[settle],W1,hB,rfl⟩
theorem Qh.block_panics{f:FuncId}{P:Program}{Q:Exit->Act->World->Prop}{a:Act}{w:World}{id:Nat}{c:Code}{ch:List PanicEntry}(h:Qh f P c (fun e a' w'=>e = .panic ch/\Q (.panic ch) a' w') a w):Qh f P (.block id c) Q a w:=by
 intro b k cs hro hb
 obtain⟨e,a₁,w₁,⟨rfl,hq⟩,harr⟩:=h b (.inBlock id::k) cs hro hb
 exact⟨.panic ch,a₁,w₁,hq,.of_steps (.one (fenced_wide _ _) stepR_block) harr⟩
def Qy(w:World)(n:Int)(e:Ending)(w':World):Prop:=e = .returned (.tuple #[.slice none 0 0,.slice none 0 0,.int .i64 n])/\BX w w'
def qlb(w W:World):Prop:=BX w W/\qd W w.heap.size 35 #[.int .i64 0]/\w.heap.size+3<=W.heap.size
def Jr(w:World)(b' o' c' len:Nat)(x:qA)(Bt:Nat):Act:={ tmps:=#[Value.slice (some ⟨b',o',none⟩) len c',undef,Value.slice none 0 0,Value.slice none 0 0,Value.pointer (some ⟨w.heap.size,0,none⟩),Value.pointer (some ⟨w.heap.size+1,0,none⟩),Value.pointer (some ⟨Bt,0,none⟩),Value.func (.func 126) #[] #[.pointer (some ⟨w.heap.size,0,none⟩)],Value.slice (some ⟨b',o',none⟩) len c',Value.func (.func 167) #[] #[.pointer (some ⟨w.heap.size+1+1,0,none⟩)],Value.agg #[.string x.name,.int .i64 x.wd,.int .i64 x.at_,x.sv,.int .i64 x.deep,.int .i64 x.root,.int .i64 x.aAt,.int .i64 x.aW,x.av],undef,undef,undef,undef,undef,undef],defers:=[] }
end
section
open Go.RowKit
theorem qcD(base k:Nat)(nV:Value)(ns:List ByteArray)(nm:ByteArray)(w:World)(hk:ns.length=k)(hsz:k<=200)(hown:w.ownsRow base 9 1 nV k (ns.map Value.string))(hin:nm∈ns) :
 Calls prog 170 #[nV,.string nm] w fun e w'=>e = .returned (.bool true)/\w=w':=by
 rcases hown.2 with⟨rfl,h0⟩|⟨g,cap,cur,rfl,_,_,_,hcap,_,_⟩
 ·rw[h0] at hk
  rw[vJ.1 hk] at hin
  cases hin
 ·refine(slices_Contains_string g 0 k cap ns nm w (by omega) (by omega) (fun j hj=>?_)).mono fun e w' ⟨he,hw⟩=>⟨?_,hw.symm⟩
  ·rw[Nat.zero_add]
   refine qu hown ?_
   rw[vY,vE hj,vG,vE hj];rfl
  ·rw[he,←hk,List.take_length]
   exact qq ((Lib.containsS_iff ns nm).2 hin)
theorem qhe(base T:Nat)(ns:List ByteArray)(ps:List (Int×Int×Int))(nm:ByteArray)(wd at_ deep root aAt aW:Int)(sv av:Value)(w:World)(hE:Env w)(hN:xo nm)(hW:js nm)(hin:nm∈ns)(hk:ns.length<200)(hT:Qe base T ns ps w)(hd:deep<=6) :
 Calls prog 129 #[.pointer (some ⟨T,0,none⟩),.agg #[.string nm,.int .i64 wd,.int .i64 at_,sv,.int .i64 deep,.int .i64 root,.int .i64 aAt,.int .i64 aW,av]] w fun e w'=>
  e = .panicked (jQ 5)/\BX w w':=by
 obtain⟨nV,pV,hTc,hn,hp⟩:=hT
 obtain⟨k,hkn⟩:∃k,ns.length=k:=⟨_,rfl⟩
 rw[hkn] at hn hk
 have hkn:=vH hkn
 obtain⟨na,ncap,rfl⟩:=qx hn
 obtain⟨w0,hw0⟩:∃w0,w0=w.alloc (.cells #[.string nm,.int .i64 wd,.int .i64 at_,sv,.int .i64 deep,.int .i64 root,.int .i64 aAt,.int .i64 aW,av] 175):=⟨_,rfl⟩
 have hb0:BX w w0:=by rw[hw0];exact qi
 have hs0:qd w0 w.heap.size 175 #[.string nm,.int .i64 wd,.int .i64 at_,sv,.int .i64 deep,.int .i64 root,.int .i64 aAt,.int .i64 aW,av]:=by rw[hw0];exact qd.new _ _ _
 have hTc0:=hTc.below hb0 hTc.lt
 have hk2:(((k:Nat):Int)==200)=false:=by simp;omega
 have hd':¬ 6<deep:=by omega
 have C1:∀W,BX w0 W->Calls prog 169 #[.string nm] W fun e w'=>e = .returned (.bool true)/\BX W w':=fun W hb=>jF nm W ((hE.below hb0).below hb) hN hW
 have C2:∀W,BX w0 W->Calls prog 170 #[.slice na k ncap,.string nm] W fun e w'=>e = .returned (.bool true)/\W=w':=fun W hb=>
  qcD base k _ ns nm W hkn.out (by omega) (qe (qe hn hb0) hb) hin
 have hread:∀W,BX w0 W->(W.cell? ⟨w.heap.size,0,none⟩=some (.string nm)/\W.cell? ⟨w.heap.size,1,none⟩=some (.int .i64 wd)/\W.cell? ⟨w.heap.size,2,none⟩=some (.int .i64 at_)/\W.cell? ⟨w.heap.size,3,none⟩=some sv /\
  W.cell? ⟨w.heap.size,4,none⟩=some (.int .i64 deep)/\W.cell? ⟨w.heap.size,5,none⟩=some (.int .i64 root)/\W.cell? ⟨w.heap.size,6,none⟩=some (.int .i64 aAt)/\W.cell? ⟨w.heap.size,7,none⟩=some (.int .i64 aW)/\W.cell? ⟨w.heap.size,8,none⟩=some av /\
  W.cell? ⟨T,0,none⟩=some (.slice na k ncap)):=fun W hb=>by
  have a:=hs0.below hb hs0.lt
  have b:=hTc0.below hb hTc0.lt
  exact⟨a.cell rfl,a.cell rfl,a.cell rfl,a.cell rfl,a.cell rfl,a.cell rfl,a.cell rfl,a.cell rfl,a.cell rfl,b.cell rfl⟩
 have hR0:=hread w0 (kB _ _)
 rw[hw0] at hR0
 obtain⟨r0,r1,r2,r3,r4,r5,r6,r7,r8,r9⟩:=hR0
 go_enter func129,ntmps129
 go_wp2_with fail
 rw[←hw0]
 clear r0 r1 r2 r3 r4 r5 r6 r7 r8 r9 hw0
 obtain⟨r0,r1,r2,r3,r4,r5,r6,r7,r8,r9⟩:=hread w0 (kB _ _)
 go_region_held3 (fun w'=>w'.cell? ⟨w.heap.size,0,none⟩=some (.string nm)/\w'.cell? ⟨w.heap.size,1,none⟩=some (.int .i64 wd)/\w'.cell? ⟨w.heap.size,2,none⟩=some (.int .i64 at_)/\w'.cell? ⟨w.heap.size,3,none⟩=some (sv)/\w'.cell? ⟨w.heap.size,4,none⟩=some (.int .i64 deep)/\w'.cell? ⟨w.heap.size,5,none⟩=some (.int .i64 root)/\w'.cell? ⟨w.heap.size,6,none⟩=some (.int .i64 aAt)/\w'.cell? ⟨w.heap.size,7,none⟩=some (.int .i64 aW)/\w'.cell? ⟨w.heap.size,8,none⟩=some (av)/\w'.cell? ⟨T,0,none⟩=some (.slice na k ncap))
  (go_keep)
  ((first
    |(go_at_call 169;refine(C1 _ ((kB _ _).drew)).mono ?_;clear C1;rintro e W1 ⟨rfl,hb⟩;have hB1:BX w0 W1:=((kB _ _).drew).trans hb;have hR1:=hread W1 hB1)
    |(go_at_call 170;refine(C2 _ hB1).mono ?_;clear C2;rintro e W2 ⟨rfl,rfl⟩)))
 clear r0 r1 r2 r3 r4 r5 r6 r7 r8 r9
 go_wp2_with fail
 exact⟨rfl,rfl,hb0.trans (hB1.mono hb0.size)⟩
end
end Go.Proofs.YtomlgdnafeeeiaaGreatDoor
