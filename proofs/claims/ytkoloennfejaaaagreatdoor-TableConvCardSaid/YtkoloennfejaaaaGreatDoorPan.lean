/-
  A round of a range over a function that ends in a panic: the iterator is left by it, the statement too, and what the function that holds the loop has deferred is run. And what follows: see the heads within.
-/
import Derived.Test.YtkoloennfejaaaaGreatDoorGeoOne
import Derived.Test.YtkoloennfejaaaaGreatDoorGeoTwo
import Derived.Test.YtkoloennfejaaaaGreatDoorLexDesc
import Derived.RangeFuncLeaves
import Derived.WalkKit
import Derived.LaidEql
import Derived.Stop.Asserts
import Derived.RowKitTokens
set_option maxHeartbeats 4000000
set_option maxRecDepth 100000
namespace Go.Proofs.YtkoloennfejaaaaGreatDoor
open Go.RowKit
def xT(f:FuncId)(P:Program)(c:Code)(Q:Exit->Act->World->Prop)(a:Act)(w:World):Prop:=
 ∀ (b:Frame) (k:List Item) (cs:List Frame),b.roundOf=none->b.fn=f->∃e a' w',Q e a' w'/\ArrivesIn (Machine.fenced P Fence.wide) P (lone (b.atR a (.code c::k)) cs w) b k cs e a' w'
section
variable {f:FuncId} {n:Nat} {P:Program} {Q:Exit->Act->World->Prop} {a:Act} {w:World}
theorem xT.of{c:Code}(h:c.wpIn Fence.wide n P Q a w):xT f P c Q a w:=fun b k cs hro _=>h b k cs hro trivial (room_wide _)
theorem xT.seq{x y:Code}(h:xT f P x (Exit.then (xT f P y Q) Q) a w):xT f P (.seq x y) Q a w:=by
 intro b k cs hro hb
 have h0:(lone (b.atR a (.code (.seq x y)::k)) cs w).fenced P Fence.wide:=fenced_wide _ _
 obtain⟨e,a₁,w₁,hq,harr⟩:=h b (.code y::k) cs hro hb
 have hpass:e ≠ .normal->ArrivesIn (Machine.fenced P Fence.wide) P (lone (b.atR a (.code (.seq x y)::k)) cs w) b k cs e a₁ w₁:=fun hne=>
  .of_steps (.one h0 stepR_seq) (.pass (x:=.code y) rfl (fun _ _=>.inl hne) harr)
 cases e with
 |normal=>
  obtain⟨e₂,a₂,w₂,hq₂,harr₂⟩:=hq b k cs hro hb
  exact⟨e₂,a₂,w₂,hq₂,.of_steps (.head h0 stepR_seq harr) harr₂⟩
 | _=>exact⟨_,a₁,w₁,hq,hpass (by simp)⟩
theorem xT.block{id:Nat}{c:Code}(h:c.wpIn Fence.wide n P (Exit.inBlock id Q) a w):xT f P (.block id c) Q a w:=xT.of (wpIn_block h)
theorem Js{fn:Func}{c:Code}{args:Array Value}{R:Ending->World->Prop}(hf:P.funcs[f]?=some fn)(hb:fn.body=some c)
 (h:xT f P c (bodyPostM Fence.wide n P fn R) { tmps:=args++Array.replicate (fn.ntmps-args.size) undef,defers:=[] } w):CallsIn Fence.wide n P f args w R:=by
 refine⟨trivial,fun cs hr=>?_⟩
 let b:Frame:={ (default:Frame) with fn:=f,kind:=.normal,roundOf:=none }
 have henter:Frame.enter P f args .normal=b.atR { tmps:=args++Array.replicate (fn.ntmps-args.size) undef,defers:=[] } [.code c]:=by
  simp[Frame.enter,Frame.atR,hf,hb,b]
 obtain⟨e,a',w',hq,harr⟩:=h b [] cs rfl rfl
 rw[←henter] at harr
 have out:∀ (u:FrameMode) (todo:List Item),StepsIn (Machine.fenced P Fence.wide) P (lone (Frame.enter P f args .normal) cs w) (lone { b.atR a' todo with mode:=u } cs w')->LeavesInM Fence.wide n P fn a'.tmps R a'.defers u w' ->
  ∃e w' fr,R e w'/\ComesIn (Machine.fenced P Fence.wide) P (lone (Frame.enter P f args .normal) cs w) (lone fr cs w') e/\fr.fn=f/\fr.leaving P w' e:=fun u todo hs hl=>by
  obtain⟨e',w'',fr',hR,hs',hfn,hlv⟩:=leaves_stepsInM a'.defers u w' { b.atR a' todo with mode:=u } cs rfl rfl rfl hf rfl trivial hr hl
  exact⟨e',w'',fr',hR,ComesIn.of_steps hs hs',hfn,hlv⟩
 cases e with
 | normal=>exact out .returning [] (StepsIn.trans harr (.one (fenced_wide _ _) (stepR_end rfl))) hq
 | ret=>obtain⟨todo,hs⟩:=harr.1 rfl;exact out .returning todo hs hq
 | panic chain=>obtain⟨todo,hs⟩:=harr;exact out (.panicking chain) todo hs hq
 | exit id=>exact hq.elim
 | goto l=>exact hq.elim
 | outgrown=>exact⟨.outgrown,w',b,hq,harr.resolve_left (by simp[b]),rfl,trivial⟩
end
theorem Yw{n:Nat}{P:Program}{l:Nat}{f:FuncId}{fn:Func}{tmps:Array Value}{assign body:Code}{w:World}{chain:List PanicEntry}{R:World->Prop}(hf:P.funcs[f]?=some fn)
 (h:assign.wpIn (Fence.wide.inRound l) n P (Exit.then (fun a₁ w₁=>∃w₂,(Instr.beginRound l).run P w₁ = .ok () w₂ /\
   body.wpIn (Fence.wide.inRound l) n P (fun e a' w'=>e = .panic chain/\a'.defers = []/\R w') a₁ w₂) (fun _ _ _=>False)) { tmps:=tmps,defers:=[] } w) :
 RoundIn Fence.wide n P l f tmps assign body w fun e w'=>e = .panicked chain/\R w':=by
 refine⟨trivial,fun c cs hr=>?_⟩
 let b:Frame:={ (default:Frame) with fn:=f,kind:=.normal,roundOf:=some l }
 have hb0:Frame.round l f tmps assign body .normal=b.atR { tmps:=tmps,defers:=[] } [.code assign,.beginRound,.code body]:=by simp[Frame.round,Frame.atR,b]
 obtain⟨e,a₁,w₁,hq,harr⟩:=h b [.beginRound,.code body] (c::cs) rfl trivial hr
 rw[←hb0] at harr
 cases e with
 |normal=>
  obtain⟨w₂,hbr,hbody⟩:=hq
  obtain⟨e₂,a₂,w₃,⟨rfl,hd,hR⟩,todo,hs⟩:=hbody b [] (c::cs) rfl trivial hr
  have s1:StepsIn (Machine.fenced P Fence.wide) P (lone (b.atR a₁ [.beginRound,.code body]) (c::cs) w₁) (lone (b.atR a₁ [.code body]) (c::cs) w₂):=.one (fenced_wide _ _) (stepR_beginRound rfl hbr)
  exact⟨.panicked chain,w₃,⟨rfl,hR⟩,(StepsIn.trans harr s1).trans (StepsIn.trans hs (.one (fenced_wide _ _) (step_leave_panicked ⟨rfl,hd,fn,hf⟩)))⟩
 | exit id=>exact hq.elim
 | goto t=>exact hq.elim
 | ret=>exact hq.elim
 | panic ch=>exact hq.elim
 | outgrown=>exact hq.elim
end Go.Proofs.YtkoloennfejaaaaGreatDoor
namespace Go.Proofs.YtkoloennfejaaaaGreatDoor
open Go.RowKit
def qeu{α:Type}(n:Nat)(P:Program)(gf:Nat)(lb:Array Value)(encs:α->Array Value)(Ts:List Nat)(Ok:List α->α->Prop)(E:List α)(x0:α)(chain:List PanicEntry)(w0:World):Prop:=
 ∀ (l:Nat) (J:List α->World->Prop) (R:World->Prop) (W:World),Below w0.heap.size w0 W->(∀pre A B,J pre A->Below A.heap.size A B->J pre B) ->
  (∀pre x A,J pre A->Ok pre x->YieldAt Fence.wide (n-1) P l (encs x) A fun e B=>e = .returned (.bool true)/\J (pre++[x]) B/\Keeps Ts A B) ->
  (∀A,J E A->YieldAt Fence.wide (n-1) P l (encs x0) A fun e B=>e = .panicked chain/\R B) ->
  J [] W->CallsIn Fence.wide n P gf (#[.func (.yield l) #[] #[]]++lb) W fun e B=>e = .panicked chain/\R B
theorem Yx{α:Type}{n:Nat}{P:Program}{f:FuncId}{fv:Func}{g:Operand}{ps:Array Tmp}{assign body:Code}{Q:Exit->Act->World->Prop}{a:Act}{w w0:World}{gf:Nat}{lb:Array Value}(hf:P.funcs[f]?=some fv)
 (hg:a.eval g = .func (.func gf) #[] lb) (eg:∀args w,(callFunc gf args).run P w = .ok (.enter gf args) w)
 {encs:α->Array Value} {Ts:List Nat} {Ok:List α->α->Prop} {E:List α} {x0:α} {chain:List PanicEntry} (hit:qeu (n-1) P gf lb encs Ts Ok E x0 chain w0) (hb0:Below w0.heap.size w0 w) (hTs:∀t,t∈Ts->t<w.heap.size) (hps:∀x,(encs x).size=ps.size)
 (I:List α->World->Prop) (hI:OwnFrom w.heap.size I) (h0:I [] w) (Ax:α->Act->World->Prop) (hAx:∀x a',OwnFrom w.heap.size (fun(_:Unit) W=>Ax x a' W)) (Rb:World->Prop)
 (hassign:∀ (l:Nat) (pre:List α) (x:α) (W:World) (K:Act->World->Prop),I pre W->(Ok pre x∨(pre=E/\x=x0))->(∀a' W',KeepsFrom w.heap.size W W'->Keeps Ts W W'->I pre W'->Ax x a' W'->K a' W') ->
   assign.wpIn (Fence.wide.inRound l) (n-1-1) P (Exit.then K (fun _ _ _=>False)) { tmps:=(ps.zip (encs x)).foldl (fun t (p,v)=>t.setIfInBounds p v) a.tmps,defers:=[] } W)
 (hbody:∀ (l:Nat) (pre:List α) (x:α) (a':Act) (W:World),I pre W->Ax x a' W->Ok pre x->body.wpIn (Fence.wide.inRound l) (n-1-1) P (Yr w.heap.size Ts I (pre++[x]) W) a' W)
 (hlast:∀ (l:Nat) (a':Act) (W:World),I E W->Ax x0 a' W->body.wpIn (Fence.wide.inRound l) (n-1-1) P (fun e a'' W'=>e = .panic chain/\a''.defers = []/\KeepsFrom w.heap.size W W'/\Rb W') a' W)
 (hdone:∀ (D:Nat) (W:World),w.heap.size<=D->Rb W->W.heap[D]?=some (.deferred (some []))->Q (.panic chain) { a with defers:={ target:=.collected D,args:=#[] } :: a.defers } W) :
 xT f P (Code.rangeFunc g ps assign body) Q a w:=by
 intro b k cs hro hb
 obtain⟨rc,hrc⟩:∃rc:LoopState->Loop,rc=fun st=>{ state:=st,pending:=none,fn:=f,tmps:=a.tmps,params:=ps,assign,body,defers:=w.heap.size }:=⟨_,rfl⟩
 obtain⟨S,hS⟩:∃S,S=(w.alloc (.deferred (some []))).alloc (.loop (rc .ready)):=⟨_,rfl⟩
 have hSb:Below w.heap.size w S:=by rw[hS];exact((Below.refl _ w).alloc (Nat.le_refl _) _).alloc (by simp) _
 have hSl:S.heap[w.heap.size+1]?=some (.loop (rc .ready)):=by
  have:=World.alloc_heap_new (w.alloc (.deferred (some []))) (.loop (rc .ready))
  rw[World.size_alloc] at this;rw[hS];exact this
 have hSd:S.heap[w.heap.size]?=some (.deferred (some [])):=by
  rw[hS];exact(Below.heap_alloc _ _ _ (by simp)).trans (World.alloc_heap_new w _)
 have he:(Instr.enterLoop b.fn a.tmps ps assign body b.roundOf).run P w = .ok (w.heap.size+1,[{ target:=.collected w.heap.size,args:=#[] }]) S:=by
  rw[hro,hb,hS,hrc];exact run_enterLoop_outer _ _ _ _ _
 have hres:(resolve a.eval (rangeCall g (w.heap.size+1)) 0).run P S = .ok { target:=.fn (.func gf) lb,args:=#[.func (.yield (w.heap.size+1)) #[] #[]] } S:=by
  simp only[resolve,hg];simp[go_sem]
 have hinv:(invoke (.fn (.func gf) lb) #[.func (.yield (w.heap.size+1)) #[] #[]]).run P S = .ok (.enter gf (#[.func (.yield (w.heap.size+1)) #[] #[]]++lb)) S:=by
  simp[invoke,go_sem,eg]
 have henter:=stepR_rangeFunc (P:=P) (b:=b) (a:=a) (k:=k) (cs:=cs) (w:=w) he hres hinv
 have hcall:CallsIn Fence.wide (n-1) P gf (#[.func (.yield (w.heap.size+1)) #[] #[]]++lb) S fun e B=>e = .panicked chain/\(Rb B/\B.heap[w.heap.size]?=some (.deferred (some []))):=by
  refine hit (w.heap.size+1) (fun pre W=>I pre W/\W.heap[w.heap.size+1]?=some (.loop (rc .ready))/\W.heap[w.heap.size]?=some (.deferred (some []))) _ S (hb0.trans (hSb.mono hb0.size)) ?_ ?_ ?_ ?_
  ·rintro pre A B ⟨hi,hl,hd⟩ hb
   exact⟨hI pre A B none hi (qU hb) (fun r e=>by cases e),(hb.block _ (qm hl)).trans hl,(hb.block _ (qm hd)).trans hd⟩
  ·rintro pre x A ⟨hi,hl,hd⟩ hok
   have hy:=run_yield (P:=P) (args:=encs x) hl (by rw[hrc];exact hps x)
   rw[hrc] at hy
   refine⟨f,_,assign,body,hy,roundIn_of_wpIn trivial (hassign (w.heap.size+1) pre x A _ hi (.inl hok) ?_)⟩
   intro a' W hkf hk hiW hax
   have hlW:=hkf.same _ _ (by omega) hl rfl
   have hdW:=hkf.same _ _ (Nat.le_refl _) hd rfl
   refine⟨_,run_beginRound hlW (by rw[hrc]),?_⟩
   have hl1:(W.putObj (w.heap.size+1) (.loop { rc .ready with state:=.busy })).heap[w.heap.size+1]?=some (.loop { rc .ready with state:=.busy }):=World.putObj_heap_same (qm hlW)
   have hd1:(W.putObj (w.heap.size+1) (.loop { rc .ready with state:=.busy })).heap[w.heap.size]?=some (.deferred (some [])):=(World.putObj_heap_other (by omega)).trans hdW
   have hk1:Keeps Ts W (W.putObj (w.heap.size+1) (.loop { rc .ready with state:=.busy })):=jL hTs _ _ _ _ (by omega) hlW rfl rfl
   refine wpIn_mono (hbody (w.heap.size+1) pre x a' _ (hI.putObj _ hiW (by omega) hlW rfl) ((hAx x a').putObj (s:=()) _ hax (by omega) hlW rfl) hok) ?_
   intro e a2 W2 hp
   cases e with
   |normal=>
    obtain⟨hkf2,hk2,hi2⟩:=hp
    have hl2:=hkf2.same _ _ (by omega) hl1 rfl
    have hd2:=hkf2.same _ _ (Nat.le_refl _) hd1 rfl
    have he:=run_endRound (P:=P) none hl2
    refine⟨_,_,he,rfl,⟨hI.putObj _ hi2 (by omega) hl2 rfl,?_,(World.putObj_heap_other (by omega)).trans hd2⟩,((hk.trans hk1).trans hk2).trans (jL hTs _ _ _ _ (by omega) hl2 rfl rfl)⟩
    rw[World.putObj_heap_same (qm hl2),hrc];rfl
   | ret=>exact hp.elim
   | exit id=>exact hp.elim
   | goto t=>exact hp.elim
   | panic ch=>exact hp.elim
   | outgrown=>exact hp.elim
  ·rintro A ⟨hi,hl,hd⟩
   have hy:=run_yield (P:=P) (args:=encs x0) hl (by rw[hrc];exact hps x0)
   rw[hrc] at hy
   refine⟨f,_,assign,body,hy,Yw hf (hassign (w.heap.size+1) E x0 A _ hi (.inr ⟨rfl,rfl⟩) ?_)⟩
   intro a' W hkf _ hiW hax
   have hlW:=hkf.same _ _ (by omega) hl rfl
   have hdW:=hkf.same _ _ (Nat.le_refl _) hd rfl
   refine⟨_,run_beginRound hlW (by rw[hrc]),?_⟩
   have hd1:(W.putObj (w.heap.size+1) (.loop { rc .ready with state:=.busy })).heap[w.heap.size]?=some (.deferred (some [])):=(World.putObj_heap_other (by omega)).trans hdW
   refine wpIn_mono (hlast (w.heap.size+1) a' _ (hI.putObj _ hiW (by omega) hlW rfl) ((hAx x0 a').putObj (s:=()) _ hax (by omega) hlW rfl)) ?_
   rintro e a2 W2 ⟨rfl,hd2,hkf2,hR⟩
   exact⟨rfl,hd2,hR,hkf2.same _ _ (Nat.le_refl _) hd1 rfl⟩
  ·exact⟨hI [] w S none h0 (qU hSb) (fun r e=>by cases e),hSl,hSd⟩
 obtain⟨e,w₃,fr,⟨rfl,hR,hd⟩,hsteps,_,hleave⟩:=hcall.2 (b.atR { a with defers:={ target:=.collected w.heap.size,args:=#[] } :: a.defers } (.inRangeFunc (w.heap.size+1)::k)::cs) (room_wide _)
 refine⟨.panic chain,_,w₃,hdone w.heap.size w₃ (Nat.le_refl _) hR hd,.inRangeFunc (w.heap.size+1)::k,.head (fenced_wide _ _) henter (StepsIn.trans hsteps (.one (fenced_wide _ _) ?_))⟩
 rw[←Frame.raise_atR];exact step_leave_panicked hleave
open Go.RowKit Go.Shelf
attribute [local go_sem] Oper.semAt_some
theorem qac(l:Nat)(nm:ByteArray)(wd at_ deep root aAt aW:Int)(sv av:Value)(chain:List PanicEntry)(R:World->Prop)(W:World)
 (hY:YieldAt Fence.wide 0 Tryz.prog l #[.agg #[.string nm,.int .i64 wd,.int .i64 at_,sv,.int .i64 deep,.int .i64 root,.int .i64 aAt,.int .i64 aW,av]] (W.alloc (.cells #[.string nm,.int .i64 wd,.int .i64 at_,sv,.int .i64 deep,.int .i64 root,.int .i64 aAt,.int .i64 aW,av] 185)) fun e B=>e = .panicked chain/\R B) :
 Calls Tryz.prog 186 #[.agg #[.string nm,.int .i64 wd,.int .i64 at_,sv,.int .i64 deep,.int .i64 root,.int .i64 aAt,.int .i64 aW,av],.func (.yield l) #[] #[]] W fun e B=>e = .panicked chain/\R B:=by
 obtain⟨fn,tmps,assign,body,hy,hR⟩:=ze (m':=0) hY
 refine(callsIn_wide (n:=1)).1 ?_
 refine callsIn_of_wp Tryz.func186 rfl trivial ?_ rfl
 simp only[Tryz.ntmps186,List.size_toArray,List.length_cons,List.length_nil,Nat.reduceAdd,Nat.reduceSub,Array.replicate_succ,Array.replicate_zero,List.push_toArray,List.append_toArray,List.nil_append,List.cons_append]
 gi_wp2_with (refine hR.mono ?_;clear hR;rintro e W1 ⟨rfl,hr⟩)
 exact⟨rfl,rfl,hr⟩
end Go.Proofs.YtkoloennfejaaaaGreatDoor
namespace Go.Proofs.YtkoloennfejaaaaGreatDoor
open Go.RowKit
def zJ(n:Int):List PanicEntry:=[{ v:=.iface 173 (.int .i64 n),recovered:=false }]
theorem qgd(nm:ByteArray)(wd at_ deep root aAt aW:Int)(sv av:Value)(w:World)(h:wd<1∨(¬ wd<1/\64<wd)) :
 Calls Tryz.prog 189 #[.agg #[.string nm,.int .i64 wd,.int .i64 at_,sv,.int .i64 deep,.int .i64 root,.int .i64 aAt,.int .i64 aW,av]] w fun e w'=>
  e = .returned (.bool false)/\Below w.heap.size w w':=by
 rcases h with h|⟨h',h⟩
 ·have i1:¬ 1<=wd:=by omega
  go_enter Tryz.func189,Tryz.ntmps189
  go_wp2
  go_ret
  exact⟨rfl,qe⟩
 ·have i1:1<=wd:=by omega
  have i2:¬ wd<=64:=by omega
  go_enter Tryz.func189,Tryz.ntmps189
  go_wp2
  go_ret
  exact⟨rfl,qe⟩
theorem qev(base T:Nat)(ns:List ByteArray)(ps:List (Int×Int×Int))(nm:ByteArray)(wd at_ deep root aAt aW:Int)(sv av:Value)(w:World)(hk:ns.length=200)(hT:Taken base T ns ps w)(hd:deep<=6) :
 Calls Tryz.prog 153 #[.pointer (some ⟨T,0,none⟩),.agg #[.string nm,.int .i64 wd,.int .i64 at_,sv,.int .i64 deep,.int .i64 root,.int .i64 aAt,.int .i64 aW,av]] w fun e w'=>
  e = .panicked (zJ 2)/\Below w.heap.size w w':=by
 obtain⟨nV,pV,hTc,hn,hp⟩:=hT
 rw[hk] at hn
 obtain⟨na,ncap,rfl⟩:=qk hn
 have t0:=hTc.cell (j:=0) (v:=.slice na 200 ncap) rfl
 have t1:=fun o=>qf o t0
 have hd':¬ 6<deep:=by omega
 go_enter Tryz.func153,Tryz.ntmps153
 go_wp2_with fail
 exact⟨rfl,rfl,qe⟩
theorem qew(base T:Nat)(ns:List ByteArray)(ps:List (Int×Int×Int))(nm:ByteArray)(wd at_ deep root aAt aW:Int)(sv av:Value)(w:World)(hE:Env w)(hN:qS nm)(hW:zz nm)(hno:nm∉ns)(hk:ns.length<200)(hT:Taken base T ns ps w)(hd:deep<=6)
 (hw:wd<1∨(¬ wd<1/\64<wd)) :
 Calls Tryz.prog 153 #[.pointer (some ⟨T,0,none⟩),.agg #[.string nm,.int .i64 wd,.int .i64 at_,sv,.int .i64 deep,.int .i64 root,.int .i64 aAt,.int .i64 aW,av]] w fun e w'=>
  e = .panicked (zJ 6)/\Below w.heap.size w w':=by
 obtain⟨nV,pV,hTc,hn,hp⟩:=hT
 obtain⟨k,hkn⟩:∃k,ns.length=k:=⟨_,rfl⟩
 rw[hkn] at hn hk
 have hkn:=Lib.hid hkn
 obtain⟨na,ncap,rfl⟩:=qk hn
 obtain⟨w0,hw0⟩:∃w0,w0=w.alloc (.cells #[.string nm,.int .i64 wd,.int .i64 at_,sv,.int .i64 deep,.int .i64 root,.int .i64 aAt,.int .i64 aW,av] 185):=⟨_,rfl⟩
 have hb0:Below w.heap.size w w0:=by rw[hw0];exact qe
 have hs0:Cells w0 w.heap.size 185 #[.string nm,.int .i64 wd,.int .i64 at_,sv,.int .i64 deep,.int .i64 root,.int .i64 aAt,.int .i64 aW,av]:=by rw[hw0];exact Cells.new _ _ _
 have hTc0:=hTc.below hb0 hTc.lt
 have hk2:(((k:Nat):Int)==200)=false:=by simp;omega
 have hd':¬ 6<deep:=by omega
 have C1:∀W,Below w0.heap.size w0 W->Calls Tryz.prog 187 #[.string nm] W fun e w'=>e = .returned (.bool true)/\Below W.heap.size W w':=fun W hb=>zE nm W ((hE.below hb0).below hb) hN hW
 have C2:∀W,Below w0.heap.size w0 W->Calls Tryz.prog 188 #[.slice na k ncap,.string nm] W fun e w'=>e = .returned (.bool false)/\W=w':=fun W hb=>
  ju base k _ ns nm W hkn.out (by omega) (qb (qb hn hb0) hb) hno
 have C3:=fun W=>qgd nm wd at_ deep root aAt aW sv av W hw
 have hread:∀W,Below w0.heap.size w0 W->(W.cell? ⟨w.heap.size,0,none⟩=some (.string nm)/\W.cell? ⟨w.heap.size,1,none⟩=some (.int .i64 wd)/\W.cell? ⟨w.heap.size,2,none⟩=some (.int .i64 at_)/\W.cell? ⟨w.heap.size,3,none⟩=some sv /\
  W.cell? ⟨w.heap.size,4,none⟩=some (.int .i64 deep)/\W.cell? ⟨w.heap.size,5,none⟩=some (.int .i64 root)/\W.cell? ⟨w.heap.size,6,none⟩=some (.int .i64 aAt)/\W.cell? ⟨w.heap.size,7,none⟩=some (.int .i64 aW)/\W.cell? ⟨w.heap.size,8,none⟩=some av /\
  W.cell? ⟨T,0,none⟩=some (.slice na k ncap)):=fun W hb=>by
  have a:=hs0.below hb hs0.lt
  have b:=hTc0.below hb hTc0.lt
  exact⟨a.cell rfl,a.cell rfl,a.cell rfl,a.cell rfl,a.cell rfl,a.cell rfl,a.cell rfl,a.cell rfl,a.cell rfl,b.cell rfl⟩
 have hR0:=hread w0 (Below.refl _ _)
 rw[hw0] at hR0
 obtain⟨r0,r1,r2,r3,r4,r5,r6,r7,r8,r9⟩:=hR0
 clear hw
 go_enter Tryz.func153,Tryz.ntmps153
 go_wp2_with fail
 rw[←hw0]
 clear r0 r1 r2 r3 r4 r5 r6 r7 r8 r9 hw0
 obtain⟨r0,r1,r2,r3,r4,r5,r6,r7,r8,r9⟩:=hread w0 (Below.refl _ _)
 go_region_held3 (fun w'=>w'.cell? ⟨w.heap.size,0,none⟩=some (.string nm)/\w'.cell? ⟨w.heap.size,1,none⟩=some (.int .i64 wd)/\w'.cell? ⟨w.heap.size,2,none⟩=some (.int .i64 at_)/\w'.cell? ⟨w.heap.size,3,none⟩=some (sv)/\w'.cell? ⟨w.heap.size,4,none⟩=some (.int .i64 deep)/\w'.cell? ⟨w.heap.size,5,none⟩=some (.int .i64 root)/\w'.cell? ⟨w.heap.size,6,none⟩=some (.int .i64 aAt)/\w'.cell? ⟨w.heap.size,7,none⟩=some (.int .i64 aW)/\w'.cell? ⟨w.heap.size,8,none⟩=some (av)/\w'.cell? ⟨T,0,none⟩=some (.slice na k ncap))
  (go_keep)
  ((first
    |(go_at_call 187;refine(C1 _ ((Below.refl _ _).drew)).mono ?_;clear C1;rintro e W1 ⟨rfl,hb⟩;have hB1:Below w0.heap.size w0 W1:=((Below.refl _ _).drew).trans hb;have hR1:=hread W1 hB1)
    |(go_at_call 188;refine(C2 _ hB1).mono ?_;clear C2;rintro e W2 ⟨rfl,rfl⟩)))
 clear r0 r1 r2 r3 r4 r5 r6 r7 r8 r9
 go_wp2_with (go_at_call 189;refine(C3 _).mono ?_;clear C3;rintro e W3 ⟨rfl,hb3⟩;have hB3:=hB1.trans (hb3.mono hB1.size))
 exact⟨rfl,rfl,hb0.trans (hB3.mono hb0.size)⟩
open Go.RowKit Go.Extern.Stop Go.Stop Go.Extern
theorem XG(v:Value)(h:(#[v]:Array Value).size=1)(h':0<1):(#[v]:Array Value).getLit 0 h h'=v:=rfl
theorem qby(v x:Value)(h:(#[v,x]:Array Value).size=2)(h':0<2):(#[v,x]:Array Value).getLit 0 h h'=v:=rfl
theorem qbz(v x:Value)(h:(#[v,x]:Array Value).size=2)(h':1<2):(#[v,x]:Array Value).getLit 1 h h'=x:=rfl
theorem Yy(t:Addr)(w:World):(ReflectliteValue.unpack (.iface 178 (.pointer (some t)))).run Tryz.prog w
 = .ok (.agg #[.pointer (some ⟨9,178,none⟩),.pointer (some ⟨w.heap.size,0,none⟩),.int .u64 150]) (w.alloc (.cells #[.pointer (some t)] 178)):=by kernel_rfl
theorem qdm (a : Addr) (w : World) : (ReflectliteValue.methodAny (ReflectliteValue.valueError "reflectlite.Value.Type" 0) (fun t _ _ _ => ReflectliteType.toType t) #[.agg #[.pointer (some ⟨9, 178, none⟩), .pointer (some a), .int .u64 150]]).run Tryz.prog w
 = .ok (.iface 238 (.agg #[.pointer (some ⟨9,178,none⟩)])) w:=by kernel_rfl
theorem Jt (k : Nat) (h : Value) (w : World) : (Go.method (k + 1) 238 (.agg #[h]) "Kind").run Tryz.prog w = .ok (293, h) w := by kernel_rfl
theorem qdn(w:World):((ReflectliteType.abiMethod fun t=>(fun a:Nat=>Value.int IntKind.u8 (a:Int)) <$> Rtype.kind t) #[.pointer (some ⟨9,178,none⟩)]).run Tryz.prog w = .ok (.int .u8 22) w:=by kernel_rfl
theorem qdo(w:World):((ReflectliteType.abiMethod fun t=>(fun a:Nat=>Value.int IntKind.u8 (a:Int)) <$> Rtype.kind t) #[.pointer (some ⟨9,173,none⟩)]).run Tryz.prog w = .ok (.int .u8 2) w:=by kernel_rfl
theorem XH(a:Addr)(w:World):(ReflectliteValue.parts (.agg #[.pointer (some ⟨9,178,none⟩),.pointer (some a),.int .u64 150])).run Tryz.prog w = .ok (some (178,a,150)) w:=by kernel_rfl
theorem qbA(a p:Addr)(W:World)(ha:W.cell? a=some (.pointer (some p))) :
 (ReflectliteValue.method (ReflectliteValue.valueError "reflectlite.Value.IsNil" 0) ReflectliteValue.isNil #[.agg #[.pointer (some ⟨9, 178, none⟩), .pointer (some a), .int .u64 150]]).run Tryz.prog W = .ok (.bool false) W := by
 change Sem.run Tryz.prog (_ >>= _) _=_
 simp only[XG,Sem.run_bind,XH,Result.andThen]
 simp[ReflectliteValue.isNil,loadVar,isAgg,underlying,Tryz.underlying178,ha,Result.andThen]
theorem Ju (k : Nat) (h : Value) (w : World) : (Go.method (k + 1) 238 (.agg #[h]) "Elem").run Tryz.prog w = .ok (303, .agg #[h]) w := by kernel_rfl
theorem Qr (k : Nat) (h : Value) (w : World) : (Go.method (k + 1) 238 (.agg #[h]) "Implements").run Tryz.prog w = .ok (304, .agg #[h]) w := by kernel_rfl
theorem yP (k : Nat) (h : Value) (w : World) : (Go.method (k + 1) 238 (.agg #[h]) "AssignableTo").run Tryz.prog w = .ok (301, .agg #[h]) w := by kernel_rfl
theorem qdp(w:World):(ReflectliteType.method ReflectliteType.elem #[.agg #[.pointer (some ⟨9,178,none⟩)]]).run Tryz.prog w = .ok (.iface 238 (.agg #[.pointer (some ⟨9,173,none⟩)])) w:=by kernel_rfl
theorem Xj (w : World) : (ReflectliteType.relation "Implements" ReflectliteType.implements_ #[.agg #[.pointer (some ⟨9, 173, none⟩)], .iface 238 (.agg #[.pointer (some ⟨9, 175, none⟩)])]).run Tryz.prog w = .ok (.bool true) w := by kernel_rfl
theorem qad(v:Value)(w:World):(ReflectliteType.typeOf #[.iface 173 v]).run Tryz.prog w = .ok (.iface 238 (.agg #[.pointer (some ⟨9,173,none⟩)])) w:=by kernel_rfl
theorem Xk (w : World) : (ReflectliteType.relation "AssignableTo" ReflectliteType.assignableTo #[.agg #[.pointer (some ⟨9, 173, none⟩)], .iface 238 (.agg #[.pointer (some ⟨9, 173, none⟩)])]).run Tryz.prog w = .ok (.bool true) w := by kernel_rfl
theorem Yz(e:Int)(w:World):(ReflectliteValue.unpack (.iface 173 (.int .i64 e))).run Tryz.prog w
 = .ok (.agg #[.pointer (some ⟨9,173,none⟩),.pointer (some ⟨w.heap.size,0,none⟩),.int .u64 130]) (w.alloc (.cells #[.int .i64 e] 173)):=by kernel_rfl
theorem qae(w:World):(Rtype.elem? 178).run Tryz.prog w = .ok (some 173) w:=by kernel_rfl
theorem qge(p:Addr)(w:World):(ReflectliteValue.mk 173 p ReflectliteValue.flagAddr).run Tryz.prog w = .ok (.agg #[.pointer (some ⟨9,173,none⟩),.pointer (some p),.int .u64 386]) w:=by kernel_rfl
theorem qbB(a p:Addr)(W:World)(ha:W.cell? a=some (.pointer (some p))) :
 (ReflectliteValue.method (ReflectliteValue.valueError "reflectlite.Value.Elem" 0) ReflectliteValue.elem #[.agg #[.pointer (some ⟨9, 178, none⟩), .pointer (some a), .int .u64 150]]).run Tryz.prog W
   = .ok (.agg #[.pointer (some ⟨9,173,none⟩),.pointer (some p),.int .u64 386]) W:=by
 change Sem.run Tryz.prog (_ >>= _) _=_
 simp only[XG,Sem.run_bind,XH,Result.andThen]
 simp[ReflectliteValue.elem,loadVar,isAgg,underlying,Tryz.underlying178,ha,Result.andThen,qae,qge]
theorem qaf(a:Addr)(w:World):(ReflectliteValue.parts (.agg #[.pointer (some ⟨9,173,none⟩),.pointer (some a),.int .u64 386])).run Tryz.prog w = .ok (some (173,a,386)) w:=by kernel_rfl
theorem qbC(a:Addr)(w:World):(ReflectliteValue.parts (.agg #[.pointer (some ⟨9,173,none⟩),.pointer (some a),.int .u64 130])).run Tryz.prog w = .ok (some (173,a,130)) w:=by kernel_rfl
theorem qag(w:World):(Rtype.directlyAssignable 173 173).run Tryz.prog w = .ok true w:=by kernel_rfl
theorem qex(ta b:Addr)(e:Int)(old:Value)(W:World)(hb:W.cell? b=some (.int .i64 e))(ht:W.cell? ta=some old)(hf:W.frozen? ta=false) :
 (ReflectliteValue.set #[.agg #[.pointer (some ⟨9,173,none⟩),.pointer (some ta),.int .u64 386],.agg #[.pointer (some ⟨9,173,none⟩),.pointer (some b),.int .u64 130]]).run Tryz.prog W
   = .ok (.tuple #[]) (W.setCell ta (.int .i64 e)):=by
 change Sem.run Tryz.prog (_ >>= _) _=_
 simp only[qby,qbz,Sem.run_bind,qaf,qbC,Result.andThen]
 simp[ReflectliteValue.flagAddr,loadVar,isAgg,underlying,Tryz.underlying173,hb,Result.andThen,qag,storeVar,Value.cells,storeCells,Addr.add]
 rw[run_store Tryz.prog W ta _ _ (by rfl)]
 simp[ht,hf]
theorem qey(e:Int)(t:Addr)(old:Value)(w:World)(hg:w.cell? ⟨1,0,none⟩=some (.iface 238 (.agg #[.pointer (some ⟨9,175,none⟩)])))(ht0:w.cell? t=some old)(hf0:w.frozen? t=false) :
 Calls Tryz.prog 151 #[.iface 173 (.int .i64 e),.iface 178 (.pointer (some t))] w fun ev w'=>ev = .returned (.bool true)/\w'=((((w.alloc (.cells #[.pointer (some t)] 178)).alloc (.cells #[.pointer (some ⟨9,178,none⟩),.pointer (some ⟨w.heap.size,0,none⟩),.int .u64 150] 215)).alloc (.cells #[.pointer (some ⟨9,178,none⟩),.pointer (some ⟨w.heap.size,0,none⟩),.int .u64 150] 215)).alloc (.cells #[.int .i64 e] 173)).setCell t (.int .i64 e):=by
 have h6:=@run_callFunc_extern Tryz.prog 181 _ (fun args=>ReflectliteValue.unpack (args.getD 0 (.tuple #[]))) Tryz.func181 (by kernel_rfl) (by kernel_rfl) (by kernel_rfl) (by kernel_rfl)
 have h7 := @run_callFunc_extern Tryz.prog 182 _ (ReflectliteValue.methodAny (ReflectliteValue.valueError "reflectlite.Value.Type" 0) (fun t _ _ _ => ReflectliteType.toType t)) Tryz.func182 (by kernel_rfl) (by kernel_rfl) (by kernel_rfl) (by kernel_rfl)
 have h8 := @run_callFunc_extern Tryz.prog 183 _ (ReflectliteValue.method (ReflectliteValue.valueError "reflectlite.Value.IsNil" 0) ReflectliteValue.isNil) Tryz.func183 (by kernel_rfl) (by kernel_rfl) (by kernel_rfl) (by kernel_rfl)
 have h27:=@run_callFunc_extern Tryz.prog 293 _ (ReflectliteType.abiMethod fun t=>do pure (.int .u8 (←Rtype.kind t))) Tryz.func293 (by kernel_rfl) (by kernel_rfl) (by kernel_rfl) (by kernel_rfl)
 have h37:=@run_callFunc_extern Tryz.prog 303 _ (ReflectliteType.method ReflectliteType.elem) Tryz.func303 (by kernel_rfl) (by kernel_rfl) (by kernel_rfl) (by kernel_rfl)
 have h38 := @run_callFunc_extern Tryz.prog 304 _ (ReflectliteType.relation "Implements" ReflectliteType.implements_) Tryz.func304 (by kernel_rfl) (by kernel_rfl) (by kernel_rfl) (by kernel_rfl)
 have h10:=@run_callFunc_extern Tryz.prog 209 _ ReflectliteType.typeOf Tryz.func209 (by kernel_rfl) (by kernel_rfl) (by kernel_rfl) (by kernel_rfl)
 have h35 := @run_callFunc_extern Tryz.prog 301 _ (ReflectliteType.relation "AssignableTo" ReflectliteType.assignableTo) Tryz.func301 (by kernel_rfl) (by kernel_rfl) (by kernel_rfl) (by kernel_rfl)
 have h11 := @run_callFunc_extern Tryz.prog 210 _ (ReflectliteValue.method (ReflectliteValue.valueError "reflectlite.Value.Elem" 0) ReflectliteValue.elem) Tryz.func210 (by kernel_rfl) (by kernel_rfl) (by kernel_rfl) (by kernel_rfl)
 have h12:=@run_callFunc_extern Tryz.prog 211 _ ReflectliteValue.set Tryz.func211 (by kernel_rfl) (by kernel_rfl) (by kernel_rfl) (by kernel_rfl)
 have tO:=qad
 have mA:=yP
 have a25:=Xk
 have v25:=Yz
 have f6:=Yy
 have f7:=qdm
 have mK:=Jt
 have mE:=Ju
 have mI:=Qr
 have k27:=qdn
 have k25:=qdo
 have e27:=qdp
 have i25:=Xj
 have n8:=qbA ⟨w.heap.size,0,none⟩ t ((w.alloc (.cells #[.pointer (some t)] 178)).alloc (.cells #[.pointer (some ⟨9,178,none⟩),.pointer (some ⟨w.heap.size,0,none⟩),.int .u64 150] 215)) (by simp)
 have hlt:1<w.heap.size:=World.block_lt_of_cell? _ _ hg
 have hg2:((w.alloc (.cells #[.pointer (some t)] 178)).alloc (.cells #[.pointer (some ⟨9,178,none⟩),.pointer (some ⟨w.heap.size,0,none⟩),.int .u64 150] 215)).cell? ⟨1,0,none⟩=some (.iface 238 (.agg #[.pointer (some ⟨9,175,none⟩)])):=by
  rw[World.cell?_alloc_lt _ _ ⟨1,0,none⟩ (by simp <;> omega),World.cell?_alloc_lt _ _ ⟨1,0,none⟩ hlt];exact hg
 have htl:t.block<w.heap.size:=by
  rcases Nat.lt_or_ge t.block w.heap.size with h|h
  ·exact h
  ·simp[World.cell?,Array.getElem?_eq_none h] at ht0
 have el:=qbB ⟨w.heap.size,0,none⟩ t (((w.alloc (.cells #[.pointer (some t)] 178)).alloc (.cells #[.pointer (some ⟨9,178,none⟩),.pointer (some ⟨w.heap.size,0,none⟩),.int .u64 150] 215)).alloc (.cells #[.pointer (some ⟨9,178,none⟩),.pointer (some ⟨w.heap.size,0,none⟩),.int .u64 150] 215)) (by rw[World.cell?_alloc_lt _ _ ⟨w.heap.size,0,none⟩ (by simp;omega)];simp)
 have st:=qex t ⟨w.heap.size+1+1+1,0,none⟩ e old ((((w.alloc (.cells #[.pointer (some t)] 178)).alloc (.cells #[.pointer (some ⟨9,178,none⟩),.pointer (some ⟨w.heap.size,0,none⟩),.int .u64 150] 215)).alloc (.cells #[.pointer (some ⟨9,178,none⟩),.pointer (some ⟨w.heap.size,0,none⟩),.int .u64 150] 215)).alloc (.cells #[.int .i64 e] 173))
  (by rw[World.cell?_alloc_at _ _ _ _ (by simp)];rfl)
  (by rw[World.cell?_alloc_lt _ _ t (by simp;omega),World.cell?_alloc_lt _ _ t (by simp;omega),World.cell?_alloc_lt _ _ t (by simp;omega),World.cell?_alloc_lt _ _ t htl];exact ht0)
  (by rw[World.frozen?_alloc_old _ _ t (by simp;omega),World.frozen?_alloc_old _ _ t (by simp;omega),World.frozen?_alloc_old _ _ t (by simp;omega),World.frozen?_alloc_old _ _ t (Nat.ne_of_lt htl)];exact hf0)
 go_enter Tryz.func151,Tryz.ntmps151
 go_wp2
 refine wp_loop_rounds 1 ?_
 rw[rounds_succ]
 go_wp2
 go_ret
 exact⟨rfl,rfl⟩
end Go.Proofs.YtkoloennfejaaaaGreatDoor
namespace Go.Proofs.YtkoloennfejaaaaGreatDoor
open Go.RowKit Go.Shelf
attribute [local go_sem] Oper.semAt_some
def Zd(w:World):Prop:=w.cell? ⟨1,0,none⟩=some (.iface 238 (.agg #[.pointer (some ⟨9,175,none⟩)]))
theorem Zd.below{A B:World}(h:Zd A)(hb:Below A.heap.size A B):Zd B:=cell_below hb h
theorem qgf(n:Int)(p:Addr)(old:Value)(w:World)(hA:Zd w)(hp:w.cell? p=some old)(hf:w.frozen? p=false) :
 Calls Tryz.prog 151 #[.iface 173 (.int .i64 n),.iface 178 (.pointer (some ⟨w.heap.size,0,none⟩))] (w.alloc (.cells #[.int .i64 0] 173)) fun e W=>
  e = .returned (.bool true)/\W.cell? ⟨w.heap.size,0,none⟩=some (.int .i64 n)/\W.cell? p=some old/\W.frozen? p=false/\Below w.heap.size w W:=by
 have hlt:p.block<w.heap.size:=World.block_lt_of_cell? _ _ hp
 refine(qey n ⟨w.heap.size,0,none⟩ (.int .i64 0) (w.alloc (.cells #[.int .i64 0] 173)) (hA.below (qe)) (by simp) (by simp)).mono ?_
 rintro e W ⟨rfl,rfl⟩
 have hc:Cells ((((((w.alloc (.cells #[.int .i64 0] 173)).alloc (.cells #[.pointer (some ⟨w.heap.size,0,none⟩)] 178)).alloc (.cells #[.pointer (some ⟨9,178,none⟩),.pointer (some ⟨(w.alloc (.cells #[.int .i64 0] 173)).heap.size,0,none⟩),.int .u64 150] 215)).alloc (.cells #[.pointer (some ⟨9,178,none⟩),.pointer (some ⟨(w.alloc (.cells #[.int .i64 0] 173)).heap.size,0,none⟩),.int .u64 150] 215)).alloc (.cells #[.int .i64 n] 173)).setCell ⟨w.heap.size,0,none⟩ (.int .i64 n)) w.heap.size 173 #[.int .i64 n]:=
  (((((Cells.new w _ _).alloc _).alloc _).alloc _).alloc _).set (j:=0) (.int .i64 n)
 have hB:Below w.heap.size w ((((((w.alloc (.cells #[.int .i64 0] 173)).alloc (.cells #[.pointer (some ⟨w.heap.size,0,none⟩)] 178)).alloc (.cells #[.pointer (some ⟨9,178,none⟩),.pointer (some ⟨(w.alloc (.cells #[.int .i64 0] 173)).heap.size,0,none⟩),.int .u64 150] 215)).alloc (.cells #[.pointer (some ⟨9,178,none⟩),.pointer (some ⟨(w.alloc (.cells #[.int .i64 0] 173)).heap.size,0,none⟩),.int .u64 150] 215)).alloc (.cells #[.int .i64 n] 173)).setCell ⟨w.heap.size,0,none⟩ (.int .i64 n)):=
  ((((((Below.refl _ w).alloc (Nat.le_refl _) _).alloc (by simp) _).alloc (by simp;omega) _).alloc (by simp;omega) _).alloc (by simp;omega) _).setCell (p:=⟨w.heap.size,0,none⟩) (Nat.le_refl _) _
 exact⟨rfl,hc.cell rfl,(hB.cell hlt).trans hp,(hB.frozen hlt).trans hf,hB⟩
theorem qdq(m:Nat)(n:Int)(p:Addr)(old:Value)(w:World)(hA:Zd w)(hp:w.cell? p=some old)(hf:w.frozen? p=false) :
 CallsDIn Fence.wide m Tryz.prog 150 #[.pointer (some p)] (.panicking (zJ n)) w fun e u' w'=>e = .returned (.tuple #[])/\settle u' = .returning/\∃w1,Below w.heap.size w w1/\w'=w1.setCell p (.int .i64 n):=by
 have hta:∀w,(Instr.typeAssert (.iface 173 (.int .i64 n)) 20 175 true).run Tryz.prog w = .ok (.tuple #[.iface 173 (.int .i64 n),.bool true]) w:=fun _=>by kernel_rfl
 have hAs:=qgf n p old w hA hp hf
 refine callsDIn_of_wpSIn Tryz.func150 rfl trivial fun c₀ cs hu=>?_
 apply wpSIn_seq
 apply wpSIn_region
 simp[wpOpsSIn,go_sem,Tryz.ntmps150,Exit.thenS,Array.replicate_succ]
 apply wpSIn_seq
 apply wpSIn_region
 simp[wpOpsSIn,go_sem,recoverD,hu,hta,Exit.thenS,zJ]
 refine wpSIn_of_wpIn (F:=Fence.wide) rfl ?_
 clear hta hA hp hf
 gi_wp2_with (refine⟨trivial,(fun h=>absurd h (by decide)),(callsIn_wide.2 hAs).mono ?_⟩;clear hAs;rintro e W1 ⟨rfl,hc1,hp1,hf1,hB⟩)
 exact⟨rfl,_,rfl,.tuple #[],by simp[results,Tryz.results150,go_sem],rfl,by simp[settle],W1,hB,rfl⟩
theorem xT.block_panics{f:FuncId}{P:Program}{Q:Exit->Act->World->Prop}{a:Act}{w:World}{id:Nat}{c:Code}{ch:List PanicEntry}(h:xT f P c (fun e a' w'=>e = .panic ch/\Q (.panic ch) a' w') a w):xT f P (.block id c) Q a w:=by
 intro b k cs hro hb
 obtain⟨e,a₁,w₁,⟨rfl,hq⟩,harr⟩:=h b (.inBlock id::k) cs hro hb
 exact⟨.panic ch,a₁,w₁,hq,.of_steps (.one (fenced_wide _ _) stepR_block) harr⟩
def jj(w:World)(n:Int)(e:Ending)(w':World):Prop:=e = .returned (.tuple #[.slice none 0 0,.slice none 0 0,.int .i64 n])/\Below w.heap.size w w'
def qgT(w W:World):Prop:=Below w.heap.size w W/\Cells W w.heap.size 63 #[.int .i64 0]/\w.heap.size+3<=W.heap.size
def QK(w:World)(b' o' c' len:Nat)(x:Spot)(Bt:Nat):Act:={ tmps:=#[Value.slice (some ⟨b',o',none⟩) len c',undef,Value.slice none 0 0,Value.slice none 0 0,Value.pointer (some ⟨w.heap.size,0,none⟩),Value.pointer (some ⟨w.heap.size+1,0,none⟩),Value.pointer (some ⟨Bt,0,none⟩),Value.func (.func 150) #[] #[.pointer (some ⟨w.heap.size,0,none⟩)],Value.slice (some ⟨b',o',none⟩) len c',Value.func (.func 185) #[] #[.pointer (some ⟨w.heap.size+1+1,0,none⟩)],Value.agg #[.string x.name,.int .i64 x.wd,.int .i64 x.at_,x.sv,.int .i64 x.deep,.int .i64 x.root,.int .i64 x.aAt,.int .i64 x.aW,x.av],undef,undef,undef,undef,undef,undef],defers:=[] }
end Go.Proofs.YtkoloennfejaaaaGreatDoor
namespace Go.Proofs.YtkoloennfejaaaaGreatDoor
open Go.RowKit
theorem YA(base k:Nat)(nV:Value)(ns:List ByteArray)(nm:ByteArray)(w:World)(hk:ns.length=k)(hsz:k<=200)(hown:w.ownsRow base 9 1 nV k (ns.map Value.string))(hin:nm∈ns) :
 Calls Tryz.prog 188 #[nV,.string nm] w fun e w'=>e = .returned (.bool true)/\w=w':=by
 rcases hown.2 with⟨rfl,h0⟩|⟨g,cap,cur,rfl,_,_,_,hcap,_,_⟩
 ·rw[h0] at hk
  rw[List.length_eq_zero_iff.1 hk] at hin
  cases hin
 ·refine(Tryz.slices_Contains_string g 0 k cap ns nm w (by omega) (by omega) (fun j hj=>?_)).mono fun e w' ⟨he,hw⟩=>⟨?_,hw.symm⟩
  ·rw[Nat.zero_add]
   refine qi hown ?_
   rw[List.getElem?_map,List.getElem?_eq_getElem hj,List.getD_eq_getElem?_getD,List.getElem?_eq_getElem hj];rfl
  ·rw[he,←hk,List.take_length]
   exact qg ((Lib.containsS_iff ns nm).2 hin)
theorem qdr(base T:Nat)(ns:List ByteArray)(ps:List (Int×Int×Int))(nm:ByteArray)(wd at_ deep root aAt aW:Int)(sv av:Value)(w:World)(hE:Env w)(hN:qS nm)(hW:zz nm)(hin:nm∈ns)(hk:ns.length<200)(hT:Taken base T ns ps w)(hd:deep<=6) :
 Calls Tryz.prog 153 #[.pointer (some ⟨T,0,none⟩),.agg #[.string nm,.int .i64 wd,.int .i64 at_,sv,.int .i64 deep,.int .i64 root,.int .i64 aAt,.int .i64 aW,av]] w fun e w'=>
  e = .panicked (zJ 5)/\Below w.heap.size w w':=by
 obtain⟨nV,pV,hTc,hn,hp⟩:=hT
 obtain⟨k,hkn⟩:∃k,ns.length=k:=⟨_,rfl⟩
 rw[hkn] at hn hk
 have hkn:=Lib.hid hkn
 obtain⟨na,ncap,rfl⟩:=qk hn
 obtain⟨w0,hw0⟩:∃w0,w0=w.alloc (.cells #[.string nm,.int .i64 wd,.int .i64 at_,sv,.int .i64 deep,.int .i64 root,.int .i64 aAt,.int .i64 aW,av] 185):=⟨_,rfl⟩
 have hb0:Below w.heap.size w w0:=by rw[hw0];exact qe
 have hs0:Cells w0 w.heap.size 185 #[.string nm,.int .i64 wd,.int .i64 at_,sv,.int .i64 deep,.int .i64 root,.int .i64 aAt,.int .i64 aW,av]:=by rw[hw0];exact Cells.new _ _ _
 have hTc0:=hTc.below hb0 hTc.lt
 have hk2:(((k:Nat):Int)==200)=false:=by simp;omega
 have hd':¬ 6<deep:=by omega
 have C1:∀W,Below w0.heap.size w0 W->Calls Tryz.prog 187 #[.string nm] W fun e w'=>e = .returned (.bool true)/\Below W.heap.size W w':=fun W hb=>zE nm W ((hE.below hb0).below hb) hN hW
 have C2:∀W,Below w0.heap.size w0 W->Calls Tryz.prog 188 #[.slice na k ncap,.string nm] W fun e w'=>e = .returned (.bool true)/\W=w':=fun W hb=>
  YA base k _ ns nm W hkn.out (by omega) (qb (qb hn hb0) hb) hin
 have hread:∀W,Below w0.heap.size w0 W->(W.cell? ⟨w.heap.size,0,none⟩=some (.string nm)/\W.cell? ⟨w.heap.size,1,none⟩=some (.int .i64 wd)/\W.cell? ⟨w.heap.size,2,none⟩=some (.int .i64 at_)/\W.cell? ⟨w.heap.size,3,none⟩=some sv /\
  W.cell? ⟨w.heap.size,4,none⟩=some (.int .i64 deep)/\W.cell? ⟨w.heap.size,5,none⟩=some (.int .i64 root)/\W.cell? ⟨w.heap.size,6,none⟩=some (.int .i64 aAt)/\W.cell? ⟨w.heap.size,7,none⟩=some (.int .i64 aW)/\W.cell? ⟨w.heap.size,8,none⟩=some av /\
  W.cell? ⟨T,0,none⟩=some (.slice na k ncap)):=fun W hb=>by
  have a:=hs0.below hb hs0.lt
  have b:=hTc0.below hb hTc0.lt
  exact⟨a.cell rfl,a.cell rfl,a.cell rfl,a.cell rfl,a.cell rfl,a.cell rfl,a.cell rfl,a.cell rfl,a.cell rfl,b.cell rfl⟩
 have hR0:=hread w0 (Below.refl _ _)
 rw[hw0] at hR0
 obtain⟨r0,r1,r2,r3,r4,r5,r6,r7,r8,r9⟩:=hR0
 go_enter Tryz.func153,Tryz.ntmps153
 go_wp2_with fail
 rw[←hw0]
 clear r0 r1 r2 r3 r4 r5 r6 r7 r8 r9 hw0
 obtain⟨r0,r1,r2,r3,r4,r5,r6,r7,r8,r9⟩:=hread w0 (Below.refl _ _)
 go_region_held3 (fun w'=>w'.cell? ⟨w.heap.size,0,none⟩=some (.string nm)/\w'.cell? ⟨w.heap.size,1,none⟩=some (.int .i64 wd)/\w'.cell? ⟨w.heap.size,2,none⟩=some (.int .i64 at_)/\w'.cell? ⟨w.heap.size,3,none⟩=some (sv)/\w'.cell? ⟨w.heap.size,4,none⟩=some (.int .i64 deep)/\w'.cell? ⟨w.heap.size,5,none⟩=some (.int .i64 root)/\w'.cell? ⟨w.heap.size,6,none⟩=some (.int .i64 aAt)/\w'.cell? ⟨w.heap.size,7,none⟩=some (.int .i64 aW)/\w'.cell? ⟨w.heap.size,8,none⟩=some (av)/\w'.cell? ⟨T,0,none⟩=some (.slice na k ncap))
  (go_keep)
  ((first
    |(go_at_call 187;refine(C1 _ ((Below.refl _ _).drew)).mono ?_;clear C1;rintro e W1 ⟨rfl,hb⟩;have hB1:Below w0.heap.size w0 W1:=((Below.refl _ _).drew).trans hb;have hR1:=hread W1 hB1)
    |(go_at_call 188;refine(C2 _ hB1).mono ?_;clear C2;rintro e W2 ⟨rfl,rfl⟩)))
 clear r0 r1 r2 r3 r4 r5 r6 r7 r8 r9
 go_wp2_with fail
 exact⟨rfl,rfl,hb0.trans (hB1.mono hb0.size)⟩
end Go.Proofs.YtkoloennfejaaaaGreatDoor
