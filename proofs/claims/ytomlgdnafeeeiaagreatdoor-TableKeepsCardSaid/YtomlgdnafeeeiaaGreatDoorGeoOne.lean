
import Derived.Test.YtomlgdnafeeeiaaGreatDoorLexDesc
import Derived.RangeFuncSeq
import Derived.Deep.QuietTactic
import Derived.BigQuiet
import Derived.RegionTactic
import Derived.BigRegion
set_option maxHeartbeats 4000000
set_option maxRecDepth 100000
/-
 A range over a function whose body always goes on: the iterator tells the elements of E,one behind the other;a round is walked knowing which elements came ahead of it ('Ok'). And what follows: see the heads within.
-/
namespace Go.Proofs.YtomlgdnafeeeiaaGreatDoor
open Proofs.Tryz
section
open Go.RowKit
def qgl{α:Type}(n:Nat)(P:Program)(gf:Nat)(lb:Array Value)(encs:α->Array Value)(Ts:List Nat)(Ok:List α->α->Prop)(E:List α)(w0:World):Prop:=
 ∀ (l:Nat) (J:List α->World->Prop) (W:World),BX w0 W->(∀pre A B,J pre A->BX A B->J pre B) ->
  (∀pre x A,J pre A->Ok pre x->YieldAt Fence.wide (n-1) P l (encs x) A fun e B=>e = .returned (.bool true)/\J (pre++[x]) B/\qR Ts A B) ->
  J [] W->CallsIn Fence.wide n P gf (#[.func (.yield l) #[] #[]]++lb) W fun e B=>(∃v,e = .returned v)/\J E B
def qct{α:Type}(B:Nat)(Ts:List Nat)(I:List α->World->Prop)(xs:List α)(W:World):Exit->Act->World->Prop
 | .normal,_,W'=>KeepsFrom B W W'/\qR Ts W W'/\I xs W'
 | _,_,_=>False
theorem qin{α:Type}{n:Nat}{P:Program}{g:Operand}{ps:Array Tmp}{assign body:Code}{Q:Exit->Act->World->Prop}{a:Act}{w w0:World}{gf:Nat}{lb:Array Value}
 (h1:1<=n) (hg:a.eval g = .func (.func gf) #[] lb) (eg:∀args w,(callFunc gf args).run P w = .ok (.enter gf args) w)
 {encs:α->Array Value} {Ts:List Nat} {Ok:List α->α->Prop} {E:List α} (hit:qgl (n-1) P gf lb encs Ts Ok E w0) (hb0:BX w0 w) (hTs:∀t,t∈Ts->t<w.heap.size) (hps:∀x,(encs x).size=ps.size)
 (I:List α->World->Prop) (hI:OwnFrom w.heap.size I) (h0:I [] w) (Ax:α->Act->World->Prop) (hAx:∀x a',OwnFrom w.heap.size (fun(_:Unit) W=>Ax x a' W))
 (hassign:∀ (l:Nat) (pre:List α) (x:α) (W:World) (K:Act->World->Prop),I pre W->Ok pre x->(∀a' W',KeepsFrom w.heap.size W W'->qR Ts W W'->I pre W'->Ax x a' W'->K a' W') ->
   assign.wpIn (Fence.wide.inRound l) (n-1-1) P (Exit.then K (fun _ _ _=>False)) { tmps:=(ps.zip (encs x)).foldl (fun t (p,v)=>t.setIfInBounds p v) a.tmps,defers:=[] } W)
 (hbody:∀ (l:Nat) (pre:List α) (x:α) (a':Act) (W:World),I pre W->Ax x a' W->Ok pre x->body.wpIn (Fence.wide.inRound l) (n-1-1) P (qct w.heap.size Ts I (pre++[x]) W) a' W)
 (hdone:∀ (D:Nat) (W:World),w.heap.size<=D->I E W->W.heap[D]?=some (.deferred (some []))->Q .normal { a with defers:={ target:=.collected D,args:=#[] } :: a.defers } W) :
 (Code.rangeFunc g ps assign body).wpIn Fence.wide n P Q a w:=by
 refine wpIn_rangeFunc ?_
 intro fn hfn
 obtain⟨rc,hrc⟩:∃rc:LoopState->Loop,rc=fun st=>{ state:=st,pending:=none,fn,tmps:=a.tmps,params:=ps,assign,body,defers:=w.heap.size }:=⟨_,rfl⟩
 obtain⟨S,hS⟩:∃S,S=(w.alloc (.deferred (some []))).alloc (.loop (rc .ready)):=⟨_,rfl⟩
 have hSz:S.heap.size=w.heap.size+2:=by rw[hS];simp
 have hSb:BX w S:=by rw[hS];exact((kB _ w).alloc (vL _) _).alloc (by simp) _
 have hSl:S.heap[w.heap.size+1]?=some (.loop (rc .ready)):=by
  have:=World.alloc_heap_new (w.alloc (.deferred (some []))) (.loop (rc .ready))
  rw[vZ] at this;rw[hS];exact this
 have hSd:S.heap[w.heap.size]?=some (.deferred (some [])):=by
  rw[hS];exact(Below.heap_alloc _ _ _ (by simp)).trans (World.alloc_heap_new w _)
 refine⟨w.heap.size+1,[{ target:=.collected w.heap.size,args:=#[] }],S,{ target:=.fn (.func gf) lb,args:=#[.func (.yield (w.heap.size+1)) #[] #[]] },S,gf,#[.func (.yield (w.heap.size+1)) #[] #[]]++lb,S,?_,?_,fun _ _=>trivial,?_,fun _=>h1,?_⟩
 ·rw[hS,hrc];exact run_enterLoop_outer _ _ _ _ _
 ·simp only[resolve,hg];simp[go_sem]
 ·simp[invoke,go_sem,eg]
 refine(hit (w.heap.size+1) (fun pre W=>I pre W/\W.heap[w.heap.size+1]?=some (.loop (rc .ready))/\W.heap[w.heap.size]?=some (.deferred (some []))) S (hb0.trans (hSb.mono hb0.size)) ?_ ?_ ?_).mono ?_
 ·rintro pre A B ⟨hi,hl,hd⟩ hb
  exact⟨hI pre A B none hi (xz hb) (fun r e=>by cases e),(hb.block _ (qD hl)).trans hl,(hb.block _ (qD hd)).trans hd⟩
 ·rintro pre x A ⟨hi,hl,hd⟩ hok
  have hy:=run_yield (P:=P) (args:=encs x) hl (by rw[hrc];exact hps x)
  rw[hrc] at hy
  refine⟨fn,_,assign,body,hy,roundIn_of_wpIn hfn (hassign (w.heap.size+1) pre x A _ hi hok ?_)⟩
  intro a' W hkf hk hiW hax
  have hlW:=hkf.same _ _ (by omega) hl rfl
  have hdW:=hkf.same _ _ (vL _) hd rfl
  refine⟨_,run_beginRound hlW (by rw[hrc]),?_⟩
  have hl1:(W.putObj (w.heap.size+1) (.loop { rc .ready with state:=.busy })).heap[w.heap.size+1]?=some (.loop { rc .ready with state:=.busy }):=World.putObj_heap_same (qD hlW)
  have hd1:(W.putObj (w.heap.size+1) (.loop { rc .ready with state:=.busy })).heap[w.heap.size]?=some (.deferred (some [])):=(kP (by omega)).trans hdW
  have hk1:qR Ts W (W.putObj (w.heap.size+1) (.loop { rc .ready with state:=.busy })):=Zg hTs _ _ _ _ (by omega) hlW rfl rfl
  refine wpIn_mono (hbody (w.heap.size+1) pre x a' _ (hI.putObj _ hiW (by omega) hlW rfl) ((hAx x a').putObj (s:=()) _ hax (by omega) hlW rfl) hok) ?_
  intro e a2 W2 hp
  cases e with
  |normal=>
   obtain⟨hkf2,hk2,hi2⟩:=hp
   have hl2:=hkf2.same _ _ (by omega) hl1 rfl
   have hd2:=hkf2.same _ _ (vL _) hd1 rfl
   have he:=run_endRound (P:=P) none hl2
   refine⟨_,_,he,rfl,⟨hI.putObj _ hi2 (by omega) hl2 rfl,?_,(kP (by omega)).trans hd2⟩,((hk.trans hk1).trans hk2).trans (Zg hTs _ _ _ _ (by omega) hl2 rfl rfl)⟩
   rw[World.putObj_heap_same (qD hl2),hrc];rfl
  | ret=>exact hp.elim
  | exit id=>exact hp.elim
  | goto t=>exact hp.elim
  | panic ch=>exact hp.elim
  | outgrown=>exact hp.elim
 ·exact⟨hI [] w S none h0 (xz hSb) (fun r e=>by cases e),hSl,hSd⟩
 ·rintro e W ⟨⟨v,rfl⟩,hi,hl,hd⟩
  have he:=run_endLoop (P:=P) hl (by rw[hrc];simp)
  have hp:(rc .ready).pending=none:=by rw[hrc]
  rw[hp] at he
  exact⟨none,_,he,hdone w.heap.size _ (vL _) (hI.putObj _ hi (by omega) hl rfl) ((kP (by omega)).trans hd)⟩
end
section
open Go.RowKit
def YZ(at_ wd bit:Int):Int:=if at_<=bit/\bit-at_<=wd then wd-(bit-at_) else 0
theorem Yn{at_ wd bit:Int} : 0<YZ at_ wd bit↔at_<=bit/\bit-at_<wd:=by
 unfold YZ;split <;> omega
theorem qio{k:IntKind}{a b:Int}(h:a=b):Ending.returned (.int k a) = .returned (.int k b):=by rw[h]
theorem Xl(root aAt aW wd at_:Int)(nm:ByteArray)(sv:Value)(w:World)(h1:0<=aAt)(h2:aAt<=1000)(h3:0<=at_)(h4:at_<=1000) :
 Calls prog 173 #[.agg #[.int .i64 root,.int .i64 aAt,.int .i64 aW],.agg #[.string nm,.int .i64 wd,.int .i64 at_,sv]] w fun e w'=>
  e = .returned (.agg #[.int .i64 root,.int .i64 (aAt+at_),.int .i64 wd])/\BX w w':=by
 go_enter func173,ntmps173
 go_wp2
 refine bodyPost_ret (v:=.agg #[.int .i64 root,.int .i64 (aAt+at_),.int .i64 wd]) (by simp[results,results173,go_sem]) rfl ⟨rfl,?_⟩
 exact(qi.alloc (by simp) _).alloc (by simp;omega) _
theorem Zy(root at_ wd bit:Int)(w:World)(h1:0<=at_)(h2:at_<=1000)(h3:0<=wd)(h4:wd<=1000)(h5:0<=bit)(h6:bit<=1000) :
 Calls prog 130 #[.agg #[.int .i64 root,.int .i64 at_,.int .i64 wd],.int .i64 bit] w fun e w'=>
  e = .returned (.int .u64 (YZ at_ wd bit))/\BX w w':=by
 go_enter func130,ntmps130
 go_wp2
 go_quiet (fail)
 go_wp2
 all_goals
  go_ret
  exact⟨qio (by unfold YZ;split <;> omega),below_drewN (qi) _⟩
def jN(a1 w1 a2 w2:Int):Bool:=decide (a1<a2+w2)&&decide (a2<a1+w1)
theorem qcu(root a1 w1 a2 w2:Int)(w:World)(h1:0<=a1)(h2:a1<=1000)(h3:1<=w1)(h4:w1<=1000)(h5:0<=a2)(h6:a2<=1000)(h7:1<=w2)(h8:w2<=1000) :
 Calls prog 78 #[.agg #[.int .i64 root,.int .i64 a1,.int .i64 w1],.agg #[.int .i64 root,.int .i64 a2,.int .i64 w2]] w fun e w'=>
  e = .returned (.bool (jN a1 w1 a2 w2))/\BX w w':=by
 have C1:=fun W=>Zy root a1 w1 a2 W h1 h2 (by omega) h4 h5 h6
 have C2:=fun W=>Zy root a2 w2 a1 W h5 h6 (by omega) h8 h1 h2
 by_cases hp:0<YZ a1 w1 a2
 ·have hq:=vH (Yn.1 hp)
  go_enter func78,ntmps78
  go_wp2_with (go_at_call 130;refine(C1 _).mono ?_;clear C1;rintro e W1 ⟨rfl,hb⟩;obtain⟨hc,hf⟩:=yR hb)
  go_ret
  refine⟨qq (by have:=hq.out;unfold jN;simp;omega),(qi.alloc (by simp) _).trans (hb.mono (by simp;omega))⟩
 ·have hq:Hid (¬ (a1<=a2/\a2-a1<w1)):=vH (fun h=>hp (Yn.2 h))
  go_enter func78,ntmps78
  go_wp2_with (first
   |(go_at_call 130;refine(C1 _).mono ?_;clear C1;rintro e W1 ⟨rfl,hb⟩;obtain⟨hc,hf⟩:=yR hb)
   |(go_at_call 130;refine(C2 _).mono ?_;clear C2;rintro e W2 ⟨rfl,hb2⟩))
  go_ret
  refine⟨qq (by have:=hq.out;have:=@Yn a2 w2 a1;unfold jN;rw[Bool.eq_iff_iff];simp;omega),(qi.alloc (by simp) _).trans ((hb.trans (hb2.mono hb.size)).mono (by simp;omega))⟩
theorem qds(nm:ByteArray)(wd at_ deep root aAt aW:Int)(sv av:Value)(w:World)(h1:1<=wd)(h2:wd<=64)(h3:0<=at_)(h4:at_<=1000)(h5:aW<=1000)(hf:at_+wd<=aW) :
 Calls prog 171 #[.agg #[.string nm,.int .i64 wd,.int .i64 at_,sv,.int .i64 deep,.int .i64 root,.int .i64 aAt,.int .i64 aW,av]] w fun e w'=>
  e = .returned (.bool true)/\BX w w':=by
 have hle:at_<=aW-wd:=by omega
 go_enter func171,ntmps171
 go_wp2
 go_ret
 exact⟨rfl,qi⟩
end
section
open Go.RowKit
theorem qip(bs bp:Nat)(root aAt aW pAt pW wd at_:Int)(nm:ByteArray)(sv:Value)(w:World)(c0:w.cell? ⟨bs,5,none⟩=some (.int .i64 root))(c1:w.cell? ⟨bs,6,none⟩=some (.int .i64 aAt))(c2:w.cell? ⟨bs,7,none⟩=some (.int .i64 aW))(c3:w.cell? ⟨bp,0,none⟩=some (.int .i64 root))(c4:w.cell? ⟨bp,1,none⟩=some (.int .i64 pAt))(c5:w.cell? ⟨bp,2,none⟩=some (.int .i64 pW))
 (h1:0<=aAt) (h2:aAt<=500) (h3:0<=at_) (h4:at_<=500) (h5:1<=wd) (h6:wd<=1000) (h7:0<=pAt) (h8:pAt<=1000) (h9:1<=pW) (h10:pW<=1000) (hl:jN (aAt+at_) wd pAt pW=false) :
 Calls prog 197 #[.agg #[.string nm,.int .i64 wd,.int .i64 at_,sv],.pointer (some ⟨bs,0,none⟩),.pointer (some ⟨bp,0,none⟩)] w fun e w'=>e = .returned (.bool false)/\BX w w':=by
 have C1:=fun W=>Xl root aAt aW wd at_ nm sv W h1 (by omega) h3 (by omega)
 have C2:=fun W=>qcu root (aAt+at_) wd pAt pW W (by omega) (by omega) h5 h6 h7 h8 h9 h10
 rw[hl] at C2
 have lbs:=kW _ _ c0
 have lbp:=kW _ _ c3
 dsimp only at lbs lbp
 have nbs:=World.new_ne w _ c0
 have nbp:=World.new_ne w _ c3
 clear hl
 go_enter func197,ntmps197
 go_wp2
 go_region_held3 (fun w'=>w'.cell? ⟨bs,5,none⟩=some (.int .i64 root)/\w'.cell? ⟨bs,6,none⟩=some (.int .i64 aAt)/\w'.cell? ⟨bs,7,none⟩=some (.int .i64 aW)/\w'.cell? ⟨bp,0,none⟩=some (.int .i64 root)/\w'.cell? ⟨bp,1,none⟩=some (.int .i64 pAt)/\w'.cell? ⟨bp,2,none⟩=some (.int .i64 pW)/\w'.cell? ⟨w.heap.size,0,none⟩=some (.string nm)/\w'.cell? ⟨w.heap.size,1,none⟩=some (.int .i64 wd)/\w'.cell? ⟨w.heap.size,2,none⟩=some (.int .i64 at_)/\w'.cell? ⟨w.heap.size,3,none⟩=some (sv))
  (go_keep)
  ((first
    |(go_at_call 173;refine(C1 _).mono ?_;clear C1;rintro e W1 ⟨rfl,hb⟩;have k0:W1.cell? ⟨bs,5,none⟩=some (.int .i64 root):=qs hb;have k1:W1.cell? ⟨bs,6,none⟩=some (.int .i64 aAt):=qs hb;have k2:W1.cell? ⟨bs,7,none⟩=some (.int .i64 aW):=qs hb;have k3:W1.cell? ⟨bp,0,none⟩=some (.int .i64 root):=qs hb;have k4:W1.cell? ⟨bp,1,none⟩=some (.int .i64 pAt):=qs hb;have k5:W1.cell? ⟨bp,2,none⟩=some (.int .i64 pW):=qs hb;have k6:W1.cell? ⟨w.heap.size,0,none⟩=some (.string nm):=qs hb;have k7:W1.cell? ⟨w.heap.size,1,none⟩=some (.int .i64 wd):=qs hb;have k8:W1.cell? ⟨w.heap.size,2,none⟩=some (.int .i64 at_):=qs hb;have k9:W1.cell? ⟨w.heap.size,3,none⟩=some (sv):=qs hb)
    |(go_at_call 78;refine(C2 _).mono ?_;clear C2;rintro e W2 ⟨rfl,hb2⟩;have m0:W2.cell? ⟨bs,5,none⟩=some (.int .i64 root):=qs hb2;have m1:W2.cell? ⟨bs,6,none⟩=some (.int .i64 aAt):=qs hb2;have m2:W2.cell? ⟨bs,7,none⟩=some (.int .i64 aW):=qs hb2;have m3:W2.cell? ⟨bp,0,none⟩=some (.int .i64 root):=qs hb2;have m4:W2.cell? ⟨bp,1,none⟩=some (.int .i64 pAt):=qs hb2;have m5:W2.cell? ⟨bp,2,none⟩=some (.int .i64 pW):=qs hb2;have m6:W2.cell? ⟨w.heap.size,0,none⟩=some (.string nm):=qs hb2;have m7:W2.cell? ⟨w.heap.size,1,none⟩=some (.int .i64 wd):=qs hb2;have m8:W2.cell? ⟨w.heap.size,2,none⟩=some (.int .i64 at_):=qs hb2;have m9:W2.cell? ⟨w.heap.size,3,none⟩=some (sv):=qs hb2)))
 go_wp2
 go_ret
 exact⟨rfl,((qi.drew).trans (hb.mono (by simp))).trans (hb2.mono (by have:=hb.size;simp at this;omega))⟩
end
section
open Go.RowKit
structure zt where
 name:ByteArray
 wd:Int
 at_:Int
 sv:Value
def yW(W:World)(b o:Nat)(r:zt):Prop:=
 W.cell? ⟨b,o,none⟩=some (.string r.name)/\W.cell? ⟨b,o+1,none⟩=some (.int .i64 r.wd)/\W.cell? ⟨b,o+2,none⟩=some (.int .i64 r.at_)/\W.cell? ⟨b,o+3,none⟩=some r.sv
def QZ(W:World)(b o:Nat)(l:List zt):Prop:=∀i r,l[i]?=some r->yW W b (o+i*4) r
theorem yW.below{W W':World}{b o:Nat}{r:zt}(h:yW W b o r)(hb:BX W W'):yW W' b o r:=
 ⟨qb hb h.1,qb hb h.2.1,qb hb h.2.2.1,qb hb h.2.2.2⟩
theorem QZ.below{W W':World}{b o:Nat}{l:List zt}(h:QZ W b o l)(hb:BX W W'):QZ W' b o l:=fun i r hr=>(h i r hr).below hb
def zt.small(r:zt):Prop:=0<=r.at_/\r.at_<=500/\1<=r.wd/\r.wd<=1000
theorem qcv(bs bp b off n cap:Nat)(root aAt aW pAt pW:Int)(l:List zt)(w:World)(hn:l.length=n)(hsz:n<=200)(hl:QZ w b off l)
 (c0:w.cell? ⟨bs,5,none⟩=some (.int .i64 root)) (c1:w.cell? ⟨bs,6,none⟩=some (.int .i64 aAt)) (c2:w.cell? ⟨bs,7,none⟩=some (.int .i64 aW))
 (c3:w.cell? ⟨bp,0,none⟩=some (.int .i64 root)) (c4:w.cell? ⟨bp,1,none⟩=some (.int .i64 pAt)) (c5:w.cell? ⟨bp,2,none⟩=some (.int .i64 pW))
 (h1:0<=aAt) (h2:aAt<=500) (h7:0<=pAt) (h8:pAt<=1000) (h9:1<=pW) (h10:pW<=1000) (hr:∀r,r∈l->r.small/\jN (aAt+r.at_) r.wd pAt pW=false) :
 Calls prog 203 #[.slice (some ⟨b,off,none⟩) n cap,.func (.func 197) #[] #[.pointer (some ⟨bs,0,none⟩),.pointer (some ⟨bp,0,none⟩)]] w fun e w'=>
  e = .returned (.int .i64 (-1))/\BX w w':=by
 go_enter func203,ntmps203
 go_wp2
 go_loopw [8] (fun i wr=>∃k:Nat,k<=n/\i = .int .i64 k/\BX w wr) (fun i _=>n-(intOf i).toNat)
 case atStart=>exact⟨0,vO _,rfl,kB _ _⟩
 case round=>
  obtain⟨k,hk,rfl,hB⟩:=hrel
  by_cases hlt:k<n
  ·obtain⟨r,hr1⟩:∃r,l[k]?=some r:=⟨l[k],by rw[vE (by omega)]⟩
   obtain⟨hs,hlp⟩:=hr r (vM hr1)
   obtain⟨hs1,hs2,hs3,hs4⟩:=hs
   obtain⟨d0,d1,d2,d3⟩:=(hl k r hr1).below hB
   have C:=qip bs bp root aAt aW pAt pW r.wd r.at_ r.name r.sv wr (qb hB c0) (qb hB c1) (qb hB c2) (qb hB c3) (qb hB c4) (qb hB c5) h1 h2 hs1 hs2 hs3 hs4 h7 h8 h9 h10 hlp
   clear c0 c1 c2 c3 c4 c5 hr1 hl hr hlp
   go_wp2_with (go_at_call 197;refine C.mono ?_;clear C;rintro e W1 ⟨rfl,hb⟩)
   exact⟨⟨k+1,by omega,by go_num,hB.trans (hb.mono hB.size)⟩,by simp[intOf];omega⟩
  ·go_wp2_with fail
   go_ret
   exact⟨rfl,hB⟩
theorem Ja(a:Option Addr)(f:Value)(w:World) :
 Calls prog 203 #[.slice a 0 0,f] w fun e w'=>e = .returned (.int .i64 (-1))/\w=w':=by
 go_enter func203,ntmps203
 go_wp2
 refine wp_loop_rounds 1 ?_
 rw[rounds_succ]
 go_wp2
 go_ret
 exact⟨rfl,rfl⟩
def jD(W:World)(av:Value)(l:List zt):Prop:=
 ((∃a,av = .slice a 0 0)/\l = [])∨∃b off cap,av = .slice (some ⟨b,off,none⟩) l.length cap/\QZ W b off l
theorem jD.below{W W':World}{av:Value}{l:List zt}(h:jD W av l)(hb:BX W W'):jD W' av l:=by
 rcases h with h|⟨b,off,cap,h,hr⟩
 ·exact .inl h
 ·exact .inr ⟨b,off,cap,h,hr.below hb⟩
theorem Kj(bs bp:Nat)(root aAt aW pAt pW:Int)(av:Value)(l:List zt)(w:World)(hsz:l.length<=200)(hl:jD w av l)
 (c0:w.cell? ⟨bs,5,none⟩=some (.int .i64 root)) (c1:w.cell? ⟨bs,6,none⟩=some (.int .i64 aAt)) (c2:w.cell? ⟨bs,7,none⟩=some (.int .i64 aW))
 (c3:w.cell? ⟨bp,0,none⟩=some (.int .i64 root)) (c4:w.cell? ⟨bp,1,none⟩=some (.int .i64 pAt)) (c5:w.cell? ⟨bp,2,none⟩=some (.int .i64 pW))
 (h1:0<=aAt) (h2:aAt<=500) (h7:0<=pAt) (h8:pAt<=1000) (h9:1<=pW) (h10:pW<=1000) (hr:∀r,r∈l->r.small/\jN (aAt+r.at_) r.wd pAt pW=false) :
 Calls prog 196 #[av,.func (.func 197) #[] #[.pointer (some ⟨bs,0,none⟩),.pointer (some ⟨bp,0,none⟩)]] w fun e w'=>
  e = .returned (.bool false)/\BX w w':=by
 have C:Calls prog 203 #[av,.func (.func 197) #[] #[.pointer (some ⟨bs,0,none⟩),.pointer (some ⟨bp,0,none⟩)]] w fun e w'=>e = .returned (.int .i64 (-1))/\BX w w':=by
  rcases hl with⟨⟨av,rfl⟩,rfl⟩|⟨b,off,cap,rfl,hl⟩
  ·exact(Ja _ _ w).mono fun e w' ⟨he,hw⟩=>⟨he,hw ▸ kB _ _⟩
  ·exact qcv bs bp b off l.length cap root aAt aW pAt pW l w rfl hsz hl c0 c1 c2 c3 c4 c5 h1 h2 h7 h8 h9 h10 hr
 clear hl c0 c1 c2 c3 c4 c5 hr
 go_enter func196,ntmps196
 go_wp2_with (go_at_call 203;refine C.mono ?_;clear C;rintro e W1 ⟨rfl,hb⟩)
 go_ret
 exact⟨rfl,hb⟩
theorem qkc(nm:ByteArray)(wd at_ deep root aAt aW:Int)(sv av:Value)(l:List zt)(w:World)(hsz:l.length<=200)(hl:jD w av l)
 (h1:0<=aAt) (h2:aAt<=500) (h3:0<=at_) (h4:at_<=500) (h9:1<=wd) (h10:wd<=1000) (hr:∀r,r∈l->r.small/\jN (aAt+r.at_) r.wd (aAt+at_) wd=false) :
 Calls prog 172 #[.agg #[.string nm,.int .i64 wd,.int .i64 at_,sv,.int .i64 deep,.int .i64 root,.int .i64 aAt,.int .i64 aW,av]] w fun e w'=>
  e = .returned (.bool false)/\BX w w':=by
 have C1:=fun W=>Xl root aAt aW wd at_ nm sv W h1 (by omega) h3 (by omega)
 have C2:∀W W1,BX w W->BX W W1->W=w.alloc (.cells #[.string nm,.int .i64 wd,.int .i64 at_,sv,.int .i64 deep,.int .i64 root,.int .i64 aAt,.int .i64 aW,av] 175) ->
  (W1.alloc (.cells #[.int .i64 root,.int .i64 (aAt+at_),.int .i64 wd] 87)).cell? ⟨w.heap.size,8,none⟩=some av /\
  Calls prog 196 #[av,.func (.func 197) #[] #[.pointer (some ⟨w.heap.size,0,none⟩),.pointer (some ⟨W1.heap.size,0,none⟩)]]
   (W1.alloc (.cells #[.int .i64 root,.int .i64 (aAt+at_),.int .i64 wd] 87)) fun e w'=>e = .returned (.bool false)/\Below (W1.alloc (.cells #[.int .i64 root,.int .i64 (aAt+at_),.int .i64 wd] 87)).heap.size (W1.alloc (.cells #[.int .i64 root,.int .i64 (aAt+at_),.int .i64 wd] 87)) w':=by
  intro W W1 hW hb e
  have hW1:=hb.alloc hb.size (.cells #[.int .i64 root,.int .i64 (aAt+at_),.int .i64 wd] 87)
  have hs:qd W w.heap.size 175 #[.string nm,.int .i64 wd,.int .i64 at_,sv,.int .i64 deep,.int .i64 root,.int .i64 aAt,.int .i64 aW,av]:=by rw[e];exact qd.new _ _ _
  have hs1:=hs.below hW1 hs.lt
  have hp:=qd.new W1 87 #[.int .i64 root,.int .i64 (aAt+at_),.int .i64 wd]
  refine⟨hs1.cell rfl,?_⟩
  exact Kj _ _ root aAt aW (aAt+at_) wd av l _ hsz ((hl.below hW).below hW1) (hs1.cell rfl) (hs1.cell rfl) (hs1.cell rfl) (hp.cell rfl) (hp.cell rfl) (hp.cell rfl) h1 h2 (by omega) (by omega) h9 h10 hr
 clear hl hr
 have hmf:∀ (fn:Fn) (first cap:Array Value) (w:World),(Instr.makeFunc fn first cap).run prog w = .ok (.func fn first cap) w:=fun _ _ _ _=>rfl
 go_enter func172,ntmps172
 go_wp2_with (first
  |(go_at_call 173;refine(C1 _).mono ?_;clear C1;rintro e W1 ⟨rfl,hb⟩;obtain⟨hav,C3⟩:=C2 _ W1 (qi) hb rfl;clear C2;obtain⟨hc,hf⟩:=yR hb)
  |(go_at_call 196;refine C3.mono ?_;clear C3;rintro e W2 ⟨rfl,hb2⟩))
 go_ret
 exact⟨rfl,(qi.trans ((hb.alloc hb.size _).mono (by simp))).trans (hb2.mono (by have:=hb.size;simp at this ⊢;omega))⟩
end
section
open Go.RowKit Go.Shelf
attribute [local go_sem] Oper.semAt_some
inductive qg where
 | nil
 | cons (name:ByteArray) (wd at_:Int) (sv:Value) (subs rest:qg)
def qg.length:qg->Nat
 | .nil=>0
 | .cons _ _ _ _ _ rest=>rest.length+1
def qg.total:qg->Nat
 | .nil=>0
 | .cons _ _ _ _ subs rest=>1+subs.total+rest.total
structure qA where
 name:ByteArray
 wd:Int
 at_:Int
 sv:Value
 deep:Int
 root:Int
 aAt:Int
 aW:Int
 av:Value
def qA.val(x:qA):Value:=.agg #[.string x.name,.int .i64 x.wd,.int .i64 x.at_,x.sv,.int .i64 x.deep,.int .i64 x.root,.int .i64 x.aAt,.int .i64 x.aW,x.av]
def QF(sv:Value)(i:Nat):Value:=
 match sv with
 | .slice (some a) _ c=>.slice (some a) i c
 | v=>v
def qV(deep root aAt aW:Int)(sv:Value)(i:Nat):qg->List qA
 | .nil=>[]
 | .cons nm wd at_ v subs rest=>{ name:=nm,wd,at_,sv:=v,deep,root,aAt,aW,av:=QF sv i } :: (qV (deep+1) root (aAt+at_) wd v 0 subs++qV deep root aAt aW sv (i+1) rest)
def qB(n₀:Nat)(W:World)(b:Nat):Nat->qg->Prop
 | _,.nil=>True
 | o,.cons nm wd at_ sv subs rest=>b<n₀/\yW W b o ⟨nm,wd,at_,sv⟩/\qB n₀ W b (o+4) rest /\
    (((∃a,sv = .slice a 0 0)/\subs = .nil)∨∃b' o' c',sv = .slice (some ⟨b',o',none⟩) subs.length c'/\subs.length<=c'/\subs.length<=140737488355328/\qB n₀ W b' o' subs)
def qM(n₀:Nat)(W:World)(sv:Value)(subs:qg):Prop:=
 ((∃a,sv = .slice a 0 0)/\subs = .nil)∨∃b' o' c',sv = .slice (some ⟨b',o',none⟩) subs.length c'/\subs.length<=c'/\subs.length<=140737488355328/\qB n₀ W b' o' subs
theorem Xm{W W':World}{b o:Nat}{r:zt}(h:yW W b o r)(hc:∀j v,W.cell? ⟨b,j,none⟩=some v->W'.cell? ⟨b,j,none⟩=some v):yW W' b o r:=
 ⟨hc _ _ h.1,hc _ _ h.2.1,hc _ _ h.2.2.1,hc _ _ h.2.2.2⟩
theorem qB.of{n₀:Nat}{W W':World}(hc:∀b j v,b<n₀->W.cell? ⟨b,j,none⟩=some v->W'.cell? ⟨b,j,none⟩=some v):∀ {L:qg} {b o:Nat},qB n₀ W b o L->qB n₀ W' b o L
 | .nil,_,_,_=>trivial
 | .cons _ _ _ _ _ _,_,_,⟨hb,hr,hrest,hs⟩=>⟨hb,Xm hr (fun j v=>hc _ j v hb),qB.of hc hrest,hs.elim .inl (fun⟨b',o',c',e,h1,h2,h3⟩=>.inr ⟨b',o',c',e,h1,h2,qB.of hc h3⟩)⟩
theorem qM.of{n₀:Nat}{W W':World}(hc:∀b j v,b<n₀->W.cell? ⟨b,j,none⟩=some v->W'.cell? ⟨b,j,none⟩=some v){sv:Value}{L:qg}(h:qM n₀ W sv L):qM n₀ W' sv L:=
 h.elim .inl (fun⟨b',o',c',e,h1,h2,h3⟩=>.inr ⟨b',o',c',e,h1,h2,qB.of hc h3⟩)
structure Qw(Ts:List Nat)(n₀:Nat)(W:World):Prop where
 ok:zp Ts W
 le:n₀<=W.heap.size
 free:∀b,b<n₀->¬ zg Ts W b
theorem Qw.below{Ts:List Nat}{n₀:Nat}{A B:World}(h:Qw Ts n₀ A)(hb:BX A B):Qw Ts n₀ B:=
 ⟨h.ok.below hb,vR h.le hb.size,fun b hlt ho=>h.free b hlt ((zF h.ok hb b).1 ho)⟩
theorem Qw.keeps{Ts:List Nat}{n₀:Nat}{A B:World}(h:Qw Ts n₀ A)(hk:qR Ts A B):Qw Ts n₀ B:=
 ⟨hk.ok h.ok,vR h.le hk.size,fun b hlt=>hk.own h.ok b (vW hlt h.le) (h.free b hlt)⟩
theorem Qw.cells{Ts:List Nat}{n₀:Nat}{A B:World}(h:Qw Ts n₀ A)(hk:qR Ts A B):∀b j v,b<n₀->A.cell? ⟨b,j,none⟩=some v->B.cell? ⟨b,j,none⟩=some v:=
 fun b _ _ hlt hc=>hk.cell h.ok hc (h.free b hlt)
theorem zu{n₀:Nat}{A B:World}(hb:BX A B):∀b j v,b<n₀->A.cell? ⟨b,j,none⟩=some v->B.cell? ⟨b,j,none⟩=some v:=fun _ _ _ _ hc=>qb hb hc
theorem qdt{m m':Nat}{P:Program}{l:Nat}{f:FuncId}{tmps:Array Value}{assign body:Code}{w:World}{R:Ending->World->Prop}(h:RoundIn Fence.wide m P l f tmps assign body w R):RoundIn Fence.wide m' P l f tmps assign body w R:=
 ⟨h.1,fun c cs _=>h.2 c cs (room_wide _)⟩
theorem xN{m m':Nat}{P:Program}{l:Nat}{args:Array Value}{W:World}{R:Ending->World->Prop}(h:YieldAt Fence.wide m P l args W R):YieldAt Fence.wide m' P l args W R:=by
 obtain⟨fn,tmps,assign,body,hy,hR⟩:=h
 exact⟨fn,tmps,assign,body,hy,qdt hR⟩
def qg.height:qg->Nat
 | .nil=>0
 | .cons _ _ _ _ subs rest=>max (1+subs.height) rest.height
def qg.small:qg->Prop
 | .nil=>True
 | .cons _ wd at_ _ subs rest=>(0<=at_/\at_<=64/\1<=wd/\wd<=64)/\subs.small/\rest.small
structure qkY(Ts:List Nat)(n₀:Nat)(J:List qA->World->Prop)(pre1 S:List qA)(N:Nat)(hgt:Nat)(deep root pAt pW:Int)(sv:Value)(b' o' n:Nat)(Bs Bp:Nat)(cs cp:Array Value)(W:World)(k:Nat)(rest:qg)(D:List qA)(wr:World):Prop where
 len:k+rest.length=n
 small:rest.small
 total:rest.total<=N
 height:rest.height<=hgt
 holds:qB n₀ wr b' (o'+k*4) rest
 said:D++qV deep root pAt pW sv k rest=S
 j:J (pre1++D) wr
 s:qd wr Bs 175 cs
 p:qd wr Bp 87 cp
 free:Qw Ts n₀ wr
 so:¬ zg Ts wr Bs
 po:¬ zg Ts wr Bp
 keeps:qR Ts W wr
def qgm(Ts:List Nat)(n₀:Nat)(J:List qA->World->Prop)(pre1 S:List qA)(N hgt:Nat)(deep root pAt pW:Int)(sv:Value)(b' o' n:Nat)(Bs Bp:Nat)(cs cp:Array Value)(W:World)(k:Nat)(wr:World):Prop:=
 ∃rest D,qkY Ts n₀ J pre1 S N hgt deep root pAt pW sv b' o' n Bs Bp cs cp W k rest D wr
theorem qR.cells{Ts:List Nat}{A B:World}(h:qR Ts A B)(ok:zp Ts A){b:Nat}{t:TypeId}{cs:Array Value}(hc:qd A b t cs)(ho:¬ zg Ts A b):qd B b t cs:=h.keep ok b _ hc rfl ho
theorem qeV(Ts:List Nat)(n₀ l:Nat)(J:List qA->World->Prop)(E:List qA)
 (hst:∀pre A B,J pre A->BX A B->J pre B)
 (hY:∀pre x A,J pre A->pre++[x] <+: E->YieldAt Fence.wide 0 prog l #[x.val] A fun e B=>e = .returned (.bool true)/\J (pre++[x]) B/\qR Ts A B) :
 ∀ (N:Nat) (nm:ByteArray) (wd at_:Int) (sv:Value) (deep root aAt aW:Int) (av:Value) (subs:qg) (pre:List qA) (W:World),subs.total<N->qM n₀ W sv subs->subs.small->Qw Ts n₀ W->J pre W ->
  0<=aAt->0<=at_->aAt+at_+64*(subs.height:Int)<=500->0<=deep->deep+subs.height<=500 ->
  pre++(⟨nm,wd,at_,sv,deep,root,aAt,aW,av⟩::qV (deep+1) root (aAt+at_) wd sv 0 subs) <+: E ->
  Calls prog 168 #[.agg #[.string nm,.int .i64 wd,.int .i64 at_,sv,.int .i64 deep,.int .i64 root,.int .i64 aAt,.int .i64 aW,av],.func (.yield l) #[] #[]] W fun e B=>
   e = .returned (.bool true)/\J (pre++(⟨nm,wd,at_,sv,deep,root,aAt,aW,av⟩::qV (deep+1) root (aAt+at_) wd sv 0 subs)) B/\qR Ts W B:=by
 intro N
 induction N with
 | zero=>intro nm wd at_ sv deep root aAt aW av subs pre W h;exact absurd h (Nat.not_lt_zero _)
 |succ N ih=>
  intro nm wd at_ sv deep root aAt aW av subs pre W hN hsv hsm hfr hj h1 h2 h3 h4 h5 hE
  have ihH:=vH ih
  clear ih
  have hb0:BX W (W.alloc (.cells #[.string nm,.int .i64 wd,.int .i64 at_,sv,.int .i64 deep,.int .i64 root,.int .i64 aAt,.int .i64 aW,av] 175)):=qi
  have hs0:=qd.new W 175 #[.string nm,.int .i64 wd,.int .i64 at_,sv,.int .i64 deep,.int .i64 root,.int .i64 aAt,.int .i64 aW,av]
  have hfr0:=hfr.below hb0
  have hso0:=zi hfr.ok hb0 (vL W.heap.size)
  have hY0:=YieldAt.mono (R':=fun e B=>e = .returned (.bool true)/\J (pre++[⟨nm,wd,at_,sv,deep,root,aAt,aW,av⟩]) B/\qR Ts W B/\qd B W.heap.size 175 #[.string nm,.int .i64 wd,.int .i64 at_,sv,.int .i64 deep,.int .i64 root,.int .i64 aAt,.int .i64 aW,av]/\Qw Ts n₀ B/\¬ zg Ts B W.heap.size/\qM n₀ B sv subs)
   (xN (m':=0) (hY pre ⟨nm,wd,at_,sv,deep,root,aAt,aW,av⟩ _ (hst _ _ _ hj hb0) (by
     refine List.IsPrefix.trans ?_ hE
     exact⟨qV (deep+1) root (aAt+at_) wd sv 0 subs,by simp⟩)))
   (fun e B ⟨he,hj1,hk⟩=>⟨he,hj1,(qR.of_below hb0).trans hk,hk.cells hfr0.ok hs0 hso0,hfr0.keeps hk,hk.own hfr0.ok _ (by simp) hso0,qM.of (hfr0.cells hk) (qM.of (zu hb0) hsv)⟩)
  obtain⟨fn,tmps,assign,body,hy,hR⟩:=hY0
  unfold qA.val at hy
  dsimp only at hy
  have C1:=fun B=>Xl root aAt aW wd at_ nm sv B h1 (by omega) h2 (by omega)
  have hst2:=vH hst
  have hY2:=vH hY
  clear hst hY hj hsv hfr
  refine(callsIn_wide (n:=1)).1 ?_
  refine callsIn_of_wp func168 rfl trivial ?_ rfl
  simp only[ntmps168,List.size_toArray,List.length_cons,List.length_nil,Nat.reduceAdd,Nat.reduceSub,Array.replicate_succ,Array.replicate_zero,List.push_toArray,List.append_toArray,List.nil_append,List.cons_append]
  gi_wp2_with (first
   |(refine hR.mono ?_;clear hR;rintro e W1 ⟨rfl,hj1,hk1,hs1,hfr1,hso1,hsv1⟩;have d0:=hs1.cell (j:=0) (v:=.string nm) rfl;have d1:=hs1.cell (j:=1) (v:=.int .i64 wd) rfl;have d2:=hs1.cell (j:=2) (v:=.int .i64 at_) rfl;have d3:=hs1.cell (j:=3) (v:=sv) rfl;have d5:=hs1.cell (j:=5) (v:=.int .i64 root) rfl;have d6:=hs1.cell (j:=6) (v:=.int .i64 aAt) rfl;have d7:=hs1.cell (j:=7) (v:=.int .i64 aW) rfl)
   |(refine⟨trivial,?_⟩;gi_at_call 173;refine(callsIn_wide.2 (C1 _)).mono ?_;clear C1;rintro e W2 ⟨rfl,hb2⟩;have g3:=fun o=>qk o (qb hb2 d3);clear d0 d1 d2 d3 d5 d6 d7;rcases hsv1 with⟨⟨a0,rfl⟩,rfl⟩|⟨b',o',c',rfl,hlc,hc200,hh1⟩))
  ·refine wpIn_loop_rounds 1 ?_
   rw[roundsIn_succ]
   gi_wp2_with fail
   go_ret
   have hB3:=hb2.alloc hb2.size (.cells #[.int .i64 root,.int .i64 (aAt+at_),.int .i64 wd] 87)
   exact⟨rfl,hst2.out _ _ _ hj1 hB3,hk1.trans (qR.of_below hB3)⟩
  ·have hB3:=hb2.alloc hb2.size (.cells #[.int .i64 root,.int .i64 (aAt+at_),.int .i64 wd] 87)
   have hp3:=qd.new W2 87 #[.int .i64 root,.int .i64 (aAt+at_),.int .i64 wd]
   have hs3:=hs1.below hB3 hs1.lt
   have hfr3:=hfr1.below hB3
   have hso3:=fun h=>hso1 ((zF hfr1.ok hB3 _).1 h)
   have hpo3:=zi hfr1.ok hB3 hb2.size
   have hh3:=qB.of (n₀:=n₀) (zu hB3) hh1
   have hj3:=hst2.out _ _ _ hj1 hB3
   have hk3:=hk1.trans (qR.of_below hB3)
   clear g3 hb2 hs1 hfr1 hso1 hh1 hj1 hk1 hs0 hfr0 hso0 hy hb0 hB3
   generalize W2.alloc (.cells #[.int .i64 root,.int .i64 (aAt+at_),.int .i64 wd] 87)=W3 at hp3 hs3 hfr3 hso3 hpo3 hh3 hj3 hk3 ⊢
   refine wpIn_wide.2 ?_
   go_loopw [21] (fun i wr=>∃k:Nat,i = .int .i64 k/\qgm Ts n₀ J (pre++[⟨nm,wd,at_,.slice (some ⟨b',o',none⟩) subs.length c',deep,root,aAt,aW,av⟩]) (qV (deep+1) root (aAt+at_) wd (.slice (some ⟨b',o',none⟩) subs.length c') 0 subs) N subs.height (deep+1) root (aAt+at_) wd (.slice (some ⟨b',o',none⟩) subs.length c') b' o' subs.length W.heap.size W2.heap.size #[.string nm,.int .i64 wd,.int .i64 at_,.slice (some ⟨b',o',none⟩) subs.length c',.int .i64 deep,.int .i64 root,.int .i64 aAt,.int .i64 aW,av] #[.int .i64 root,.int .i64 (aAt+at_),.int .i64 wd] W k wr) (fun i _=>subs.length-(intOf i).toNat)
   case atStart=>
    exact⟨0,rfl,subs,[],⟨by simp,hsm,by omega,vL _,by simpa using hh3,by simp,by simpa using hj3,hs3,hp3,hfr3,hso3,hpo3,hk3⟩⟩
   case round=>
    obtain⟨k,rfl,rest,D,inv⟩:=hrel
    clear hp3 hs3 hfr3 hso3 hpo3 hh3 hj3 hk3
    cases rest with
    |nil=>
     have hlen:=inv.len
     have hsaid:=inv.said
     simp only[qV,List.append_nil] at hsaid
     have hkl:¬ k<subs.length:=by simp only[qg.length] at hlen;omega
     have hA:=vH (And.intro inv.j inv.keeps)
     have hS:=vH hsaid
     clear inv hlen hsaid
     go_wp2_with fail
     gi_wp2_with fail
     go_ret
     refine⟨rfl,?_,hA.out.2⟩
     have:=hA.out.1
     rw[hS.out] at this
     simpa using this
    |cons nm2 wd2 at2 sv2 subs2 rest2=>
     have hlen:=inv.len
     simp only[qg.length] at hlen
     have hkl:k<subs.length:=by omega
     obtain⟨hbn,⟨e0,e1,e2,e3⟩,hrest2,hsl2⟩:=inv.holds
     obtain⟨qa,qn,qc,rfl⟩:∃a n c,sv2 = .slice a n c:=by
      rcases hsl2 with⟨⟨_,h⟩,_⟩|⟨b2,o2,c2,h,_⟩
      ·exact⟨_,_,_,h⟩
      ·exact⟨_,_,_,h⟩
     obtain⟨⟨s1,s2,s3,s4⟩,hsm2,hsmr⟩:=inv.small
     have htot:=inv.total
     have hht:=inv.height
     simp only[qg.total] at htot
     simp only[qg.height] at hht
     have hsaid:=inv.said
     simp only[qV,QF] at hsaid
     have hbr:BX wr (wr.alloc (.cells #[.string nm2,.int .i64 wd2,.int .i64 at2,(.slice qa qn qc)] 40)):=qi
     have hreg:=qd.new wr 40 #[.string nm2,.int .i64 wd2,.int .i64 at2,(.slice qa qn qc)]
     have C:∀V,Below (wr.alloc (.cells #[.string nm2,.int .i64 wd2,.int .i64 at2,(.slice qa qn qc)] 40)).heap.size (wr.alloc (.cells #[.string nm2,.int .i64 wd2,.int .i64 at2,(.slice qa qn qc)] 40)) V ->
      Calls prog 168 #[.agg #[.string nm2,.int .i64 wd2,.int .i64 at2,(.slice qa qn qc),.int .i64 (deep+1),.int .i64 root,.int .i64 (aAt+at_),.int .i64 wd,.slice (some ⟨b',o',none⟩) k c'],.func (.yield l) #[] #[]] V fun e B=>
       e = .returned (.bool true)/\qgm Ts n₀ J (pre++[⟨nm,wd,at_,.slice (some ⟨b',o',none⟩) subs.length c',deep,root,aAt,aW,av⟩]) (qV (deep+1) root (aAt+at_) wd (.slice (some ⟨b',o',none⟩) subs.length c') 0 subs) N subs.height (deep+1) root (aAt+at_) wd (.slice (some ⟨b',o',none⟩) subs.length c') b' o' subs.length W.heap.size W2.heap.size #[.string nm,.int .i64 wd,.int .i64 at_,.slice (some ⟨b',o',none⟩) subs.length c',.int .i64 deep,.int .i64 root,.int .i64 aAt,.int .i64 aW,av] #[.int .i64 root,.int .i64 (aAt+at_),.int .i64 wd] W (k+1) B /\
        (B.cell? ⟨wr.heap.size,0,none⟩=some (.string nm2)/\B.cell? ⟨wr.heap.size,1,none⟩=some (.int .i64 wd2)/\B.cell? ⟨wr.heap.size,2,none⟩=some (.int .i64 at2)/\B.cell? ⟨wr.heap.size,3,none⟩=some (.slice qa qn qc)/\B.cell? ⟨W.heap.size,3,none⟩=some (.slice (some ⟨b',o',none⟩) subs.length c')/\B.cell? ⟨W.heap.size,4,none⟩=some (.int .i64 deep)/\B.cell? ⟨W2.heap.size,0,none⟩=some (.int .i64 root)/\B.cell? ⟨W2.heap.size,1,none⟩=some (.int .i64 (aAt+at_))/\B.cell? ⟨W2.heap.size,2,none⟩=some (.int .i64 wd)):=fun V hV=>by
      have hbV:=hbr.trans (hV.mono hbr.size)
      have hfrV:=inv.free.below hbV
      have hregV:=hreg.below hV hreg.lt
      refine(ihH.out nm2 wd2 at2 (.slice qa qn qc) (deep+1) root (aAt+at_) wd (.slice (some ⟨b',o',none⟩) k c') subs2 (pre++[⟨nm,wd,at_,.slice (some ⟨b',o',none⟩) subs.length c',deep,root,aAt,aW,av⟩]++D) V (by omega) (qM.of (zu hbV) hsl2) hsm2 hfrV (hst2.out _ _ _ inv.j hbV) (by omega) (by omega) (by omega) (by omega) (by omega) ?_).mono fun e B ⟨he,hjB,hkB⟩=>?_
      ·refine List.IsPrefix.trans ?_ hE
       refine⟨qV (deep+1) root (aAt+at_) wd (.slice (some ⟨b',o',none⟩) subs.length c') (k+1) rest2,?_⟩
       rw[←hsaid];simp
      ·have hkV:=(qR.of_below (Ts:=Ts) hbV).trans hkB
       have hsB:=hkV.cells inv.free.ok inv.s inv.so
       have hpB:=hkV.cells inv.free.ok inv.p inv.po
       have hrB:=hkB.cells hfrV.ok hregV (zi inv.free.ok hbV (vL _))
       refine⟨he,⟨rest2,D++(⟨nm2,wd2,at2,.slice qa qn qc,deep+1,root,aAt+at_,wd,.slice (some ⟨b',o',none⟩) k c'⟩::qV (deep+1+1) root (aAt+at_+at2) wd2 (.slice qa qn qc) 0 subs2),
        ⟨by omega,hsmr,by omega,by omega,?_,?_,?_,hsB,hpB,inv.free.keeps hkV,hkV.own inv.free.ok _ inv.s.lt inv.so,hkV.own inv.free.ok _ inv.p.lt inv.po,inv.keeps.trans hkV⟩⟩,hrB.cell rfl,hrB.cell rfl,hrB.cell rfl,hrB.cell rfl,hsB.cell rfl,hsB.cell rfl,hpB.cell rfl,hpB.cell rfl,hpB.cell rfl⟩
       ·have:=qB.of (n₀:=n₀) (inv.free.cells hkV) hrest2
        rw[show o'+(k+1)*4=o'+k*4+4 by omega];exact this
       ·rw[←hsaid];simp
       ·simpa using hjB
     have a3:=inv.s.cell (j:=3) (v:=.slice (some ⟨b',o',none⟩) subs.length c') rfl
     have a4:=inv.s.cell (j:=4) (v:=.int .i64 deep) rfl
     have p0:=inv.p.cell (j:=0) (v:=.int .i64 root) rfl
     have p1:=inv.p.cell (j:=1) (v:=.int .i64 (aAt+at_)) rfl
     have p2:=inv.p.cell (j:=2) (v:=.int .i64 wd) rfl
     have n1:=World.new_ne wr _ a3
     have n2:=World.new_ne wr _ p0
     have k0:(0:Int)<=(k:Int):=vN _
     have k1:(k:Int)<=(c':Int):=by omega
     have k2:(k:Int)<(subs.length:Int):=by omega
     have hV0:(wr.alloc (.cells #[.string nm2,.int .i64 wd2,.int .i64 at2,(.slice qa qn qc)] 40)).cell? ⟨wr.heap.size,0,none⟩=some (.string nm2)/\(wr.alloc (.cells #[.string nm2,.int .i64 wd2,.int .i64 at2,(.slice qa qn qc)] 40)).cell? ⟨wr.heap.size,1,none⟩=some (.int .i64 wd2)/\(wr.alloc (.cells #[.string nm2,.int .i64 wd2,.int .i64 at2,(.slice qa qn qc)] 40)).cell? ⟨wr.heap.size,2,none⟩=some (.int .i64 at2)/\(wr.alloc (.cells #[.string nm2,.int .i64 wd2,.int .i64 at2,(.slice qa qn qc)] 40)).cell? ⟨wr.heap.size,3,none⟩=some (.slice qa qn qc)/\(wr.alloc (.cells #[.string nm2,.int .i64 wd2,.int .i64 at2,(.slice qa qn qc)] 40)).cell? ⟨W.heap.size,3,none⟩=some (.slice (some ⟨b',o',none⟩) subs.length c')/\(wr.alloc (.cells #[.string nm2,.int .i64 wd2,.int .i64 at2,(.slice qa qn qc)] 40)).cell? ⟨W.heap.size,4,none⟩=some (.int .i64 deep)/\(wr.alloc (.cells #[.string nm2,.int .i64 wd2,.int .i64 at2,(.slice qa qn qc)] 40)).cell? ⟨W2.heap.size,0,none⟩=some (.int .i64 root)/\(wr.alloc (.cells #[.string nm2,.int .i64 wd2,.int .i64 at2,(.slice qa qn qc)] 40)).cell? ⟨W2.heap.size,1,none⟩=some (.int .i64 (aAt+at_))/\(wr.alloc (.cells #[.string nm2,.int .i64 wd2,.int .i64 at2,(.slice qa qn qc)] 40)).cell? ⟨W2.heap.size,2,none⟩=some (.int .i64 wd):=⟨hreg.cell rfl,hreg.cell rfl,hreg.cell rfl,hreg.cell rfl,qk _ a3,qk _ a4,qk _ p0,qk _ p1,qk _ p2⟩
     have hwd:IntKind.i64.wrap (deep+1)=deep+1:=vI _ (by omega)
     clear inv hrest2 hsl2 hsm2 hsmr hreg hbr
     have hsaid:=vH hsaid
     have hlen:=vH hlen
     go_wp2
     clear a3 a4 p0 p1 p2 e0 e1 e2 e3 n1 n2
     generalize wr.alloc (.cells #[.string nm2,.int .i64 wd2,.int .i64 at2,(.slice qa qn qc)] 40)=V0 at C hV0 ⊢
     obtain⟨f0,f1,f2,f3,f4,f5,f6,f7,f8⟩:=hV0
     go_region_held3 (fun w'=>w'.cell? ⟨wr.heap.size,0,none⟩=some (.string nm2)/\w'.cell? ⟨wr.heap.size,1,none⟩=some (.int .i64 wd2)/\w'.cell? ⟨wr.heap.size,2,none⟩=some (.int .i64 at2)/\w'.cell? ⟨wr.heap.size,3,none⟩=some (.slice qa qn qc)/\w'.cell? ⟨W.heap.size,3,none⟩=some (.slice (some ⟨b',o',none⟩) subs.length c')/\w'.cell? ⟨W.heap.size,4,none⟩=some (.int .i64 deep)/\w'.cell? ⟨W2.heap.size,0,none⟩=some (.int .i64 root)/\w'.cell? ⟨W2.heap.size,1,none⟩=some (.int .i64 (aAt+at_))/\w'.cell? ⟨W2.heap.size,2,none⟩=some (.int .i64 wd))
      (go_keep)
      ((go_at_call 168;refine(C _ ((kB _ _).drew)).mono ?_;clear C;rintro e B ⟨rfl,hD,hcs⟩))
     clear hwd
     go_wp2_with fail
     gi_wp2_with fail
     exact⟨⟨k+1,by go_num,hD⟩,by simp[intOf];omega⟩
end
section
open Go.RowKit Go.Shelf
attribute [local go_sem] Oper.semAt_some
def qo(i:Nat):qg->List qA
 | .nil=>[]
 | .cons nm wd at_ sv subs rest=>(⟨nm,wd,at_,sv,1,i,0,wd,.slice none 0 0⟩::qV (1+1) i (0+at_) wd sv 0 subs)++qo (i+1) rest
theorem qgn(a:Option Addr)(n c:Nat)(w:World):Calls prog 128 #[.slice a n c] w fun e w'=>e = .returned (.func (.func 167) #[] #[.pointer (some ⟨w.heap.size,0,none⟩)])/\w'=w.alloc (.cells #[.slice a n c] 22):=by
 go_enter func128,ntmps128
 go_wp2
 go_ret
 exact⟨rfl,rfl⟩
structure qlF(Ts:List Nat)(n₀:Nat)(J:List qA->World->Prop)(E:List qA)(N:Nat)(b' o' n:Nat)(k:Nat)(rest:qg)(D:List qA)(wr:World):Prop where
 len:k+rest.length=n
 small:rest.small
 total:rest.total<=N
 height:rest.height<=7
 holds:qB n₀ wr b' (o'+k*4) rest
 said:D++qo k rest=E
 j:J D wr
 free:Qw Ts n₀ wr
def qiq(Ts:List Nat)(n₀:Nat)(J:List qA->World->Prop)(E:List qA)(N:Nat)(b' o' n:Nat)(k:Nat)(wr:World):Prop:=∃rest D,qlF Ts n₀ J E N b' o' n k rest D wr
theorem qeW(m n₀ Bl b' o' c':Nat)(Ts:List Nat)(L:qg)(w:World)(hBl:w.cell? ⟨Bl,0,none⟩=some (.slice (some ⟨b',o',none⟩) L.length c'))(hL:qB n₀ w b' o' L)(hsm:L.small)(hht:L.height<=7)(hlen:L.length<=300)(hfr:Qw Ts n₀ w) :
 qgl m prog 167 #[.pointer (some ⟨Bl,0,none⟩)] (fun x:qA=>#[x.val]) Ts (fun pre x=>pre++[x] <+: qo 0 L) (qo 0 L) w:=by
 intro l J W hW hst hY h0
 have hcl:=(hW.cell (p:=⟨Bl,0,none⟩) (kW _ _ hBl)).trans hBl
 have hfrW:=hfr.below hW
 have hLW:=qB.of (n₀:=n₀) (zu hW) hL
 have hdown:=vH (qeV Ts n₀ l J (qo 0 L) hst (fun pre x A hj hp=>xN (hY pre x A hj hp)) (L.total+1))
 have hst2:=vH hst
 clear hY hst hW hBl hfr hL
 refine callsIn_of_wp func167 rfl trivial ?_ rfl
 simp only[ntmps167,List.size_toArray,List.length_cons,List.length_nil,Nat.reduceAdd,Nat.reduceSub,Array.replicate_succ,Array.replicate_zero,List.push_toArray,List.append_toArray,List.nil_append,List.cons_append]
 gi_wp2
 refine wpIn_wide.2 ?_
 go_loopw [8] (fun i wr=>∃k:Nat,i = .int .i64 k/\qiq Ts n₀ J (qo 0 L) L.total b' o' L.length k wr) (fun i _=>L.length-(intOf i).toNat)
 case atStart=>exact⟨0,rfl,L,[],⟨by simp,hsm,vL _,hht,by simpa using hLW,by simp,h0,hfrW⟩⟩
 case round=>
  obtain⟨k,rfl,rest,D,inv⟩:=hrel
  clear hLW hfrW h0 hcl
  cases rest with
  |nil=>
   have hl2:=inv.len
   have hsaid:=inv.said
   simp only[qo,List.append_nil] at hsaid
   have hkl:¬ k<L.length:=by simp only[qg.length] at hl2;omega
   have hA:=vH inv.j
   have hS:=vH hsaid
   clear inv hl2 hsaid
   go_wp2_with fail
   gi_wp2_with fail
   go_end0
   exact⟨⟨_,rfl⟩,by rw[←hS.out];exact hA.out⟩
  |cons nm2 wd2 at2 sv2 subs2 rest2=>
   have hl2:=inv.len
   simp only[qg.length] at hl2
   have hkl:k<L.length:=by omega
   obtain⟨hbn,⟨e0,e1,e2,e3⟩,hrest2,hsl2⟩:=inv.holds
   obtain⟨qa,qn,qc,rfl⟩:∃a n c,sv2 = .slice a n c:=by
    rcases hsl2 with⟨⟨_,h⟩,_⟩|⟨b2,o2,c2,h,_⟩
    ·exact⟨_,_,_,h⟩
    ·exact⟨_,_,_,h⟩
   obtain⟨⟨s1,s2,s3,s4⟩,hsm2,hsmr⟩:=inv.small
   have htot:=inv.total
   have hht2:=inv.height
   simp only[qg.total] at htot
   simp only[qg.height] at hht2
   have hsaid:=inv.said
   simp only[qo] at hsaid
   have C:∀V,BX wr V->Calls prog 168 #[.agg #[.string nm2,.int .i64 wd2,.int .i64 at2,.slice qa qn qc,.int .i64 1,.int .i64 k,.int .i64 0,.int .i64 wd2,.slice none 0 0],.func (.yield l) #[] #[]] V fun e B=>
    e = .returned (.bool true)/\qiq Ts n₀ J (qo 0 L) L.total b' o' L.length (k+1) B:=fun V hV=>by
    have hfrV:=inv.free.below hV
    refine(hdown.out nm2 wd2 at2 (.slice qa qn qc) 1 k 0 wd2 (.slice none 0 0) subs2 D V (by omega) (qM.of (zu hV) hsl2) hsm2 hfrV (hst2.out _ _ _ inv.j hV) (by omega) (by omega) (by omega) (by omega) (by omega) ?_).mono fun e B ⟨he,hjB,hkB⟩=>?_
    ·refine⟨qo (k+1) rest2,?_⟩
     rw[←hsaid];simp
    ·have hkV:=(qR.of_below (Ts:=Ts) hV).trans hkB
     refine⟨he,rest2,D++(⟨nm2,wd2,at2,.slice qa qn qc,1,k,0,wd2,.slice none 0 0⟩::qV (1+1) k (0+at2) wd2 (.slice qa qn qc) 0 subs2),⟨by omega,hsmr,by omega,by omega,?_,?_,hjB,inv.free.keeps hkV⟩⟩
     ·have:=qB.of (n₀:=n₀) (inv.free.cells hkV) hrest2
      rw[show o'+(k+1)*4=o'+k*4+4 by omega];exact this
     ·rw[←hsaid];simp
   have k0:(0:Int)<=(k:Int):=vN _
   have k2:(k:Int)<(L.length:Int):=by omega
   clear inv hrest2 hsl2 hsm2 hsmr
   have hsaid:=vH hsaid
   have hl2:=vH hl2
   go_wp2_with (go_at_call 168;refine(C _ (qi.alloc (by simp) _)).mono ?_;clear C;rintro e B ⟨rfl,hD⟩)
   gi_wp2_with fail
   exact⟨⟨k+1,by go_num,hD⟩,by simp[intOf];omega⟩
end
end Go.Proofs.YtomlgdnafeeeiaaGreatDoor
