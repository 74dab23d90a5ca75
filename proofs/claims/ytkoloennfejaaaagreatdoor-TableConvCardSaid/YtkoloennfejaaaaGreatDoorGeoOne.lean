/-
  A range over a function whose body always goes on: the iterator tells the elements of E, one behind the other; a round is walked knowing which elements came ahead of it ('Ok'). And what follows: see the heads within.
-/
import Derived.Test.YtkoloennfejaaaaGreatDoorLexDesc
import Derived.RangeFuncSeq
import Derived.WalkKit
import Derived.Deep.QuietTactic
import Derived.BigQuiet
import Derived.RegionTactic
import Derived.BigRegion
import Derived.Lib.Hide
import Derived.Deep.RegionHeld3
import Derived.StillTactics
import Derived.OwnWalk
import Derived.Laws.Pointers
import Derived.LoopTactic
import Derived.RangeFuncNested
import Derived.RangeFuncBound
import Derived.RangeFuncCalls
import Derived.RangeFuncLeaves
import Derived.OwnWalkIn
import Derived.TacticsInMore
import Derived.LoopNIn
import Derived.LoopIn
import Derived.WalkMore
import Derived.IntWalk
set_option maxHeartbeats 4000000
set_option maxRecDepth 100000
namespace Go.Proofs.YtkoloennfejaaaaGreatDoor
open Go.RowKit
def qcF{α:Type}(n:Nat)(P:Program)(gf:Nat)(lb:Array Value)(encs:α->Array Value)(Ts:List Nat)(Ok:List α->α->Prop)(E:List α)(w0:World):Prop:=
 ∀ (l:Nat) (J:List α->World->Prop) (W:World),Below w0.heap.size w0 W->(∀pre A B,J pre A->Below A.heap.size A B->J pre B) ->
  (∀pre x A,J pre A->Ok pre x->YieldAt Fence.wide (n-1) P l (encs x) A fun e B=>e = .returned (.bool true)/\J (pre++[x]) B/\Keeps Ts A B) ->
  J [] W->CallsIn Fence.wide n P gf (#[.func (.yield l) #[] #[]]++lb) W fun e B=>(∃v,e = .returned v)/\J E B
def Yr{α:Type}(B:Nat)(Ts:List Nat)(I:List α->World->Prop)(xs:List α)(W:World):Exit->Act->World->Prop
 | .normal,_,W'=>KeepsFrom B W W'/\Keeps Ts W W'/\I xs W'
 | _,_,_=>False
theorem qen{α:Type}{n:Nat}{P:Program}{g:Operand}{ps:Array Tmp}{assign body:Code}{Q:Exit->Act->World->Prop}{a:Act}{w w0:World}{gf:Nat}{lb:Array Value}
 (h1:1<=n) (hg:a.eval g = .func (.func gf) #[] lb) (eg:∀args w,(callFunc gf args).run P w = .ok (.enter gf args) w)
 {encs:α->Array Value} {Ts:List Nat} {Ok:List α->α->Prop} {E:List α} (hit:qcF (n-1) P gf lb encs Ts Ok E w0) (hb0:Below w0.heap.size w0 w) (hTs:∀t,t∈Ts->t<w.heap.size) (hps:∀x,(encs x).size=ps.size)
 (I:List α->World->Prop) (hI:OwnFrom w.heap.size I) (h0:I [] w) (Ax:α->Act->World->Prop) (hAx:∀x a',OwnFrom w.heap.size (fun(_:Unit) W=>Ax x a' W))
 (hassign:∀ (l:Nat) (pre:List α) (x:α) (W:World) (K:Act->World->Prop),I pre W->Ok pre x->(∀a' W',KeepsFrom w.heap.size W W'->Keeps Ts W W'->I pre W'->Ax x a' W'->K a' W') ->
   assign.wpIn (Fence.wide.inRound l) (n-1-1) P (Exit.then K (fun _ _ _=>False)) { tmps:=(ps.zip (encs x)).foldl (fun t (p,v)=>t.setIfInBounds p v) a.tmps,defers:=[] } W)
 (hbody:∀ (l:Nat) (pre:List α) (x:α) (a':Act) (W:World),I pre W->Ax x a' W->Ok pre x->body.wpIn (Fence.wide.inRound l) (n-1-1) P (Yr w.heap.size Ts I (pre++[x]) W) a' W)
 (hdone:∀ (D:Nat) (W:World),w.heap.size<=D->I E W->W.heap[D]?=some (.deferred (some []))->Q .normal { a with defers:={ target:=.collected D,args:=#[] } :: a.defers } W) :
 (Code.rangeFunc g ps assign body).wpIn Fence.wide n P Q a w:=by
 refine wpIn_rangeFunc ?_
 intro fn hfn
 obtain⟨rc,hrc⟩:∃rc:LoopState->Loop,rc=fun st=>{ state:=st,pending:=none,fn,tmps:=a.tmps,params:=ps,assign,body,defers:=w.heap.size }:=⟨_,rfl⟩
 obtain⟨S,hS⟩:∃S,S=(w.alloc (.deferred (some []))).alloc (.loop (rc .ready)):=⟨_,rfl⟩
 have hSz:S.heap.size=w.heap.size+2:=by rw[hS];simp
 have hSb:Below w.heap.size w S:=by rw[hS];exact((Below.refl _ w).alloc (Nat.le_refl _) _).alloc (by simp) _
 have hSl:S.heap[w.heap.size+1]?=some (.loop (rc .ready)):=by
  have:=World.alloc_heap_new (w.alloc (.deferred (some []))) (.loop (rc .ready))
  rw[World.size_alloc] at this;rw[hS];exact this
 have hSd:S.heap[w.heap.size]?=some (.deferred (some [])):=by
  rw[hS];exact(Below.heap_alloc _ _ _ (by simp)).trans (World.alloc_heap_new w _)
 refine⟨w.heap.size+1,[{ target:=.collected w.heap.size,args:=#[] }],S,{ target:=.fn (.func gf) lb,args:=#[.func (.yield (w.heap.size+1)) #[] #[]] },S,gf,#[.func (.yield (w.heap.size+1)) #[] #[]]++lb,S,?_,?_,fun _ _=>trivial,?_,fun _=>h1,?_⟩
 ·rw[hS,hrc];exact run_enterLoop_outer _ _ _ _ _
 ·simp only[resolve,hg];simp[go_sem]
 ·simp[invoke,go_sem,eg]
 refine(hit (w.heap.size+1) (fun pre W=>I pre W/\W.heap[w.heap.size+1]?=some (.loop (rc .ready))/\W.heap[w.heap.size]?=some (.deferred (some []))) S (hb0.trans (hSb.mono hb0.size)) ?_ ?_ ?_).mono ?_
 ·rintro pre A B ⟨hi,hl,hd⟩ hb
  exact⟨hI pre A B none hi (qU hb) (fun r e=>by cases e),(hb.block _ (qm hl)).trans hl,(hb.block _ (qm hd)).trans hd⟩
 ·rintro pre x A ⟨hi,hl,hd⟩ hok
  have hy:=run_yield (P:=P) (args:=encs x) hl (by rw[hrc];exact hps x)
  rw[hrc] at hy
  refine⟨fn,_,assign,body,hy,roundIn_of_wpIn hfn (hassign (w.heap.size+1) pre x A _ hi hok ?_)⟩
  intro a' W hkf hk hiW hax
  have hlW:=hkf.same _ _ (by omega) hl rfl
  have hdW:=hkf.same _ _ (Nat.le_refl _) hd rfl
  refine⟨_,run_beginRound hlW (by rw[hrc]),?_⟩
  have hl1:(W.putObj (w.heap.size+1) (.loop { rc .ready with state:=.busy })).heap[w.heap.size+1]?=some (.loop { rc .ready with state:=.busy }):=World.putObj_heap_same (qm hlW)
  have hd1:(W.putObj (w.heap.size+1) (.loop { rc .ready with state:=.busy })).heap[w.heap.size]?=some (.deferred (some [])):=(World.putObj_heap_other (by omega)).trans hdW
  have hk1:Keeps Ts W (W.putObj (w.heap.size+1) (.loop { rc .ready with state:=.busy })):=jL hTs _ _ _ _ (by omega) hlW rfl rfl
  refine wpIn_mono (hbody (w.heap.size+1) pre x a' _ (hI.putObj _ hiW (by omega) hlW rfl) ((hAx x a').putObj (s:=()) _ hax (by omega) hlW rfl) hok) ?_
  intro e a2 W2 hp
  cases e with
  |normal=>
   obtain⟨hkf2,hk2,hi2⟩:=hp
   have hl2:=hkf2.same _ _ (by omega) hl1 rfl
   have hd2:=hkf2.same _ _ (Nat.le_refl _) hd1 rfl
   have he:=run_endRound (P:=P) none hl2
   refine⟨_,_,he,rfl,⟨hI.putObj _ hi2 (by omega) hl2 rfl,?_,(World.putObj_heap_other (by omega)).trans hd2⟩,((hk.trans hk1).trans hk2).trans (jL hTs _ _ _ _ (by omega) hl2 rfl rfl)⟩
   rw[World.putObj_heap_same (qm hl2),hrc];rfl
  | ret=>exact hp.elim
  | exit id=>exact hp.elim
  | goto t=>exact hp.elim
  | panic ch=>exact hp.elim
  | outgrown=>exact hp.elim
 ·exact⟨hI [] w S none h0 (qU hSb) (fun r e=>by cases e),hSl,hSd⟩
 ·rintro e W ⟨⟨v,rfl⟩,hi,hl,hd⟩
  have he:=run_endLoop (P:=P) hl (by rw[hrc];simp)
  have hp:(rc .ready).pending=none:=by rw[hrc]
  rw[hp] at he
  exact⟨none,_,he,hdone w.heap.size _ (Nat.le_refl _) (hI.putObj _ hi (by omega) hl rfl) ((World.putObj_heap_other (by omega)).trans hd)⟩
def bitsB(at_ wd bit:Int):Int:=if at_<=bit/\bit-at_<=wd then wd-(bit-at_) else 0
theorem ZA{at_ wd bit:Int} : 0<bitsB at_ wd bit↔at_<=bit/\bit-at_<wd:=by
 unfold bitsB;split <;> omega
theorem qeo{k:IntKind}{a b:Int}(h:a=b):Ending.returned (.int k a) = .returned (.int k b):=by rw[h]
theorem yS(root aAt aW wd at_:Int)(nm:ByteArray)(sv:Value)(w:World)(h1:0<=aAt)(h2:aAt<=1000)(h3:0<=at_)(h4:at_<=1000) :
 Calls Tryz.prog 191 #[.agg #[.int .i64 root,.int .i64 aAt,.int .i64 aW],.agg #[.string nm,.int .i64 wd,.int .i64 at_,sv]] w fun e w'=>
  e = .returned (.agg #[.int .i64 root,.int .i64 (aAt+at_),.int .i64 wd])/\Below w.heap.size w w':=by
 go_enter Tryz.func191,Tryz.ntmps191
 go_wp2
 refine bodyPost_ret (v:=.agg #[.int .i64 root,.int .i64 (aAt+at_),.int .i64 wd]) (by simp[results,Tryz.results191,go_sem]) rfl ⟨rfl,?_⟩
 exact(qe.alloc (by simp) _).alloc (by simp;omega) _
theorem yb(root at_ wd bit:Int)(w:World)(h1:0<=at_)(h2:at_<=1000)(h3:0<=wd)(h4:wd<=1000)(h5:0<=bit)(h6:bit<=1000) :
 Calls Tryz.prog 154 #[.agg #[.int .i64 root,.int .i64 at_,.int .i64 wd],.int .i64 bit] w fun e w'=>
  e = .returned (.int .u64 (bitsB at_ wd bit))/\Below w.heap.size w w':=by
 go_enter Tryz.func154,Tryz.ntmps154
 go_wp2
 go_quiet (fail)
 go_wp2
 all_goals
  go_ret
  exact⟨qeo (by unfold bitsB;split <;> omega),below_drewN (qe) _⟩
def lapB(a1 w1 a2 w2:Int):Bool:=decide (a1<a2+w2)&&decide (a2<a1+w1)
theorem Ys(root a1 w1 a2 w2:Int)(w:World)(h1:0<=a1)(h2:a1<=1000)(h3:1<=w1)(h4:w1<=1000)(h5:0<=a2)(h6:a2<=1000)(h7:1<=w2)(h8:w2<=1000) :
 Calls Tryz.prog 108 #[.agg #[.int .i64 root,.int .i64 a1,.int .i64 w1],.agg #[.int .i64 root,.int .i64 a2,.int .i64 w2]] w fun e w'=>
  e = .returned (.bool (lapB a1 w1 a2 w2))/\Below w.heap.size w w':=by
 have C1:=fun W=>yb root a1 w1 a2 W h1 h2 (by omega) h4 h5 h6
 have C2:=fun W=>yb root a2 w2 a1 W h5 h6 (by omega) h8 h1 h2
 by_cases hp:0<bitsB a1 w1 a2
 ·have hq:=Lib.hid (ZA.1 hp)
  go_enter Tryz.func108,Tryz.ntmps108
  go_wp2_with (go_at_call 154;refine(C1 _).mono ?_;clear C1;rintro e W1 ⟨rfl,hb⟩;obtain⟨hc,hf⟩:=xH hb)
  go_ret
  refine⟨qg (by have:=hq.out;unfold lapB;simp;omega),(qe.alloc (by simp) _).trans (hb.mono (by simp;omega))⟩
 ·have hq:Hid (¬ (a1<=a2/\a2-a1<w1)):=Lib.hid (fun h=>hp (ZA.2 h))
  go_enter Tryz.func108,Tryz.ntmps108
  go_wp2_with (first
   |(go_at_call 154;refine(C1 _).mono ?_;clear C1;rintro e W1 ⟨rfl,hb⟩;obtain⟨hc,hf⟩:=xH hb)
   |(go_at_call 154;refine(C2 _).mono ?_;clear C2;rintro e W2 ⟨rfl,hb2⟩))
  go_ret
  refine⟨qg (by have:=hq.out;have:=@ZA a2 w2 a1;unfold lapB;rw[Bool.eq_iff_iff];simp;omega),(qe.alloc (by simp) _).trans ((hb.trans (hb2.mono hb.size)).mono (by simp;omega))⟩
theorem Kz(nm:ByteArray)(wd at_ deep root aAt aW:Int)(sv av:Value)(w:World)(h1:1<=wd)(h2:wd<=64)(h3:0<=at_)(h4:at_<=1000)(h5:aW<=1000)(hf:at_+wd<=aW) :
 Calls Tryz.prog 189 #[.agg #[.string nm,.int .i64 wd,.int .i64 at_,sv,.int .i64 deep,.int .i64 root,.int .i64 aAt,.int .i64 aW,av]] w fun e w'=>
  e = .returned (.bool true)/\Below w.heap.size w w':=by
 have hle:at_<=aW-wd:=by omega
 go_enter Tryz.func189,Tryz.ntmps189
 go_wp2
 go_ret
 exact⟨rfl,qe⟩
theorem qep(bs bp:Nat)(root aAt aW pAt pW wd at_:Int)(nm:ByteArray)(sv:Value)(w:World)(c0:w.cell? ⟨bs,5,none⟩=some (.int .i64 root))(c1:w.cell? ⟨bs,6,none⟩=some (.int .i64 aAt))(c2:w.cell? ⟨bs,7,none⟩=some (.int .i64 aW))(c3:w.cell? ⟨bp,0,none⟩=some (.int .i64 root))(c4:w.cell? ⟨bp,1,none⟩=some (.int .i64 pAt))(c5:w.cell? ⟨bp,2,none⟩=some (.int .i64 pW))
 (h1:0<=aAt) (h2:aAt<=500) (h3:0<=at_) (h4:at_<=500) (h5:1<=wd) (h6:wd<=1000) (h7:0<=pAt) (h8:pAt<=1000) (h9:1<=pW) (h10:pW<=1000) (hl:lapB (aAt+at_) wd pAt pW=false) :
 Calls Tryz.prog 214 #[.agg #[.string nm,.int .i64 wd,.int .i64 at_,sv],.pointer (some ⟨bs,0,none⟩),.pointer (some ⟨bp,0,none⟩)] w fun e w'=>e = .returned (.bool false)/\Below w.heap.size w w':=by
 have C1:=fun W=>yS root aAt aW wd at_ nm sv W h1 (by omega) h3 (by omega)
 have C2:=fun W=>Ys root (aAt+at_) wd pAt pW W (by omega) (by omega) h5 h6 h7 h8 h9 h10
 rw[hl] at C2
 have lbs:=World.block_lt_of_cell? _ _ c0
 have lbp:=World.block_lt_of_cell? _ _ c3
 dsimp only at lbs lbp
 have nbs:=World.new_ne w _ c0
 have nbp:=World.new_ne w _ c3
 clear hl
 go_enter Tryz.func214,Tryz.ntmps214
 go_wp2
 go_region_held3 (fun w'=>w'.cell? ⟨bs,5,none⟩=some (.int .i64 root)/\w'.cell? ⟨bs,6,none⟩=some (.int .i64 aAt)/\w'.cell? ⟨bs,7,none⟩=some (.int .i64 aW)/\w'.cell? ⟨bp,0,none⟩=some (.int .i64 root)/\w'.cell? ⟨bp,1,none⟩=some (.int .i64 pAt)/\w'.cell? ⟨bp,2,none⟩=some (.int .i64 pW)/\w'.cell? ⟨w.heap.size,0,none⟩=some (.string nm)/\w'.cell? ⟨w.heap.size,1,none⟩=some (.int .i64 wd)/\w'.cell? ⟨w.heap.size,2,none⟩=some (.int .i64 at_)/\w'.cell? ⟨w.heap.size,3,none⟩=some (sv))
  (go_keep)
  ((first
    |(go_at_call 191;refine(C1 _).mono ?_;clear C1;rintro e W1 ⟨rfl,hb⟩;have k0:W1.cell? ⟨bs,5,none⟩=some (.int .i64 root):=qh hb;have k1:W1.cell? ⟨bs,6,none⟩=some (.int .i64 aAt):=qh hb;have k2:W1.cell? ⟨bs,7,none⟩=some (.int .i64 aW):=qh hb;have k3:W1.cell? ⟨bp,0,none⟩=some (.int .i64 root):=qh hb;have k4:W1.cell? ⟨bp,1,none⟩=some (.int .i64 pAt):=qh hb;have k5:W1.cell? ⟨bp,2,none⟩=some (.int .i64 pW):=qh hb;have k6:W1.cell? ⟨w.heap.size,0,none⟩=some (.string nm):=qh hb;have k7:W1.cell? ⟨w.heap.size,1,none⟩=some (.int .i64 wd):=qh hb;have k8:W1.cell? ⟨w.heap.size,2,none⟩=some (.int .i64 at_):=qh hb;have k9:W1.cell? ⟨w.heap.size,3,none⟩=some (sv):=qh hb)
    |(go_at_call 108;refine(C2 _).mono ?_;clear C2;rintro e W2 ⟨rfl,hb2⟩;have m0:W2.cell? ⟨bs,5,none⟩=some (.int .i64 root):=qh hb2;have m1:W2.cell? ⟨bs,6,none⟩=some (.int .i64 aAt):=qh hb2;have m2:W2.cell? ⟨bs,7,none⟩=some (.int .i64 aW):=qh hb2;have m3:W2.cell? ⟨bp,0,none⟩=some (.int .i64 root):=qh hb2;have m4:W2.cell? ⟨bp,1,none⟩=some (.int .i64 pAt):=qh hb2;have m5:W2.cell? ⟨bp,2,none⟩=some (.int .i64 pW):=qh hb2;have m6:W2.cell? ⟨w.heap.size,0,none⟩=some (.string nm):=qh hb2;have m7:W2.cell? ⟨w.heap.size,1,none⟩=some (.int .i64 wd):=qh hb2;have m8:W2.cell? ⟨w.heap.size,2,none⟩=some (.int .i64 at_):=qh hb2;have m9:W2.cell? ⟨w.heap.size,3,none⟩=some (sv):=qh hb2)))
 go_wp2
 go_ret
 exact⟨rfl,((qe.drew).trans (hb.mono (by simp))).trans (hb2.mono (by have:=hb.size;simp at this;omega))⟩
structure qD where
 name:ByteArray
 wd:Int
 at_:Int
 sv:Value
def RegAt(W:World)(b o:Nat)(r:qD):Prop:=
 W.cell? ⟨b,o,none⟩=some (.string r.name)/\W.cell? ⟨b,o+1,none⟩=some (.int .i64 r.wd)/\W.cell? ⟨b,o+2,none⟩=some (.int .i64 r.at_)/\W.cell? ⟨b,o+3,none⟩=some r.sv
def jG(W:World)(b o:Nat)(l:List qD):Prop:=∀i r,l[i]?=some r->RegAt W b (o+i*4) r
theorem RegAt.below{W W':World}{b o:Nat}{r:qD}(h:RegAt W b o r)(hb:Below W.heap.size W W'):RegAt W' b o r:=
 ⟨cell_below hb h.1,cell_below hb h.2.1,cell_below hb h.2.2.1,cell_below hb h.2.2.2⟩
theorem jG.below{W W':World}{b o:Nat}{l:List qD}(h:jG W b o l)(hb:Below W.heap.size W W'):jG W' b o l:=fun i r hr=>(h i r hr).below hb
def qD.small(r:qD):Prop:=0<=r.at_/\r.at_<=500/\1<=r.wd/\r.wd<=1000
theorem Yt(bs bp b off n cap:Nat)(root aAt aW pAt pW:Int)(l:List qD)(w:World)(hn:l.length=n)(hsz:n<=200)(hl:jG w b off l)
 (c0:w.cell? ⟨bs,5,none⟩=some (.int .i64 root)) (c1:w.cell? ⟨bs,6,none⟩=some (.int .i64 aAt)) (c2:w.cell? ⟨bs,7,none⟩=some (.int .i64 aW))
 (c3:w.cell? ⟨bp,0,none⟩=some (.int .i64 root)) (c4:w.cell? ⟨bp,1,none⟩=some (.int .i64 pAt)) (c5:w.cell? ⟨bp,2,none⟩=some (.int .i64 pW))
 (h1:0<=aAt) (h2:aAt<=500) (h7:0<=pAt) (h8:pAt<=1000) (h9:1<=pW) (h10:pW<=1000) (hr:∀r,r∈l->r.small/\lapB (aAt+r.at_) r.wd pAt pW=false) :
 Calls Tryz.prog 220 #[.slice (some ⟨b,off,none⟩) n cap,.func (.func 214) #[] #[.pointer (some ⟨bs,0,none⟩),.pointer (some ⟨bp,0,none⟩)]] w fun e w'=>
  e = .returned (.int .i64 (-1))/\Below w.heap.size w w':=by
 go_enter Tryz.func220,Tryz.ntmps220
 go_wp2
 go_loopw [8] (fun i wr=>∃k:Nat,k<=n/\i = .int .i64 k/\Below w.heap.size w wr) (fun i _=>n-(intOf i).toNat)
 case atStart=>exact⟨0,Nat.zero_le _,rfl,Below.refl _ _⟩
 case round=>
  obtain⟨k,hk,rfl,hB⟩:=hrel
  by_cases hlt:k<n
  ·obtain⟨r,hr1⟩:∃r,l[k]?=some r:=⟨l[k],by rw[List.getElem?_eq_getElem (by omega)]⟩
   obtain⟨hs,hlp⟩:=hr r (List.mem_of_getElem? hr1)
   obtain⟨hs1,hs2,hs3,hs4⟩:=hs
   obtain⟨d0,d1,d2,d3⟩:=(hl k r hr1).below hB
   have C:=qep bs bp root aAt aW pAt pW r.wd r.at_ r.name r.sv wr (cell_below hB c0) (cell_below hB c1) (cell_below hB c2) (cell_below hB c3) (cell_below hB c4) (cell_below hB c5) h1 h2 hs1 hs2 hs3 hs4 h7 h8 h9 h10 hlp
   clear c0 c1 c2 c3 c4 c5 hr1 hl hr hlp
   go_wp2_with (go_at_call 214;refine C.mono ?_;clear C;rintro e W1 ⟨rfl,hb⟩)
   exact⟨⟨k+1,by omega,by go_num,hB.trans (hb.mono hB.size)⟩,by simp[intOf];omega⟩
  ·go_wp2_with fail
   go_ret
   exact⟨rfl,hB⟩
theorem Qu(a:Option Addr)(f:Value)(w:World) :
 Calls Tryz.prog 220 #[.slice a 0 0,f] w fun e w'=>e = .returned (.int .i64 (-1))/\w=w':=by
 go_enter Tryz.func220,Tryz.ntmps220
 go_wp2
 refine wp_loop_rounds 1 ?_
 rw[rounds_succ]
 go_wp2
 go_ret
 exact⟨rfl,rfl⟩
def AheadIs(W:World)(av:Value)(l:List qD):Prop:=
 ((∃a,av = .slice a 0 0)/\l = [])∨∃b off cap,av = .slice (some ⟨b,off,none⟩) l.length cap/\jG W b off l
theorem AheadIs.below{W W':World}{av:Value}{l:List qD}(h:AheadIs W av l)(hb:Below W.heap.size W W'):AheadIs W' av l:=by
 rcases h with h|⟨b,off,cap,h,hr⟩
 ·exact .inl h
 ·exact .inr ⟨b,off,cap,h,hr.below hb⟩
theorem Xg(bs bp:Nat)(root aAt aW pAt pW:Int)(av:Value)(l:List qD)(w:World)(hsz:l.length<=200)(hl:AheadIs w av l)
 (c0:w.cell? ⟨bs,5,none⟩=some (.int .i64 root)) (c1:w.cell? ⟨bs,6,none⟩=some (.int .i64 aAt)) (c2:w.cell? ⟨bs,7,none⟩=some (.int .i64 aW))
 (c3:w.cell? ⟨bp,0,none⟩=some (.int .i64 root)) (c4:w.cell? ⟨bp,1,none⟩=some (.int .i64 pAt)) (c5:w.cell? ⟨bp,2,none⟩=some (.int .i64 pW))
 (h1:0<=aAt) (h2:aAt<=500) (h7:0<=pAt) (h8:pAt<=1000) (h9:1<=pW) (h10:pW<=1000) (hr:∀r,r∈l->r.small/\lapB (aAt+r.at_) r.wd pAt pW=false) :
 Calls Tryz.prog 213 #[av,.func (.func 214) #[] #[.pointer (some ⟨bs,0,none⟩),.pointer (some ⟨bp,0,none⟩)]] w fun e w'=>
  e = .returned (.bool false)/\Below w.heap.size w w':=by
 have C:Calls Tryz.prog 220 #[av,.func (.func 214) #[] #[.pointer (some ⟨bs,0,none⟩),.pointer (some ⟨bp,0,none⟩)]] w fun e w'=>e = .returned (.int .i64 (-1))/\Below w.heap.size w w':=by
  rcases hl with⟨⟨av,rfl⟩,rfl⟩|⟨b,off,cap,rfl,hl⟩
  ·exact(Qu _ _ w).mono fun e w' ⟨he,hw⟩=>⟨he,hw ▸ Below.refl _ _⟩
  ·exact Yt bs bp b off l.length cap root aAt aW pAt pW l w rfl hsz hl c0 c1 c2 c3 c4 c5 h1 h2 h7 h8 h9 h10 hr
 clear hl c0 c1 c2 c3 c4 c5 hr
 go_enter Tryz.func213,Tryz.ntmps213
 go_wp2_with (go_at_call 220;refine C.mono ?_;clear C;rintro e W1 ⟨rfl,hb⟩)
 go_ret
 exact⟨rfl,hb⟩
theorem qgb(nm:ByteArray)(wd at_ deep root aAt aW:Int)(sv av:Value)(l:List qD)(w:World)(hsz:l.length<=200)(hl:AheadIs w av l)
 (h1:0<=aAt) (h2:aAt<=500) (h3:0<=at_) (h4:at_<=500) (h9:1<=wd) (h10:wd<=1000) (hr:∀r,r∈l->r.small/\lapB (aAt+r.at_) r.wd (aAt+at_) wd=false) :
 Calls Tryz.prog 190 #[.agg #[.string nm,.int .i64 wd,.int .i64 at_,sv,.int .i64 deep,.int .i64 root,.int .i64 aAt,.int .i64 aW,av]] w fun e w'=>
  e = .returned (.bool false)/\Below w.heap.size w w':=by
 have C1:=fun W=>yS root aAt aW wd at_ nm sv W h1 (by omega) h3 (by omega)
 have C2:∀W W1,Below w.heap.size w W->Below W.heap.size W W1->W=w.alloc (.cells #[.string nm,.int .i64 wd,.int .i64 at_,sv,.int .i64 deep,.int .i64 root,.int .i64 aAt,.int .i64 aW,av] 185) ->
  (W1.alloc (.cells #[.int .i64 root,.int .i64 (aAt+at_),.int .i64 wd] 94)).cell? ⟨w.heap.size,8,none⟩=some av /\
  Calls Tryz.prog 213 #[av,.func (.func 214) #[] #[.pointer (some ⟨w.heap.size,0,none⟩),.pointer (some ⟨W1.heap.size,0,none⟩)]]
   (W1.alloc (.cells #[.int .i64 root,.int .i64 (aAt+at_),.int .i64 wd] 94)) fun e w'=>e = .returned (.bool false)/\Below (W1.alloc (.cells #[.int .i64 root,.int .i64 (aAt+at_),.int .i64 wd] 94)).heap.size (W1.alloc (.cells #[.int .i64 root,.int .i64 (aAt+at_),.int .i64 wd] 94)) w':=by
  intro W W1 hW hb e
  have hW1:=hb.alloc hb.size (.cells #[.int .i64 root,.int .i64 (aAt+at_),.int .i64 wd] 94)
  have hs:Cells W w.heap.size 185 #[.string nm,.int .i64 wd,.int .i64 at_,sv,.int .i64 deep,.int .i64 root,.int .i64 aAt,.int .i64 aW,av]:=by rw[e];exact Cells.new _ _ _
  have hs1:=hs.below hW1 hs.lt
  have hp:=Cells.new W1 94 #[.int .i64 root,.int .i64 (aAt+at_),.int .i64 wd]
  refine⟨hs1.cell rfl,?_⟩
  exact Xg _ _ root aAt aW (aAt+at_) wd av l _ hsz ((hl.below hW).below hW1) (hs1.cell rfl) (hs1.cell rfl) (hs1.cell rfl) (hp.cell rfl) (hp.cell rfl) (hp.cell rfl) h1 h2 (by omega) (by omega) h9 h10 hr
 clear hl hr
 have hmf:∀ (fn:Fn) (first cap:Array Value) (w:World),(Instr.makeFunc fn first cap).run Tryz.prog w = .ok (.func fn first cap) w:=fun _ _ _ _=>rfl
 go_enter Tryz.func190,Tryz.ntmps190
 go_wp2_with (first
  |(go_at_call 191;refine(C1 _).mono ?_;clear C1;rintro e W1 ⟨rfl,hb⟩;obtain⟨hav,C3⟩:=C2 _ W1 (qe) hb rfl;clear C2;obtain⟨hc,hf⟩:=xH hb)
  |(go_at_call 213;refine C3.mono ?_;clear C3;rintro e W2 ⟨rfl,hb2⟩))
 go_ret
 exact⟨rfl,(qe.trans ((hb.alloc hb.size _).mono (by simp))).trans (hb2.mono (by have:=hb.size;simp at this ⊢;omega))⟩
open Go.RowKit Go.Shelf
attribute [local go_sem] Oper.semAt_some
inductive RegL where
 | nil
 | cons (name:ByteArray) (wd at_:Int) (sv:Value) (subs rest:RegL)
def RegL.length:RegL->Nat
 | .nil=>0
 | .cons _ _ _ _ _ rest=>rest.length+1
def RegL.total:RegL->Nat
 | .nil=>0
 | .cons _ _ _ _ subs rest=>1+subs.total+rest.total
structure Spot where
 name:ByteArray
 wd:Int
 at_:Int
 sv:Value
 deep:Int
 root:Int
 aAt:Int
 aW:Int
 av:Value
def Spot.val(x:Spot):Value:=.agg #[.string x.name,.int .i64 x.wd,.int .i64 x.at_,x.sv,.int .i64 x.deep,.int .i64 x.root,.int .i64 x.aAt,.int .i64 x.aW,x.av]
def headOf(sv:Value)(i:Nat):Value:=
 match sv with
 | .slice (some a) _ c=>.slice (some a) i c
 | v=>v
def spotsIn(deep root aAt aW:Int)(sv:Value)(i:Nat):RegL->List Spot
 | .nil=>[]
 | .cons nm wd at_ v subs rest=>{ name:=nm,wd,at_,sv:=v,deep,root,aAt,aW,av:=headOf sv i } :: (spotsIn (deep+1) root (aAt+at_) wd v 0 subs++spotsIn deep root aAt aW sv (i+1) rest)
def ql(n₀:Nat)(W:World)(b:Nat):Nat->RegL->Prop
 | _,.nil=>True
 | o,.cons nm wd at_ sv subs rest=>b<n₀/\RegAt W b o ⟨nm,wd,at_,sv⟩/\ql n₀ W b (o+4) rest /\
    (((∃a,sv = .slice a 0 0)/\subs = .nil)∨∃b' o' c',sv = .slice (some ⟨b',o',none⟩) subs.length c'/\subs.length<=c'/\subs.length<=100000/\ql n₀ W b' o' subs)
def qu(n₀:Nat)(W:World)(sv:Value)(subs:RegL):Prop:=
 ((∃a,sv = .slice a 0 0)/\subs = .nil)∨∃b' o' c',sv = .slice (some ⟨b',o',none⟩) subs.length c'/\subs.length<=c'/\subs.length<=100000/\ql n₀ W b' o' subs
theorem yT{W W':World}{b o:Nat}{r:qD}(h:RegAt W b o r)(hc:∀j v,W.cell? ⟨b,j,none⟩=some v->W'.cell? ⟨b,j,none⟩=some v):RegAt W' b o r:=
 ⟨hc _ _ h.1,hc _ _ h.2.1,hc _ _ h.2.2.1,hc _ _ h.2.2.2⟩
theorem ql.of{n₀:Nat}{W W':World}(hc:∀b j v,b<n₀->W.cell? ⟨b,j,none⟩=some v->W'.cell? ⟨b,j,none⟩=some v):∀ {L:RegL} {b o:Nat},ql n₀ W b o L->ql n₀ W' b o L
 | .nil,_,_,_=>trivial
 | .cons _ _ _ _ _ _,_,_,⟨hb,hr,hrest,hs⟩=>⟨hb,yT hr (fun j v=>hc _ j v hb),ql.of hc hrest,hs.elim .inl (fun⟨b',o',c',e,h1,h2,h3⟩=>.inr ⟨b',o',c',e,h1,h2,ql.of hc h3⟩)⟩
theorem qu.of{n₀:Nat}{W W':World}(hc:∀b j v,b<n₀->W.cell? ⟨b,j,none⟩=some v->W'.cell? ⟨b,j,none⟩=some v){sv:Value}{L:RegL}(h:qu n₀ W sv L):qu n₀ W' sv L:=
 h.elim .inl (fun⟨b',o',c',e,h1,h2,h3⟩=>.inr ⟨b',o',c',e,h1,h2,ql.of hc h3⟩)
structure jg(Ts:List Nat)(n₀:Nat)(W:World):Prop where
 ok:qB Ts W
 le:n₀<=W.heap.size
 free:∀b,b<n₀->¬ Owned Ts W b
theorem jg.below{Ts:List Nat}{n₀:Nat}{A B:World}(h:jg Ts n₀ A)(hb:Below A.heap.size A B):jg Ts n₀ B:=
 ⟨h.ok.below hb,Nat.le_trans h.le hb.size,fun b hlt ho=>h.free b hlt ((qI h.ok hb b).1 ho)⟩
theorem jg.keeps{Ts:List Nat}{n₀:Nat}{A B:World}(h:jg Ts n₀ A)(hk:Keeps Ts A B):jg Ts n₀ B:=
 ⟨hk.ok h.ok,Nat.le_trans h.le hk.size,fun b hlt=>hk.own h.ok b (Nat.lt_of_lt_of_le hlt h.le) (h.free b hlt)⟩
theorem jg.cells{Ts:List Nat}{n₀:Nat}{A B:World}(h:jg Ts n₀ A)(hk:Keeps Ts A B):∀b j v,b<n₀->A.cell? ⟨b,j,none⟩=some v->B.cell? ⟨b,j,none⟩=some v:=
 fun b _ _ hlt hc=>hk.cell h.ok hc (h.free b hlt)
theorem qE{n₀:Nat}{A B:World}(hb:Below A.heap.size A B):∀b j v,b<n₀->A.cell? ⟨b,j,none⟩=some v->B.cell? ⟨b,j,none⟩=some v:=fun _ _ _ _ hc=>cell_below hb hc
theorem KJ{m m':Nat}{P:Program}{l:Nat}{f:FuncId}{tmps:Array Value}{assign body:Code}{w:World}{R:Ending->World->Prop}(h:RoundIn Fence.wide m P l f tmps assign body w R):RoundIn Fence.wide m' P l f tmps assign body w R:=
 ⟨h.1,fun c cs _=>h.2 c cs (room_wide _)⟩
theorem ze{m m':Nat}{P:Program}{l:Nat}{args:Array Value}{W:World}{R:Ending->World->Prop}(h:YieldAt Fence.wide m P l args W R):YieldAt Fence.wide m' P l args W R:=by
 obtain⟨fn,tmps,assign,body,hy,hR⟩:=h
 exact⟨fn,tmps,assign,body,hy,KJ hR⟩
def RegL.height:RegL->Nat
 | .nil=>0
 | .cons _ _ _ _ subs rest=>max (1+subs.height) rest.height
def RegL.small:RegL->Prop
 | .nil=>True
 | .cons _ wd at_ _ subs rest=>(0<=at_/\at_<=64/\1<=wd/\wd<=64)/\subs.small/\rest.small
structure DownInv(Ts:List Nat)(n₀:Nat)(J:List Spot->World->Prop)(pre1 S:List Spot)(N:Nat)(hgt:Nat)(deep root pAt pW:Int)(sv:Value)(b' o' n:Nat)(Bs Bp:Nat)(cs cp:Array Value)(W:World)(k:Nat)(rest:RegL)(D:List Spot)(wr:World):Prop where
 len:k+rest.length=n
 small:rest.small
 total:rest.total<=N
 height:rest.height<=hgt
 holds:ql n₀ wr b' (o'+k*4) rest
 said:D++spotsIn deep root pAt pW sv k rest=S
 j:J (pre1++D) wr
 s:Cells wr Bs 185 cs
 p:Cells wr Bp 94 cp
 free:jg Ts n₀ wr
 so:¬ Owned Ts wr Bs
 po:¬ Owned Ts wr Bp
 keeps:Keeps Ts W wr
def qcG(Ts:List Nat)(n₀:Nat)(J:List Spot->World->Prop)(pre1 S:List Spot)(N hgt:Nat)(deep root pAt pW:Int)(sv:Value)(b' o' n:Nat)(Bs Bp:Nat)(cs cp:Array Value)(W:World)(k:Nat)(wr:World):Prop:=
 ∃rest D,DownInv Ts n₀ J pre1 S N hgt deep root pAt pW sv b' o' n Bs Bp cs cp W k rest D wr
theorem Keeps.cells{Ts:List Nat}{A B:World}(h:Keeps Ts A B)(ok:qB Ts A){b:Nat}{t:TypeId}{cs:Array Value}(hc:Cells A b t cs)(ho:¬ Owned Ts A b):Cells B b t cs:=h.keep ok b _ hc rfl ho
theorem qbq(Ts:List Nat)(n₀ l:Nat)(J:List Spot->World->Prop)(E:List Spot)
 (hst:∀pre A B,J pre A->Below A.heap.size A B->J pre B)
 (hY:∀pre x A,J pre A->pre++[x] <+: E->YieldAt Fence.wide 0 Tryz.prog l #[x.val] A fun e B=>e = .returned (.bool true)/\J (pre++[x]) B/\Keeps Ts A B) :
 ∀ (N:Nat) (nm:ByteArray) (wd at_:Int) (sv:Value) (deep root aAt aW:Int) (av:Value) (subs:RegL) (pre:List Spot) (W:World),subs.total<N->qu n₀ W sv subs->subs.small->jg Ts n₀ W->J pre W ->
  0<=aAt->0<=at_->aAt+at_+64*(subs.height:Int)<=500->0<=deep->deep+subs.height<=500 ->
  pre++(⟨nm,wd,at_,sv,deep,root,aAt,aW,av⟩::spotsIn (deep+1) root (aAt+at_) wd sv 0 subs) <+: E ->
  Calls Tryz.prog 186 #[.agg #[.string nm,.int .i64 wd,.int .i64 at_,sv,.int .i64 deep,.int .i64 root,.int .i64 aAt,.int .i64 aW,av],.func (.yield l) #[] #[]] W fun e B=>
   e = .returned (.bool true)/\J (pre++(⟨nm,wd,at_,sv,deep,root,aAt,aW,av⟩::spotsIn (deep+1) root (aAt+at_) wd sv 0 subs)) B/\Keeps Ts W B:=by
 intro N
 induction N with
 | zero=>intro nm wd at_ sv deep root aAt aW av subs pre W h;exact absurd h (Nat.not_lt_zero _)
 |succ N ih=>
  intro nm wd at_ sv deep root aAt aW av subs pre W hN hsv hsm hfr hj h1 h2 h3 h4 h5 hE
  have ihH:=Lib.hid ih
  clear ih
  have hb0:Below W.heap.size W (W.alloc (.cells #[.string nm,.int .i64 wd,.int .i64 at_,sv,.int .i64 deep,.int .i64 root,.int .i64 aAt,.int .i64 aW,av] 185)):=qe
  have hs0:=Cells.new W 185 #[.string nm,.int .i64 wd,.int .i64 at_,sv,.int .i64 deep,.int .i64 root,.int .i64 aAt,.int .i64 aW,av]
  have hfr0:=hfr.below hb0
  have hso0:=qx hfr.ok hb0 (Nat.le_refl W.heap.size)
  have hY0:=YieldAt.mono (R':=fun e B=>e = .returned (.bool true)/\J (pre++[⟨nm,wd,at_,sv,deep,root,aAt,aW,av⟩]) B/\Keeps Ts W B/\Cells B W.heap.size 185 #[.string nm,.int .i64 wd,.int .i64 at_,sv,.int .i64 deep,.int .i64 root,.int .i64 aAt,.int .i64 aW,av]/\jg Ts n₀ B/\¬ Owned Ts B W.heap.size/\qu n₀ B sv subs)
   (ze (m':=0) (hY pre ⟨nm,wd,at_,sv,deep,root,aAt,aW,av⟩ _ (hst _ _ _ hj hb0) (by
     refine List.IsPrefix.trans ?_ hE
     exact⟨spotsIn (deep+1) root (aAt+at_) wd sv 0 subs,by simp⟩)))
   (fun e B ⟨he,hj1,hk⟩=>⟨he,hj1,(Keeps.of_below hb0).trans hk,hk.cells hfr0.ok hs0 hso0,hfr0.keeps hk,hk.own hfr0.ok _ (by simp) hso0,qu.of (hfr0.cells hk) (qu.of (qE hb0) hsv)⟩)
  obtain⟨fn,tmps,assign,body,hy,hR⟩:=hY0
  unfold Spot.val at hy
  dsimp only at hy
  have C1:=fun B=>yS root aAt aW wd at_ nm sv B h1 (by omega) h2 (by omega)
  have hst2:=Lib.hid hst
  have hY2:=Lib.hid hY
  clear hst hY hj hsv hfr
  refine(callsIn_wide (n:=1)).1 ?_
  refine callsIn_of_wp Tryz.func186 rfl trivial ?_ rfl
  simp only[Tryz.ntmps186,List.size_toArray,List.length_cons,List.length_nil,Nat.reduceAdd,Nat.reduceSub,Array.replicate_succ,Array.replicate_zero,List.push_toArray,List.append_toArray,List.nil_append,List.cons_append]
  gi_wp2_with (first
   |(refine hR.mono ?_;clear hR;rintro e W1 ⟨rfl,hj1,hk1,hs1,hfr1,hso1,hsv1⟩;have d0:=hs1.cell (j:=0) (v:=.string nm) rfl;have d1:=hs1.cell (j:=1) (v:=.int .i64 wd) rfl;have d2:=hs1.cell (j:=2) (v:=.int .i64 at_) rfl;have d3:=hs1.cell (j:=3) (v:=sv) rfl;have d5:=hs1.cell (j:=5) (v:=.int .i64 root) rfl;have d6:=hs1.cell (j:=6) (v:=.int .i64 aAt) rfl;have d7:=hs1.cell (j:=7) (v:=.int .i64 aW) rfl)
   |(refine⟨trivial,?_⟩;gi_at_call 191;refine(callsIn_wide.2 (C1 _)).mono ?_;clear C1;rintro e W2 ⟨rfl,hb2⟩;have g3:=fun o=>qf o (cell_below hb2 d3);clear d0 d1 d2 d3 d5 d6 d7;rcases hsv1 with⟨⟨a0,rfl⟩,rfl⟩|⟨b',o',c',rfl,hlc,hc200,hh1⟩))
  ·refine wpIn_loop_rounds 1 ?_
   rw[roundsIn_succ]
   gi_wp2_with fail
   go_ret
   have hB3:=hb2.alloc hb2.size (.cells #[.int .i64 root,.int .i64 (aAt+at_),.int .i64 wd] 94)
   exact⟨rfl,hst2.out _ _ _ hj1 hB3,hk1.trans (Keeps.of_below hB3)⟩
  ·have hB3:=hb2.alloc hb2.size (.cells #[.int .i64 root,.int .i64 (aAt+at_),.int .i64 wd] 94)
   have hp3:=Cells.new W2 94 #[.int .i64 root,.int .i64 (aAt+at_),.int .i64 wd]
   have hs3:=hs1.below hB3 hs1.lt
   have hfr3:=hfr1.below hB3
   have hso3:=fun h=>hso1 ((qI hfr1.ok hB3 _).1 h)
   have hpo3:=qx hfr1.ok hB3 hb2.size
   have hh3:=ql.of (n₀:=n₀) (qE hB3) hh1
   have hj3:=hst2.out _ _ _ hj1 hB3
   have hk3:=hk1.trans (Keeps.of_below hB3)
   clear g3 hb2 hs1 hfr1 hso1 hh1 hj1 hk1 hs0 hfr0 hso0 hy hb0 hB3
   generalize W2.alloc (.cells #[.int .i64 root,.int .i64 (aAt+at_),.int .i64 wd] 94)=W3 at hp3 hs3 hfr3 hso3 hpo3 hh3 hj3 hk3 ⊢
   refine wpIn_wide.2 ?_
   go_loopw [21] (fun i wr=>∃k:Nat,i = .int .i64 k/\qcG Ts n₀ J (pre++[⟨nm,wd,at_,.slice (some ⟨b',o',none⟩) subs.length c',deep,root,aAt,aW,av⟩]) (spotsIn (deep+1) root (aAt+at_) wd (.slice (some ⟨b',o',none⟩) subs.length c') 0 subs) N subs.height (deep+1) root (aAt+at_) wd (.slice (some ⟨b',o',none⟩) subs.length c') b' o' subs.length W.heap.size W2.heap.size #[.string nm,.int .i64 wd,.int .i64 at_,.slice (some ⟨b',o',none⟩) subs.length c',.int .i64 deep,.int .i64 root,.int .i64 aAt,.int .i64 aW,av] #[.int .i64 root,.int .i64 (aAt+at_),.int .i64 wd] W k wr) (fun i _=>subs.length-(intOf i).toNat)
   case atStart=>
    exact⟨0,rfl,subs,[],⟨by simp,hsm,by omega,Nat.le_refl _,by simpa using hh3,by simp,by simpa using hj3,hs3,hp3,hfr3,hso3,hpo3,hk3⟩⟩
   case round=>
    obtain⟨k,rfl,rest,D,inv⟩:=hrel
    clear hp3 hs3 hfr3 hso3 hpo3 hh3 hj3 hk3
    cases rest with
    |nil=>
     have hlen:=inv.len
     have hsaid:=inv.said
     simp only[spotsIn,List.append_nil] at hsaid
     have hkl:¬ k<subs.length:=by simp only[RegL.length] at hlen;omega
     have hA:=Lib.hid (And.intro inv.j inv.keeps)
     have hS:=Lib.hid hsaid
     clear inv hlen hsaid
     go_wp2_with fail
     gi_wp2_with fail
     go_ret
     refine⟨rfl,?_,hA.out.2⟩
     have:=hA.out.1
     rw[hS.out] at this
     simpa using this
    |cons nm2 wd2 at2 sv2 subs2 rest2=>
     have hlen:=inv.len
     simp only[RegL.length] at hlen
     have hkl:k<subs.length:=by omega
     obtain⟨hbn,⟨e0,e1,e2,e3⟩,hrest2,hsl2⟩:=inv.holds
     obtain⟨qa,qn,qc,rfl⟩:∃a n c,sv2 = .slice a n c:=by
      rcases hsl2 with⟨⟨_,h⟩,_⟩|⟨b2,o2,c2,h,_⟩
      ·exact⟨_,_,_,h⟩
      ·exact⟨_,_,_,h⟩
     obtain⟨⟨s1,s2,s3,s4⟩,hsm2,hsmr⟩:=inv.small
     have htot:=inv.total
     have hht:=inv.height
     simp only[RegL.total] at htot
     simp only[RegL.height] at hht
     have hsaid:=inv.said
     simp only[spotsIn,headOf] at hsaid
     have hbr:Below wr.heap.size wr (wr.alloc (.cells #[.string nm2,.int .i64 wd2,.int .i64 at2,(.slice qa qn qc)] 68)):=qe
     have hreg:=Cells.new wr 68 #[.string nm2,.int .i64 wd2,.int .i64 at2,(.slice qa qn qc)]
     have C:∀V,Below (wr.alloc (.cells #[.string nm2,.int .i64 wd2,.int .i64 at2,(.slice qa qn qc)] 68)).heap.size (wr.alloc (.cells #[.string nm2,.int .i64 wd2,.int .i64 at2,(.slice qa qn qc)] 68)) V ->
      Calls Tryz.prog 186 #[.agg #[.string nm2,.int .i64 wd2,.int .i64 at2,(.slice qa qn qc),.int .i64 (deep+1),.int .i64 root,.int .i64 (aAt+at_),.int .i64 wd,.slice (some ⟨b',o',none⟩) k c'],.func (.yield l) #[] #[]] V fun e B=>
       e = .returned (.bool true)/\qcG Ts n₀ J (pre++[⟨nm,wd,at_,.slice (some ⟨b',o',none⟩) subs.length c',deep,root,aAt,aW,av⟩]) (spotsIn (deep+1) root (aAt+at_) wd (.slice (some ⟨b',o',none⟩) subs.length c') 0 subs) N subs.height (deep+1) root (aAt+at_) wd (.slice (some ⟨b',o',none⟩) subs.length c') b' o' subs.length W.heap.size W2.heap.size #[.string nm,.int .i64 wd,.int .i64 at_,.slice (some ⟨b',o',none⟩) subs.length c',.int .i64 deep,.int .i64 root,.int .i64 aAt,.int .i64 aW,av] #[.int .i64 root,.int .i64 (aAt+at_),.int .i64 wd] W (k+1) B /\
        (B.cell? ⟨wr.heap.size,0,none⟩=some (.string nm2)/\B.cell? ⟨wr.heap.size,1,none⟩=some (.int .i64 wd2)/\B.cell? ⟨wr.heap.size,2,none⟩=some (.int .i64 at2)/\B.cell? ⟨wr.heap.size,3,none⟩=some (.slice qa qn qc)/\B.cell? ⟨W.heap.size,3,none⟩=some (.slice (some ⟨b',o',none⟩) subs.length c')/\B.cell? ⟨W.heap.size,4,none⟩=some (.int .i64 deep)/\B.cell? ⟨W2.heap.size,0,none⟩=some (.int .i64 root)/\B.cell? ⟨W2.heap.size,1,none⟩=some (.int .i64 (aAt+at_))/\B.cell? ⟨W2.heap.size,2,none⟩=some (.int .i64 wd)):=fun V hV=>by
      have hbV:=hbr.trans (hV.mono hbr.size)
      have hfrV:=inv.free.below hbV
      have hregV:=hreg.below hV hreg.lt
      refine(ihH.out nm2 wd2 at2 (.slice qa qn qc) (deep+1) root (aAt+at_) wd (.slice (some ⟨b',o',none⟩) k c') subs2 (pre++[⟨nm,wd,at_,.slice (some ⟨b',o',none⟩) subs.length c',deep,root,aAt,aW,av⟩]++D) V (by omega) (qu.of (qE hbV) hsl2) hsm2 hfrV (hst2.out _ _ _ inv.j hbV) (by omega) (by omega) (by omega) (by omega) (by omega) ?_).mono fun e B ⟨he,hjB,hkB⟩=>?_
      ·refine List.IsPrefix.trans ?_ hE
       refine⟨spotsIn (deep+1) root (aAt+at_) wd (.slice (some ⟨b',o',none⟩) subs.length c') (k+1) rest2,?_⟩
       rw[←hsaid];simp
      ·have hkV:=(Keeps.of_below (Ts:=Ts) hbV).trans hkB
       have hsB:=hkV.cells inv.free.ok inv.s inv.so
       have hpB:=hkV.cells inv.free.ok inv.p inv.po
       have hrB:=hkB.cells hfrV.ok hregV (qx inv.free.ok hbV (Nat.le_refl _))
       refine⟨he,⟨rest2,D++(⟨nm2,wd2,at2,.slice qa qn qc,deep+1,root,aAt+at_,wd,.slice (some ⟨b',o',none⟩) k c'⟩::spotsIn (deep+1+1) root (aAt+at_+at2) wd2 (.slice qa qn qc) 0 subs2),
        ⟨by omega,hsmr,by omega,by omega,?_,?_,?_,hsB,hpB,inv.free.keeps hkV,hkV.own inv.free.ok _ inv.s.lt inv.so,hkV.own inv.free.ok _ inv.p.lt inv.po,inv.keeps.trans hkV⟩⟩,hrB.cell rfl,hrB.cell rfl,hrB.cell rfl,hrB.cell rfl,hsB.cell rfl,hsB.cell rfl,hpB.cell rfl,hpB.cell rfl,hpB.cell rfl⟩
       ·have:=ql.of (n₀:=n₀) (inv.free.cells hkV) hrest2
        rw[show o'+(k+1)*4=o'+k*4+4 by omega];exact this
       ·rw[←hsaid];simp
       ·simpa using hjB
     have a3:=inv.s.cell (j:=3) (v:=.slice (some ⟨b',o',none⟩) subs.length c') rfl
     have a4:=inv.s.cell (j:=4) (v:=.int .i64 deep) rfl
     have p0:=inv.p.cell (j:=0) (v:=.int .i64 root) rfl
     have p1:=inv.p.cell (j:=1) (v:=.int .i64 (aAt+at_)) rfl
     have p2:=inv.p.cell (j:=2) (v:=.int .i64 wd) rfl
     have n1:=World.new_ne wr _ a3
     have n2:=World.new_ne wr _ p0
     have k0:(0:Int)<=(k:Int):=Int.natCast_nonneg _
     have k1:(k:Int)<=(c':Int):=by omega
     have k2:(k:Int)<(subs.length:Int):=by omega
     have hV0:(wr.alloc (.cells #[.string nm2,.int .i64 wd2,.int .i64 at2,(.slice qa qn qc)] 68)).cell? ⟨wr.heap.size,0,none⟩=some (.string nm2)/\(wr.alloc (.cells #[.string nm2,.int .i64 wd2,.int .i64 at2,(.slice qa qn qc)] 68)).cell? ⟨wr.heap.size,1,none⟩=some (.int .i64 wd2)/\(wr.alloc (.cells #[.string nm2,.int .i64 wd2,.int .i64 at2,(.slice qa qn qc)] 68)).cell? ⟨wr.heap.size,2,none⟩=some (.int .i64 at2)/\(wr.alloc (.cells #[.string nm2,.int .i64 wd2,.int .i64 at2,(.slice qa qn qc)] 68)).cell? ⟨wr.heap.size,3,none⟩=some (.slice qa qn qc)/\(wr.alloc (.cells #[.string nm2,.int .i64 wd2,.int .i64 at2,(.slice qa qn qc)] 68)).cell? ⟨W.heap.size,3,none⟩=some (.slice (some ⟨b',o',none⟩) subs.length c')/\(wr.alloc (.cells #[.string nm2,.int .i64 wd2,.int .i64 at2,(.slice qa qn qc)] 68)).cell? ⟨W.heap.size,4,none⟩=some (.int .i64 deep)/\(wr.alloc (.cells #[.string nm2,.int .i64 wd2,.int .i64 at2,(.slice qa qn qc)] 68)).cell? ⟨W2.heap.size,0,none⟩=some (.int .i64 root)/\(wr.alloc (.cells #[.string nm2,.int .i64 wd2,.int .i64 at2,(.slice qa qn qc)] 68)).cell? ⟨W2.heap.size,1,none⟩=some (.int .i64 (aAt+at_))/\(wr.alloc (.cells #[.string nm2,.int .i64 wd2,.int .i64 at2,(.slice qa qn qc)] 68)).cell? ⟨W2.heap.size,2,none⟩=some (.int .i64 wd):=⟨hreg.cell rfl,hreg.cell rfl,hreg.cell rfl,hreg.cell rfl,qf _ a3,qf _ a4,qf _ p0,qf _ p1,qf _ p2⟩
     have hwd:IntKind.i64.wrap (deep+1)=deep+1:=IntWalk.i64_in _ (by omega)
     clear inv hrest2 hsl2 hsm2 hsmr hreg hbr
     have hsaid:=Lib.hid hsaid
     have hlen:=Lib.hid hlen
     go_wp2
     clear a3 a4 p0 p1 p2 e0 e1 e2 e3 n1 n2
     generalize wr.alloc (.cells #[.string nm2,.int .i64 wd2,.int .i64 at2,(.slice qa qn qc)] 68)=V0 at C hV0 ⊢
     obtain⟨f0,f1,f2,f3,f4,f5,f6,f7,f8⟩:=hV0
     go_region_held3 (fun w'=>w'.cell? ⟨wr.heap.size,0,none⟩=some (.string nm2)/\w'.cell? ⟨wr.heap.size,1,none⟩=some (.int .i64 wd2)/\w'.cell? ⟨wr.heap.size,2,none⟩=some (.int .i64 at2)/\w'.cell? ⟨wr.heap.size,3,none⟩=some (.slice qa qn qc)/\w'.cell? ⟨W.heap.size,3,none⟩=some (.slice (some ⟨b',o',none⟩) subs.length c')/\w'.cell? ⟨W.heap.size,4,none⟩=some (.int .i64 deep)/\w'.cell? ⟨W2.heap.size,0,none⟩=some (.int .i64 root)/\w'.cell? ⟨W2.heap.size,1,none⟩=some (.int .i64 (aAt+at_))/\w'.cell? ⟨W2.heap.size,2,none⟩=some (.int .i64 wd))
      (go_keep)
      ((go_at_call 186;refine(C _ ((Below.refl _ _).drew)).mono ?_;clear C;rintro e B ⟨rfl,hD,hcs⟩))
     clear hwd
     go_wp2_with fail
     gi_wp2_with fail
     exact⟨⟨k+1,by go_num,hD⟩,by simp[intOf];omega⟩
end Go.Proofs.YtkoloennfejaaaaGreatDoor
namespace Go.Proofs.YtkoloennfejaaaaGreatDoor
open Go.RowKit Go.Shelf
attribute [local go_sem] Oper.semAt_some
def spotsOut(i:Nat):RegL->List Spot
 | .nil=>[]
 | .cons nm wd at_ sv subs rest=>(⟨nm,wd,at_,sv,1,i,0,wd,.slice none 0 0⟩::spotsIn (1+1) i (0+at_) wd sv 0 subs)++spotsOut (i+1) rest
theorem qcH(a:Option Addr)(n c:Nat)(w:World):Calls Tryz.prog 152 #[.slice a n c] w fun e w'=>e = .returned (.func (.func 185) #[] #[.pointer (some ⟨w.heap.size,0,none⟩)])/\w'=w.alloc (.cells #[.slice a n c] 22):=by
 go_enter Tryz.func152,Tryz.ntmps152
 go_wp2
 go_ret
 exact⟨rfl,rfl⟩
structure OutInv(Ts:List Nat)(n₀:Nat)(J:List Spot->World->Prop)(E:List Spot)(N:Nat)(b' o' n:Nat)(k:Nat)(rest:RegL)(D:List Spot)(wr:World):Prop where
 len:k+rest.length=n
 small:rest.small
 total:rest.total<=N
 height:rest.height<=7
 holds:ql n₀ wr b' (o'+k*4) rest
 said:D++spotsOut k rest=E
 j:J D wr
 free:jg Ts n₀ wr
def qeq(Ts:List Nat)(n₀:Nat)(J:List Spot->World->Prop)(E:List Spot)(N:Nat)(b' o' n:Nat)(k:Nat)(wr:World):Prop:=∃rest D,OutInv Ts n₀ J E N b' o' n k rest D wr
theorem qbr(m n₀ Bl b' o' c':Nat)(Ts:List Nat)(L:RegL)(w:World)(hBl:w.cell? ⟨Bl,0,none⟩=some (.slice (some ⟨b',o',none⟩) L.length c'))(hL:ql n₀ w b' o' L)(hsm:L.small)(hht:L.height<=7)(hlen:L.length<=300)(hfr:jg Ts n₀ w) :
 qcF m Tryz.prog 185 #[.pointer (some ⟨Bl,0,none⟩)] (fun x:Spot=>#[x.val]) Ts (fun pre x=>pre++[x] <+: spotsOut 0 L) (spotsOut 0 L) w:=by
 intro l J W hW hst hY h0
 have hcl:=(hW.cell (p:=⟨Bl,0,none⟩) (World.block_lt_of_cell? _ _ hBl)).trans hBl
 have hfrW:=hfr.below hW
 have hLW:=ql.of (n₀:=n₀) (qE hW) hL
 have hdown:=Lib.hid (qbq Ts n₀ l J (spotsOut 0 L) hst (fun pre x A hj hp=>ze (hY pre x A hj hp)) (L.total+1))
 have hst2:=Lib.hid hst
 clear hY hst hW hBl hfr hL
 refine callsIn_of_wp Tryz.func185 rfl trivial ?_ rfl
 simp only[Tryz.ntmps185,List.size_toArray,List.length_cons,List.length_nil,Nat.reduceAdd,Nat.reduceSub,Array.replicate_succ,Array.replicate_zero,List.push_toArray,List.append_toArray,List.nil_append,List.cons_append]
 gi_wp2
 refine wpIn_wide.2 ?_
 go_loopw [8] (fun i wr=>∃k:Nat,i = .int .i64 k/\qeq Ts n₀ J (spotsOut 0 L) L.total b' o' L.length k wr) (fun i _=>L.length-(intOf i).toNat)
 case atStart=>exact⟨0,rfl,L,[],⟨by simp,hsm,Nat.le_refl _,hht,by simpa using hLW,by simp,h0,hfrW⟩⟩
 case round=>
  obtain⟨k,rfl,rest,D,inv⟩:=hrel
  clear hLW hfrW h0 hcl
  cases rest with
  |nil=>
   have hl2:=inv.len
   have hsaid:=inv.said
   simp only[spotsOut,List.append_nil] at hsaid
   have hkl:¬ k<L.length:=by simp only[RegL.length] at hl2;omega
   have hA:=Lib.hid inv.j
   have hS:=Lib.hid hsaid
   clear inv hl2 hsaid
   go_wp2_with fail
   gi_wp2_with fail
   go_end0
   exact⟨⟨_,rfl⟩,by rw[←hS.out];exact hA.out⟩
  |cons nm2 wd2 at2 sv2 subs2 rest2=>
   have hl2:=inv.len
   simp only[RegL.length] at hl2
   have hkl:k<L.length:=by omega
   obtain⟨hbn,⟨e0,e1,e2,e3⟩,hrest2,hsl2⟩:=inv.holds
   obtain⟨qa,qn,qc,rfl⟩:∃a n c,sv2 = .slice a n c:=by
    rcases hsl2 with⟨⟨_,h⟩,_⟩|⟨b2,o2,c2,h,_⟩
    ·exact⟨_,_,_,h⟩
    ·exact⟨_,_,_,h⟩
   obtain⟨⟨s1,s2,s3,s4⟩,hsm2,hsmr⟩:=inv.small
   have htot:=inv.total
   have hht2:=inv.height
   simp only[RegL.total] at htot
   simp only[RegL.height] at hht2
   have hsaid:=inv.said
   simp only[spotsOut] at hsaid
   have C:∀V,Below wr.heap.size wr V->Calls Tryz.prog 186 #[.agg #[.string nm2,.int .i64 wd2,.int .i64 at2,.slice qa qn qc,.int .i64 1,.int .i64 k,.int .i64 0,.int .i64 wd2,.slice none 0 0],.func (.yield l) #[] #[]] V fun e B=>
    e = .returned (.bool true)/\qeq Ts n₀ J (spotsOut 0 L) L.total b' o' L.length (k+1) B:=fun V hV=>by
    have hfrV:=inv.free.below hV
    refine(hdown.out nm2 wd2 at2 (.slice qa qn qc) 1 k 0 wd2 (.slice none 0 0) subs2 D V (by omega) (qu.of (qE hV) hsl2) hsm2 hfrV (hst2.out _ _ _ inv.j hV) (by omega) (by omega) (by omega) (by omega) (by omega) ?_).mono fun e B ⟨he,hjB,hkB⟩=>?_
    ·refine⟨spotsOut (k+1) rest2,?_⟩
     rw[←hsaid];simp
    ·have hkV:=(Keeps.of_below (Ts:=Ts) hV).trans hkB
     refine⟨he,rest2,D++(⟨nm2,wd2,at2,.slice qa qn qc,1,k,0,wd2,.slice none 0 0⟩::spotsIn (1+1) k (0+at2) wd2 (.slice qa qn qc) 0 subs2),⟨by omega,hsmr,by omega,by omega,?_,?_,hjB,inv.free.keeps hkV⟩⟩
     ·have:=ql.of (n₀:=n₀) (inv.free.cells hkV) hrest2
      rw[show o'+(k+1)*4=o'+k*4+4 by omega];exact this
     ·rw[←hsaid];simp
   have k0:(0:Int)<=(k:Int):=Int.natCast_nonneg _
   have k2:(k:Int)<(L.length:Int):=by omega
   clear inv hrest2 hsl2 hsm2 hsmr
   have hsaid:=Lib.hid hsaid
   have hl2:=Lib.hid hl2
   go_wp2_with (go_at_call 186;refine(C _ (qe.alloc (by simp) _)).mono ?_;clear C;rintro e B ⟨rfl,hD⟩)
   gi_wp2_with fail
   exact⟨⟨k+1,by go_num,hD⟩,by simp[intOf];omega⟩
end Go.Proofs.YtkoloennfejaaaaGreatDoor
