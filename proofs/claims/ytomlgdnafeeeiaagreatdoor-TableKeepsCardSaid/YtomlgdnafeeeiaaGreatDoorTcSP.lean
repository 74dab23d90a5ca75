
import Derived.Test.YtomlgdnafeeeiaaGreatDoorTcM
import Derived.Shelf.Spec.TrailingZeros
import Derived.Stop.RegionWithIn
set_option maxHeartbeats 4000000
set_option maxRecDepth 100000
/-
 Ranges whose body goes on;bits of a word;bitset's each and Len.
-/
namespace Go.Proofs.YtomlgdnafeeeiaaGreatDoor
open Proofs.Tryz
open Go.RowKit
def qjG{α:Type}(ts:List TypeId)(n:Nat)(P:Program)(gf:Nat)(lb:Array Value)(encs:α->Array Value)(E:List α)(w0:World):Prop:=
 ∀ (l:Nat) (J:List α->World->Prop) (W:World),BX w0 W ->
  (∀pre x A,J pre A->pre++[x] <+: E->YieldAt Fence.wide (n-1) P l (encs x) A fun e B=>e = .returned (.bool true)/\J (pre++[x]) B/\qt ts A B) ->
  J [] W->CallsIn Fence.wide n P gf (#[.func (.yield l) #[] #[]]++lb) W fun e B=>(∃v,e = .returned v)/\J E B
def qkK{α:Type}(ts:List TypeId)(I:List α->World->Prop)(xs:List α)(W:World):Exit->Act->World->Prop
 | .normal,_,W'=>KeepsOthers W W'/\qt ts W W'/\I xs W'
 | _,_,_=>False
theorem qt.put{ts:List TypeId}{A:World}{l:Nat}{o o':Obj}(h:A.heap[l]?=some o)(hc:o.isCells=false):qt ts A (A.putObj l o'):=
 ⟨by simp,fun b t cs _ hb=>(kP (by
  rintro rfl
  rw[show A.heap[_]?=_ from hb] at h
  cases h
  cases hc)).trans hb⟩
theorem YX{α:Type}{ts:List TypeId}{n:Nat}{P:Program}{g:Operand}{ps:Array Tmp}{assign body:Code}{Q:Exit->Act->World->Prop}{a:Act}{w:World}{gf:Nat}{lb:Array Value}
 (h1:1<=n) (hg:a.eval g = .func (.func gf) #[] lb) (eg:∀args w,(callFunc gf args).run P w = .ok (.enter gf args) w)
 {encs:α->Array Value} {E:List α} (hit:qjG ts (n-1) P gf lb encs E w) (hps:∀x,(encs x).size=ps.size)
 (I:List α->World->Prop) (hIp:∀pre A l o o',w.heap.size<=l->A.heap[l]?=some o->o.isCells=false->I pre A->I pre (A.putObj l o')) (hIb:∀A,BX w A->I [] A) (Ax:α->Act->Prop)
 (hassign:∀ (l:Nat) (pre:List α) (x:α) (W:World) (K:Act->World->Prop),I pre W->(∀a',Ax x a'->K a' W) ->
   assign.wpIn (Fence.wide.inRound l) (n-1-1) P (Exit.then K (fun _ _ _=>False)) { tmps:=(ps.zip (encs x)).foldl (fun t (p,v)=>t.setIfInBounds p v) a.tmps,defers:=[] } W)
 (hbody:∀ (l:Nat) (pre:List α) (x:α) (a':Act) (W:World),I pre W->pre++[x] <+: E->Ax x a'->body.wpIn (Fence.wide.inRound l) (n-1-1) P (qkK ts I (pre++[x]) W) a' W)
 (hdone:∀ (D:Nat) (W:World),w.heap.size<=D->I E W->W.heap[D]?=some (.deferred (some []))->Q .normal { a with defers:={ target:=.collected D,args:=#[] } :: a.defers } W) :
 (Code.rangeFunc g ps assign body).wpIn Fence.wide n P Q a w:=by
 refine wpIn_rangeFunc ?_
 intro fn hfn
 obtain⟨rc,hrc⟩:∃rc:LoopState->Loop,rc=fun st=>{ state:=st,pending:=none,fn,tmps:=a.tmps,params:=ps,assign,body,defers:=w.heap.size }:=⟨_,rfl⟩
 obtain⟨S,hS⟩:∃S,S=(w.alloc (.deferred (some []))).alloc (.loop (rc .ready)):=⟨_,rfl⟩
 have hSz:S.heap.size=w.heap.size+2:=by rw[hS];simp
 have hSb:BX w S:=by rw[hS];exact((kB _ w).alloc (vL _) _).alloc (by simp) _
 have hSl:S.heap[w.heap.size+1]?=some (.loop (rc .ready)):=by
  have:=World.alloc_heap_new (w.alloc (.deferred (some []))) (.loop (rc .ready))
  rw[vZ] at this;rw[hS];exact this
 have hSd:S.heap[w.heap.size]?=some (.deferred (some [])):=by
  rw[hS];exact(Below.heap_alloc _ _ _ (by simp)).trans (World.alloc_heap_new w _)
 refine⟨w.heap.size+1,[{ target:=.collected w.heap.size,args:=#[] }],S,{ target:=.fn (.func gf) lb,args:=#[.func (.yield (w.heap.size+1)) #[] #[]] },S,gf,#[.func (.yield (w.heap.size+1)) #[] #[]]++lb,S,?_,?_,fun _ _=>trivial,?_,fun _=>h1,?_⟩
 ·rw[hS,hrc];exact run_enterLoop_outer _ _ _ _ _
 ·simp only[resolve,hg];simp[go_sem]
 ·simp[invoke,go_sem,eg]
 refine(hit (w.heap.size+1) (fun pre W=>I pre W/\W.heap[w.heap.size+1]?=some (.loop (rc .ready))/\W.heap[w.heap.size]?=some (.deferred (some []))) S hSb ?_ ?_).mono ?_
 ·rintro pre x A ⟨hi,hl,hd⟩ hE
  have hy:=run_yield (P:=P) (args:=encs x) hl (by rw[hrc];exact hps x)
  rw[hrc] at hy
  refine⟨fn,_,assign,body,hy,roundIn_of_wpIn hfn (hassign (w.heap.size+1) pre x A _ hi ?_)⟩
  intro a' hax
  refine⟨_,run_beginRound hl (by rw[hrc]),?_⟩
  have hl1:(A.putObj (w.heap.size+1) (.loop { rc .ready with state:=.busy })).heap[w.heap.size+1]?=some (.loop { rc .ready with state:=.busy }):=World.putObj_heap_same (qD hl)
  have hd1:(A.putObj (w.heap.size+1) (.loop { rc .ready with state:=.busy })).heap[w.heap.size]?=some (.deferred (some [])):=(kP (by omega)).trans hd
  have hk1:qt ts A (A.putObj (w.heap.size+1) (.loop { rc .ready with state:=.busy })):=qt.put hl rfl
  refine wpIn_mono (hbody (w.heap.size+1) pre x a' _ (hIp pre A _ _ _ (by omega) hl rfl hi) hE hax) ?_
  intro e a2 W2 hp
  cases e with
  |normal=>
   obtain⟨ho2,hk2,hi2⟩:=hp
   have hl2:=ho2.same _ _ hl1 rfl
   have hd2:=ho2.same _ _ hd1 rfl
   have he:=run_endRound (P:=P) none hl2
   refine⟨_,_,he,rfl,⟨hIp _ _ _ _ _ (by omega) hl2 rfl hi2,?_,(kP (by omega)).trans hd2⟩,(hk1.trans hk2).trans (qt.put hl2 rfl)⟩
   rw[World.putObj_heap_same (qD hl2),hrc];rfl
  | ret=>exact hp.elim
  | exit id=>exact hp.elim
  | goto t=>exact hp.elim
  | panic ch=>exact hp.elim
  | outgrown=>exact hp.elim
 ·exact⟨hIb S hSb,hSl,hSd⟩
 ·rintro e W ⟨⟨v,rfl⟩,hi,hl,hd⟩
  have he:=run_endLoop (P:=P) hl (by rw[hrc];simp)
  have hp:(rc .ready).pending=none:=by rw[hrc]
  rw[hp] at he
  exact⟨none,_,he,hdone w.heap.size _ (vL _) (hIp E W _ _ _ (by omega) hl rfl hi) ((kP (by omega)).trans hd)⟩
def xW(ws:List Nat)(k:Nat):List (Nat×Nat):=((List.range k).filter fun i=>ws.getD i 0 != 0).map fun i=>(i*64,ws.getD i 0)
def XQ(x:Nat×Nat):Array Value:=#[.int .i64 x.1,.int .u64 x.2]
theorem YF(ws:List Nat)(k:Nat)(h:ws.getD k 0=0):xW ws (k+1)=xW ws k:=by
 rw[vG] at h
 unfold xW
 rw[List.range_succ,List.filter_append,kM]
 simp[h]
theorem JA(ws:List Nat)(k:Nat)(h:ws.getD k 0≠0):xW ws (k+1)=xW ws k++[(k*64,ws.getD k 0)]:=by
 rw[vG] at h
 unfold xW
 rw[List.range_succ,List.filter_append,kM]
 simp[h]
theorem qbI(ws:List Nat){k n:Nat}(h:k<=n):xW ws k <+: xW ws n:=by
 induction n with
 |zero=>
  have:k=0:=by omega
  subst this
  exact List.prefix_rfl
 |succ n ih=>
  by_cases hk:k=n+1
  ·subst hk;exact List.prefix_rfl
  ·refine(ih (by omega)).trans ?_
   by_cases h0:ws.getD n 0=0
   ·rw[YF ws n h0]
    exact List.prefix_rfl
   ·rw[JA ws n h0]
    exact List.prefix_append _ _
theorem qbb(ts:List TypeId)(n Bx:Nat)(s:SlV)(ws:List Nat)(w0:World)(hbx:w0.cell? ⟨Bx,0,none⟩=some (.slice s.a s.n s.c))(hs:zE w0 s ws)(hl:ws.length<=1024)(ht:137∉ts) :
 qjG ts n prog 141 #[.pointer (some ⟨Bx,0,none⟩)] XQ (xW ws ws.length) w0:=by
 intro l J W hW hY hJ
 have hbW:=qb hW hbx
 have hsW:=hs.below hW
 obtain⟨sa,sn,sc⟩:=s
 have hn:=hs.1
 dsimp only at hn hbW
 subst hn
 replace hY:=vH hY
 have hs0:=vH hsW
 clear hs hbx hsW
 refine callsIn_of_wp func141 rfl trivial ?_ rfl
 simp only[ntmps141,List.size_toArray,List.length_cons,List.length_nil,Nat.reduceAdd,Nat.reduceSub,Array.replicate_succ,Array.replicate_zero,List.push_toArray,List.append_toArray,List.nil_append,List.cons_append]
 gi_wp2
 gi_loopw [8] (fun i wr=>∃k:Nat,k<=ws.length/\i = .int .i64 k/\qt ts W wr/\J (xW ws k) wr) (fun i _=>ws.length-(intOf i).toNat)
 case atStart=>exact⟨0,vO _,rfl,qt.refl _ _,by simpa[xW] using hJ⟩
 case round=>
  clear hJ hbW
  obtain⟨k,hk,rfl,hst,hj⟩:=hrel
  have k0:(0:Int)<=k:=vN _
  by_cases hlt:k<ws.length
  ·obtain⟨x,hxk⟩:∃x,ws[k]?=some x:=⟨ws[k],vE hlt⟩
   have hg:ws.getD k 0=x:=by rw[vG,hxk];rfl
   obtain⟨hx64,b,o,e1,c0⟩:=(hst.words hs0.out ht).2.2.1 k x hxk
   dsimp only at e1
   subst e1
   have hi:IntKind.i64.wrap ((k:Int)+1)=k+1:=vI _ (by omega)
   have hm:IntKind.i64.wrap ((k:Int)*64)=(k:Int)*64:=vI _ (by omega)
   have k1:(k:Int)<ws.length:=by omega
   by_cases h0:x=0
   ·subst h0
    have hE:=vH (YF ws k hg)
    clear hxk hg
    gi_wp2_with fail
    refine⟨fun f h=>by(cases h),?_⟩
    gi_wp2_with fail
    refine⟨⟨k+1,by omega,by go_num,hst,by rw[hE.out];exact hj⟩,by simp[intOf];omega⟩
   ·have hE:=JA ws k (by rw[hg];exact h0)
    rw[hg] at hE
    have hpre:xW ws k++[(k*64,x)] <+: xW ws ws.length:=by rw[←hE];exact qbI ws (by omega)
    obtain⟨fn,tmps,assign,body,hy,hR⟩:=xN (m':=n-1) (hY.out (xW ws k) (k*64,x) wr hj hpre)
    have hx1:((x:Int) != 0)=true:=by simpa using h0
    have hx2:((x:Int)==0)=false:=by simpa using h0
    unfold XQ at hy
    dsimp only at hy
    rw[show((k*64:Nat):Int)=(k:Int)*64 by omega] at hy
    replace hE:=vH hE
    clear hxk hg hpre
    gi_wp2_with fail
    refine⟨fun h=>absurd h (by decide),hR.mono ?_⟩
    rintro e W1 ⟨rfl,hj1,hst1⟩
    gi_wp2_with fail
    refine⟨⟨k+1,by omega,by go_num,hst.trans hst1,by rw[hE.out];exact hj1⟩,by simp[intOf];omega⟩
  ·obtain rfl:k=ws.length:=by omega
   gi_wp2_with fail
   go_end0
   exact⟨⟨_,rfl⟩,hj⟩
def XE(x:Nat):List Nat:=(List.range 64).filter x.testBit
theorem qgb{p q:Nat->Bool}{c:Nat}(hc:p c=true)(hlow:∀i,i<c->p i=false)(hq:∀i,q i=(p i&&decide (i≠c))) :
 ∀n,(List.range n).filter p=if c<n then c::(List.range n).filter q else(List.range n).filter q:=by
 intro n
 induction n with
 | zero=>simp
 |succ n ih=>
  rw[List.range_succ,List.filter_append,List.filter_append,ih]
  by_cases h1:c<n
  ·have h2:q n=p n:=by rw[hq n];simp;omega
   have h5 : [n].filter p = [n].filter q:=by rw[List.filter_cons,List.filter_cons,h2,List.filter_nil,List.filter_nil]
   rw[if_pos h1,if_pos (by omega),h5]
   rfl
  ·rw[if_neg h1]
   by_cases h3:c=n
   ·subst h3
    have h2:q c=false:=by rw[hq c];simp
    have h4:(List.range c).filter q = []:=by
     rw[List.filter_eq_nil_iff]
     intro i hi
     have hi2:=List.mem_range.1 hi
     rw[hq i,hlow i hi2];simp
    rw[if_pos (by omega)]
    simp[h2,h4,hc]
   ·have h2:q n=p n:=by rw[hq n];simp;omega
    have h5 : [n].filter p = [n].filter q:=by rw[List.filter_cons,List.filter_cons,h2,List.filter_nil,List.filter_nil]
    rw[if_neg (by omega),h5]
theorem qkL(c m i:Nat):((2 ^ c*(2*m+1))&&&(2 ^ c*(2*m+1)-1)).testBit i=((2 ^ c*(2*m+1)).testBit i&&decide (i≠c)):=by
 have hp:0<2 ^ c:=Nat.two_pow_pos c
 have e:2 ^ c*(2*m+1)-1=2 ^ c*(2*m)+(2 ^ c-1):=by
  rw[Nat.mul_add];omega
 have e0:2 ^ c*(2*m+1)=2 ^ c*(2*m+1)+0:=rfl
 rw[Nat.testBit_and,e,Nat.testBit_two_pow_mul_add (2*m) (by omega:2 ^ c-1<2 ^ c)]
 rw[e0,Nat.testBit_two_pow_mul_add (2*m+1) hp]
 by_cases h:i<c
 ·simp[h]
 ·simp only[h,if_false]
  by_cases h2:i=c
  ·subst h2
   simp[Nat.testBit_zero]
  ·obtain⟨j,rfl⟩:∃j,i=c+(j+1):=⟨i-c-1,by omega⟩
   have e3:c+(j+1)-c=j+1:=by omega
   rw[e3,Nat.testBit_succ,Nat.testBit_succ]
   have d1:(2*m+1)/2=m:=by omega
   have d2:(2*m)/2=m:=by omega
   rw[d1,d2]
   simp
theorem qkM{c m i:Nat}(h:i<c):(2 ^ c*(2*m+1)).testBit i=false:=by
 have e0:2 ^ c*(2*m+1)=2 ^ c*(2*m+1)+0:=rfl
 rw[e0,Nat.testBit_two_pow_mul_add (2*m+1) (Nat.two_pow_pos c),if_pos h]
 simp
theorem qly(c m:Nat):(2 ^ c*(2*m+1)).testBit c=true:=by
 have e0:2 ^ c*(2*m+1)=2 ^ c*(2*m+1)+0:=rfl
 rw[e0,Nat.testBit_two_pow_mul_add (2*m+1) (Nat.two_pow_pos c),if_neg (by omega),Nat.sub_self]
 simp[Nat.testBit_zero]
theorem qgc{r:Nat}(h0:r≠0)(h:r<18446744073709551616):XE r=Lib.ctz 64 r::XE (r&&&(r-1))/\Lib.ctz 64 r<64/\r&&&(r-1)<r:=by
 obtain⟨m,hm,hk⟩:=Lib.ctzFrom_spec 64 r (by omega) h
 have e:Lib.ctz 64 r=Lib.ctzFrom 64 r:=by simp[Lib.ctz,h0]
 rw[e]
 generalize Lib.ctzFrom 64 r=c at hm hk
 refine⟨?_,hk,?_⟩
 ·unfold XE
  rw[hm,qgb (qly c m) (fun i hi=>qkM hi) (fun i=>qkL c m i) 64,if_pos hk]
 ·have:r&&&(r-1)<=r-1:=Nat.and_le_right
  omega
theorem qbc:XE 0 = []:=by decide
theorem qlz(a:Int):∃k:Nat,bits .and .i64 a 127=k/\k<=127:=by
 have h:(BitVec.ofInt 64 a&&&BitVec.ofInt 64 127).toNat<=127:=by
  rw[BitVec.toNat_and]
  exact vR Nat.and_le_right (by decide)
 refine⟨_,?_,h⟩
 show IntKind.i64.wrap ((BitVec.ofInt 64 a&&&BitVec.ofInt 64 127).toNat:Int)=_
 exact vI _ (by omega)
theorem qlA(x k idx:Nat)(w:World)(hx0:((x:Int)==0)=false)
 (key:IntKind.u64.wrap (bits BinOp.and IntKind.u64 (x:Int) (IntKind.u64.wrap (-(x:Int)))*285870213051353865)/288230376151711744=(idx:Int))
 (hi:idx<64) (hk:k<64) (hcell:w.cell? ⟨0,idx,none⟩=some (.int .u8 k)) :
 Calls prog 95 #[.int .u64 x] w fun e w'=>e = .returned (.int .i64 k)/\w=w':=by
 go_enter func95,ntmps95
 go_wp2_with (simp only[key])
 go_ret
 exact⟨rfl,rfl⟩
theorem qlO(x:Nat)(h0:x≠0)(h:x<18446744073709551616)(w:World)(hT:TabAt 0 Lib.deBruijn64tab w) :
 Calls prog 95 #[.int .u64 x] w fun e w'=>e = .returned (.int .i64 (Lib.ctz 64 x))/\w=w':=by
 obtain⟨hlow,hk⟩:=Lib.lowest_bit 64 x h0 h
 obtain⟨hi,htab⟩:=Lib.deBruijn64_at _ hk
 have hcell:=hT _ hi
 rw[htab] at hcell
 exact qlA x _ _ w (by simp;omega) (tz64_key x _ h h0 hlow) hi hk hcell
theorem qhW{e:Ending}(h:∃a:Int,e = .returned (.int .i64 (bits .and .i64 a 127))):∃k:Nat,e = .returned (.int .i64 k)/\k<=127:=by
 obtain⟨a,rfl⟩:=h
 obtain⟨k,e,h⟩:=qlz a
 exact⟨k,by rw[e],h⟩
theorem qkN(x:Nat)(w:World) :
 Calls prog 140 #[.int .u64 x] w fun e w'=>(∃k:Nat,e = .returned (.int .i64 k)/\k<=127)/\w=w':=by
 go_enter func140,ntmps140
 go_wp2
 go_ret
 exact⟨qhW ⟨_,rfl⟩,rfl⟩
section
theorem qjH(s:SlV)(w:World):Calls prog 94 #[.agg #[.slice s.a s.n s.c]] w fun e w'=>
 e = .returned (.func (.func 141) #[] #[.pointer (some ⟨w.heap.size,0,none⟩)])/\w'=w.alloc (.cells #[.slice s.a s.n s.c] 83):=by
 go_enter func94,ntmps94
 go_wp2
 go_ret
 exact⟨rfl,rfl⟩
theorem qt.drewT{ts:List TypeId}{A W:World}(h:qt ts A W):qt ts A W.drew:=⟨h.size,h.block⟩
theorem JB(ws:List Nat)(k:Nat):(xW ws k).length<=k:=by
 unfold xW
 rw[vP]
 exact vR (List.length_filter_le _ _) (by simp)
theorem qgd{ws:List Nat}{k:Nat}{x:Nat×Nat}(h:x∈xW ws k):∃i,i<k/\x=(i*64,ws.getD i 0)/\ws.getD i 0≠0:=by
 unfold xW at h
 obtain⟨i,hi,rfl⟩:=List.mem_map.1 h
 obtain⟨h1,h2⟩:=List.mem_filter.1 hi
 exact⟨i,List.mem_range.1 h1,rfl,by simpa using h2⟩
attribute [local go_sem] Oper.semAt_some
def qjI(s:SlV)(w:World)(x:Nat×Nat):Act:=
 { tmps:=#[.agg #[.slice s.a s.n s.c],.pointer (some ⟨w.heap.size,0,none⟩),.int .i64 0,.pointer (some ⟨w.heap.size+1,0,none⟩),undef,.int .u64 x.2,.agg #[.slice s.a s.n s.c],.func (.func 141) #[] #[.pointer (some ⟨w.heap.size+1+1,0,none⟩)],.int .i64 x.1,.int .u64 x.2,undef,undef,undef,undef,undef],defers:=[] }
theorem qlP(s:SlV)(ws:List Nat)(w:World)(h:zE w s ws)(hl:ws.length<=1024)(hty:137∉[3]) :
 Calls prog 93 #[.agg #[.slice s.a s.n s.c]] w fun e w'=>(∃k:Nat,e = .returned (.int .i64 k)/\k<=130048)/\BX w w':=by
 have hB0:BX w (((w.alloc (.cells #[.slice s.a s.n s.c] 83)).alloc (.cells #[.int .i64 0] 3)).alloc (.cells #[.slice s.a s.n s.c] 83)):=
  (qi.alloc (by simp) _).alloc (by simp;omega) _
 refine(callsIn_wide (n:=4)).1 ?_
 refine callsIn_of_wp_marks func93 rfl trivial ?_ rfl
 simp only[ntmps93,List.size_toArray,List.length_cons,List.length_nil,Nat.reduceAdd,Nat.reduceSub,Array.replicate_succ,Array.replicate_zero,List.push_toArray,List.append_toArray,List.nil_append,List.cons_append]
 gi_wp2_with (refine⟨trivial,?_⟩;gi_at_call 94;refine(callsIn_wide.2 (qjH s _)).mono ?_;rintro e w' ⟨rfl,rfl⟩)
 generalize hW:(((w.alloc (.cells #[.slice s.a s.n s.c] 83)).alloc (.cells #[.int .i64 0] 3)).alloc (.cells #[.slice s.a s.n s.c] 83))=W0 at hB0 ⊢
 have hz0:W0.heap.size=w.heap.size+3:=by rw[←hW];simp
 have hres:qd W0 (w.heap.size+1) 3 #[.int .i64 0]:=by
  rw[←hW]
  have:=(qd.new (w.alloc (.cells #[.slice s.a s.n s.c] 83)) 3 #[.int .i64 0]).alloc (.cells #[.slice s.a s.n s.c] 83)
  rw[vZ] at this;exact this
 have hsl:W0.cell? ⟨w.heap.size+1+1,0,none⟩=some (.slice s.a s.n s.c):=by
  rw[←hW]
  have:=zr ((w.alloc (.cells #[.slice s.a s.n s.c] 83)).alloc (.cells #[.int .i64 0] 3)) #[.slice s.a s.n s.c] 83 (j:=0) rfl
  rw[vZ,vZ] at this;exact this
 have hall:=qbb [3] 3 (w.heap.size+1+1) s ws W0 hsl (h.below hB0) hl hty
 clear hW h hsl
 refine YX (n:=4) (ps:=#[8,9]) (w:=W0) (gf:=141) (lb:=#[.pointer (some ⟨w.heap.size+1+1,0,none⟩)]) (encs:=XQ) (E:=xW ws ws.length) (by omega) rfl (enters_of func141 (by kernel_rfl) rfl) hall (fun _=>rfl)
  (fun pre W=>BX w W/\∃k:Nat,k<=127*pre.length/\qd W (w.heap.size+1) 3 #[.int .i64 k])
  (fun pre A l o o' hl h1 h2 ⟨hb,k,hk,hc⟩=>⟨Qr _ hb (by omega),k,hk,(kP (by omega)).trans hc⟩)
  (fun A hA=>⟨hB0.trans (hA.mono (by omega)),0,by simp,hres.below hA (by omega)⟩)
  (fun x a'=>a'=qjI s w x) ?assign ?body ?done
 case assign=>
  intro l pre x W K _ hK
  unfold XQ
  gi_wp2
  rfl
 case body=>
  rintro l pre x a' W ⟨hb,k,hk,hc⟩ hpre rfl
  have hpl:pre.length+1<=1024:=by
   have h1:=hpre.length_le
   have h2:=JB ws ws.length
   rw[kA] at h1
   simp at h1
   omega
  have c0:=hc.cell (j:=0) (v:=.int .i64 (k:Int)) rfl
  have f0:=hc.frozen 0
  unfold qjI
  gi_wp2
  gi_region_with (refine⟨trivial,?_⟩;gi_at_call 140;refine(CallsIn.inRound l (callsIn_wide.2 (qkN x.2 _))).mono ?_;rintro e W1 ⟨⟨k2,rfl,hk2⟩,rfl⟩)
  all_goals gi_wp2_with fail
  all_goals
   have hi:IntKind.i64.wrap ((k:Int)+k2)=((k+k2:Nat):Int):=by rw[vI _ (by omega)];omega
   rw[hi]
   exact⟨(KeepsOthers.setCell _ _ _).trans (KeepsOthers.drew _),qt.drewT (qt.of_set hc (by simp) 0 _),(hb.setCell (p:=⟨w.heap.size+1,0,none⟩) (by simp) _).drew,k+k2,by rw[kA];simp;omega,qd.drewT (hc.set (.int .i64 ((k+k2:Nat):Int)) (j:=0))⟩
 case done=>
  rintro D W hD ⟨hb,k,hk,hc⟩ hK
  have c0:=hc.cell (j:=0) (v:=.int .i64 (k:Int)) rfl
  have f0:=hc.frozen 0
  have h2:=JB ws ws.length
  gi_wp2
  refine⟨by simp,.inl ⟨_,_,rfl,run_takeDeferred hK,?_⟩⟩
  refine⟨.int .i64 k,?_,⟨k,rfl,by omega⟩,hb.trans (belowK_b (w:=w) (vL _) _ D _ _ (by omega) hK rfl rfl)⟩
  simp[results,f93,go_sem]
end
end Go.Proofs.YtomlgdnafeeeiaaGreatDoor
