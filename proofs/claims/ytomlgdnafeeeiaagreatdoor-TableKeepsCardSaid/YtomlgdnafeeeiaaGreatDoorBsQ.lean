
import Derived.Test.YtomlgdnafeeeiaaGreatDoorBsP
import Derived.StillTailTactics
set_option maxHeartbeats 1600000
set_option maxRecDepth 100000
/-
 bitset's And,Or,Sub,Of.
-/
namespace Go.Proofs.YtomlgdnafeeeiaaGreatDoor
open Proofs.Tryz
open Go.RowKit
def xj(p:Nat->Bool)(w:World)(e:Ending)(w':World):Prop:=
 BX w w'/\∃s:SlV,e = .returned (.agg #[.slice s.a s.n s.c])/\zh w' s p
theorem Xx{W:World}{s:SlV}{l:List Nat}{k:Nat}{p:Nat->Bool}(hl:l.length<=1024)(h1:k<=l.length)(h2:zE W s (l.take k))(h3:∀j,k<=j->l.getD j 0=0)(h4:XK (l.take k))(h5:∀n,jx l n=p n):zh W s p:=
 ⟨l.take k,h2,by simp;omega,h4,fun n=>by rw[qhG h3,h5]⟩
theorem qbF{W:World}{b:Nat}{t:TypeId}{cs:Array Value}(h:qd W b t cs)(p:Addr)(u:Value):∃cs',qd (W.setCell p u) b t cs':=by
 by_cases hb:b=p.block
 ·subst hb
  refine⟨if p.spot.isSome then cs else cs.setIfInBounds p.off u,?_⟩
  have h':W.heap[p.block]?=some (.cells cs t (0,0)):=h
  show(W.heap.modify p.block _)[p.block]?=_
  rw[Array.getElem?_modify,if_pos rfl,h']
  rfl
 ·exact⟨cs,(Below.heap_setCell W p u b hb).trans h⟩
theorem zE.set_other{W:World}{s:SlV}{ws:List Nat}(h:zE W s ws){p:Addr}{v:Value}(u:Value)(hp:W.cell? p=some v)(hv:∀x:Int,v ≠ .int .u64 x):zE (W.setCell p u) s ws:=
 ⟨h.1,h.2.1,fun j x hj=>by
  obtain⟨h0,b,o,h1,h2⟩:=h.2.2.1 j x hj
  refine⟨h0,b,o,h1,?_⟩
  rw[World.cell?_setCell_other _ _ _ _ (fun he=>?_),h2]
  subst he
  rw[hp] at h2
  exact hv _ (Option.some.inj h2),fun b o he=>by
  obtain⟨cs,hc⟩:=h.2.2.2 b o he
  exact qbF hc p u⟩
theorem zh.set_other{W:World}{s:SlV}{f:Nat->Bool}(h:zh W s f){p:Addr}{v:Value}(u:Value)(hp:W.cell? p=some v)(hv:∀x:Int,v ≠ .int .u64 x):zh (W.setCell p u) s f:=by
 obtain⟨ws,h1,h2,h3,h4⟩:=h
 exact⟨ws,h1.set_other u hp hv,h2,h3,h4⟩
theorem qO{fn:Func}{p:Tmp}{ty:TypeId}(h:fn.results=#[.cell p ty])(tmps:Array Value)(P:Program)(w:World) :
 (results fn tmps).run P w=((asAddr (tmps.getD p undef)).run P w).andThen fun a w₁=>(loadVar ty a).run P w₁:=by
 simp only[results,h]
 simp[Sem.run_bind,Result.andThen]
theorem Jy{W W1:World}{b:Nat}{t:TypeId}{v:Value}(hC:qd W b t #[v])(h0:BX W W1):W1.cell? ⟨b,0,none⟩=some v/\W1.frozen? ⟨b,0,none⟩=false:=by
 have:=hC.below h0 hC.lt
 exact⟨this.cell rfl,this.frozen 0⟩
theorem qjs(a b:List Nat)(n:Nat):jx (jW qbi a b) n=(jx a n&&jx b n):=by
 unfold jx
 rw[Jw (by rfl),qjq ]
theorem qlL(s t:SlV)(p q:Nat->Bool)(w:World)(hs:zh w s p)(ht:zh w t q) :
 Calls prog 135 #[.agg #[.slice s.a s.n s.c],.agg #[.slice t.a t.n t.c]] w (xj (fun n=>p n&&q n) w):=by
 obtain⟨a,ha,la,_,hp⟩:=hs
 obtain⟨b,hb,lb,_,hq⟩:=ht
 have hB:BX w (((w.alloc (.cells #[.slice s.a s.n s.c] 83)).alloc (.cells #[.slice t.a t.n t.c] 83)).alloc (.cells #[.slice none 0 0] 83)):=(qi.alloc (by simp) _).alloc (by simp;omega) _
 have hC:=qd.new ((w.alloc (.cells #[.slice s.a s.n s.c] 83)).alloc (.cells #[.slice t.a t.n t.c] 83)) 83 #[.slice none 0 0]
 have hz:((w.alloc (.cells #[.slice s.a s.n s.c] 83)).alloc (.cells #[.slice t.a t.n t.c] 83)).heap.size=w.heap.size+1+1:=by simp
 rw[hz] at hC
 have K:=qfT s t a b _ (ha.below hB) (hb.below hB) la lb
 have hmf:∀ (fn:Fn) (first cap:Array Value) (w:World),(Instr.makeFunc fn first cap).run prog w = .ok (.func fn first cap) w:=fun _ _ _ _=>rfl
 have hlen:=jS qbi a b
 have hbit:∀n,jx (jW qbi a b) n=(p n&&q n):=fun n=>by rw[qjs,hp,hq]
 generalize jW qbi a b=l at *
 replace hbit:=vH hbit
 have ll:l.length<=1024:=by omega
 clear ha hb la lb hp hq hlen
 go_enter func135,ntmps135
 go_wp2_with (go_at_call 136;refine K.mono ?_;clear K;rintro e W1 ⟨h0,⟨qa,qn,qc⟩,k,rfl,h1,h2,h3,h4⟩;obtain⟨q0,q1⟩:=Jy hC h0;have hfin:Hid (xj (fun n=>p n&&q n) w (.returned (.agg #[.slice qa qn qc])) (W1.setCell ⟨w.heap.size+1+1,0,none⟩ (.slice qa qn qc))):=vH ⟨(hB.trans (h0.mono hB.size)).setCell (p:=⟨w.heap.size+1+1,0,none⟩) (show w.heap.size<=w.heap.size+1+1 by omega) _,⟨qa,qn,qc⟩,rfl,(Xx ll h1 h2 h3 h4 hbit.out).set_other _ q0 (fun x hx=>by cases hx)⟩;have hld:=World.cell?_setCell_same' W1 ⟨w.heap.size+1+1,0,none⟩ (.slice qa qn qc) (by rw[q0];rfl);clear h0 h2 h3 h4 hB hC)
 (try simp only[Exit.inBlock,Exit.then])
 refine bodyPost_ret (v:=.agg #[.slice qa qn qc]) ?_ rfl hfin.out
 rw[qO rfl]
 clear q0
 go_simp
theorem qkF(a b:List Nat)(n:Nat):jx (jW orW a b) n=(jx a n||jx b n):=by
 unfold jx
 rw[Jw (by rfl),qkE]
theorem qlM(s t:SlV)(p q:Nat->Bool)(w:World)(hs:zh w s p)(ht:zh w t q) :
 Calls prog 88 #[.agg #[.slice s.a s.n s.c],.agg #[.slice t.a t.n t.c]] w (xj (fun n=>p n||q n) w):=by
 obtain⟨a,ha,la,_,hp⟩:=hs
 obtain⟨b,hb,lb,_,hq⟩:=ht
 have hB:BX w (((w.alloc (.cells #[.slice s.a s.n s.c] 83)).alloc (.cells #[.slice t.a t.n t.c] 83)).alloc (.cells #[.slice none 0 0] 83)):=(qi.alloc (by simp) _).alloc (by simp;omega) _
 have hC:=qd.new ((w.alloc (.cells #[.slice s.a s.n s.c] 83)).alloc (.cells #[.slice t.a t.n t.c] 83)) 83 #[.slice none 0 0]
 have hz:((w.alloc (.cells #[.slice s.a s.n s.c] 83)).alloc (.cells #[.slice t.a t.n t.c] 83)).heap.size=w.heap.size+1+1:=by simp
 rw[hz] at hC
 have K:=qhH s t a b _ (ha.below hB) (hb.below hB) la lb
 have hmf:∀ (fn:Fn) (first cap:Array Value) (w:World),(Instr.makeFunc fn first cap).run prog w = .ok (.func fn first cap) w:=fun _ _ _ _=>rfl
 have hlen:=jS orW a b
 have hbit:∀n,jx (jW orW a b) n=(p n||q n):=fun n=>by rw[qkF,hp,hq]
 generalize jW orW a b=l at *
 replace hbit:=vH hbit
 have ll:l.length<=1024:=by omega
 clear ha hb la lb hp hq hlen
 go_enter func88,ntmps88
 go_wp2_with (go_at_call 136;refine K.mono ?_;clear K;rintro e W1 ⟨h0,⟨qa,qn,qc⟩,k,rfl,h1,h2,h3,h4⟩;obtain⟨q0,q1⟩:=Jy hC h0;have hfin:Hid (xj (fun n=>p n||q n) w (.returned (.agg #[.slice qa qn qc])) (W1.setCell ⟨w.heap.size+1+1,0,none⟩ (.slice qa qn qc))):=vH ⟨(hB.trans (h0.mono hB.size)).setCell (p:=⟨w.heap.size+1+1,0,none⟩) (show w.heap.size<=w.heap.size+1+1 by omega) _,⟨qa,qn,qc⟩,rfl,(Xx ll h1 h2 h3 h4 hbit.out).set_other _ q0 (fun x hx=>by cases hx)⟩;have hld:=World.cell?_setCell_same' W1 ⟨w.heap.size+1+1,0,none⟩ (.slice qa qn qc) (by rw[q0];rfl);clear h0 h2 h3 h4 hB hC)
 (try simp only[Exit.inBlock,Exit.then])
 refine bodyPost_ret (v:=.agg #[.slice qa qn qc]) ?_ rfl hfin.out
 rw[qO rfl]
 clear q0
 go_simp
theorem qjt(a b:List Nat)(n:Nat):jx (jW qaa a b) n=(jx a n && ! jx b n):=by
 unfold jx
 rw[Jw (by rfl),qjr (Nat.mod_lt _ (by decide))]
theorem qlN(s t:SlV)(p q:Nat->Bool)(w:World)(hs:zh w s p)(ht:zh w t q) :
 Calls prog 83 #[.agg #[.slice s.a s.n s.c],.agg #[.slice t.a t.n t.c]] w (xj (fun n=>p n && ! q n) w):=by
 obtain⟨a,ha,la,_,hp⟩:=hs
 obtain⟨b,hb,lb,_,hq⟩:=ht
 have hB:BX w (((w.alloc (.cells #[.slice s.a s.n s.c] 83)).alloc (.cells #[.slice t.a t.n t.c] 83)).alloc (.cells #[.slice none 0 0] 83)):=(qi.alloc (by simp) _).alloc (by simp;omega) _
 have hC:=qd.new ((w.alloc (.cells #[.slice s.a s.n s.c] 83)).alloc (.cells #[.slice t.a t.n t.c] 83)) 83 #[.slice none 0 0]
 have hz:((w.alloc (.cells #[.slice s.a s.n s.c] 83)).alloc (.cells #[.slice t.a t.n t.c] 83)).heap.size=w.heap.size+1+1:=by simp
 rw[hz] at hC
 have K:=qfU s t a b _ (ha.below hB) (hb.below hB) la lb
 have hmf:∀ (fn:Fn) (first cap:Array Value) (w:World),(Instr.makeFunc fn first cap).run prog w = .ok (.func fn first cap) w:=fun _ _ _ _=>rfl
 have hlen:=jS qaa a b
 have hbit:∀n,jx (jW qaa a b) n=(p n && ! q n):=fun n=>by rw[qjt,hp,hq]
 generalize jW qaa a b=l at *
 replace hbit:=vH hbit
 have ll:l.length<=1024:=by omega
 clear ha hb la lb hp hq hlen
 go_enter func83,ntmps83
 go_wp2_with (go_at_call 136;refine K.mono ?_;clear K;rintro e W1 ⟨h0,⟨qa,qn,qc⟩,k,rfl,h1,h2,h3,h4⟩;obtain⟨q0,q1⟩:=Jy hC h0;have hfin:Hid (xj (fun n=>p n && ! q n) w (.returned (.agg #[.slice qa qn qc])) (W1.setCell ⟨w.heap.size+1+1,0,none⟩ (.slice qa qn qc))):=vH ⟨(hB.trans (h0.mono hB.size)).setCell (p:=⟨w.heap.size+1+1,0,none⟩) (show w.heap.size<=w.heap.size+1+1 by omega) _,⟨qa,qn,qc⟩,rfl,(Xx ll h1 h2 h3 h4 hbit.out).set_other _ q0 (fun x hx=>by cases hx)⟩;have hld:=World.cell?_setCell_same' W1 ⟨w.heap.size+1+1,0,none⟩ (.slice qa qn qc) (by rw[q0];rfl);clear h0 h2 h3 h4 hB hC)
 (try simp only[Exit.inBlock,Exit.then])
 refine bodyPost_ret (v:=.agg #[.slice qa qn qc]) ?_ rfl hfin.out
 rw[qO rfl]
 clear q0
 go_simp
def Xy(l:List Int)(T:Int):Prop:=
 (T = -1∨∃m:Nat,T=m/\m<=65535/\(m:Int)∈l)/\∀m:Nat,m<=65535->(m:Int)∈l->(m:Int)<=T
theorem Xy.nil:Xy [] (-1):=⟨.inl rfl,fun m _ h=>by cases h⟩
theorem Xy.low{l:List Int}{T:Int}(h:Xy l T) : -1<=T/\T<=65535:=by
 rcases h.1 with h|⟨m,h,h1,_⟩ <;> omega
theorem Xy.fit{l:List Int}{T:Int}(h:Xy l T){x:Int}(h0:0<=x)(h1:x<=65535):Xy (l++[x]) (max T x):=by
 refine⟨.inr ?_,fun m hm hi=>?_⟩
 ·by_cases hT:T<=x
  ·exact⟨x.toNat,by omega,by omega,by simp;right;omega⟩
  ·rcases h.1 with h2|⟨m,h2,h3,h4⟩
   ·omega
   ·exact⟨m,by omega,h3,by simp[h4]⟩
 ·rcases vC.1 hi with hi|hi
  ·have:=h.2 m hm hi
   omega
  ·have:(m:Int)=x:=by simpa using hi
   omega
theorem Xy.skip{l:List Int}{T:Int}(h:Xy l T){x:Int}(h0:¬ (0<=x/\x<=65535)):Xy (l++[x]) T:=by
 refine⟨?_,fun m hm hi=>?_⟩
 ·rcases h.1 with h2|⟨m,h2,h3,h4⟩
  ·exact .inl h2
  ·exact .inr ⟨m,h2,h3,by simp[h4]⟩
 ·rcases vC.1 hi with hi|hi
  ·exact h.2 m hm hi
  ·have:(m:Int)=x:=by simpa using hi
   omega
theorem XP{l:List Int}{k:Nat}{x:Int}(h:l[k]?=some x):l.take (k+1)=l.take k++[x]:=by
 rw[vX,h];rfl
def ofP(l:List Int)(n:Nat):Bool:=decide (n<=65535)&&l.contains (n:Int)
theorem qkG(l:List Int){m:Nat}(h:m<=65535)(n:Nat):ofP (l++[(m:Int)]) n=(ofP l n||decide (n=m)):=by
 rw[Bool.eq_iff_iff]
 simp only[ofP,Bool.and_eq_true,Bool.or_eq_true,decide_eq_true_eq,List.contains_iff_mem,vC,List.mem_singleton]
 constructor
 ·rintro⟨h1,h2|h2⟩
  ·exact .inl ⟨h1,h2⟩
  ·exact .inr (by omega)
 ·rintro(⟨h1,h2⟩|h1)
  ·exact⟨h1,.inl h2⟩
  ·exact⟨by omega,.inr (by omega)⟩
theorem qju(l:List Int){x:Int}(h:¬ (0<=x/\x<=65535))(n:Nat):ofP (l++[x]) n=ofP l n:=by
 rw[Bool.eq_iff_iff]
 simp only[ofP,Bool.and_eq_true,decide_eq_true_eq,List.contains_iff_mem,vC,List.mem_singleton]
 constructor
 ·rintro⟨h1,h2|h2⟩
  ·exact⟨h1,h2⟩
  ·omega
 ·rintro⟨h1,h2⟩
  exact⟨h1,.inl h2⟩
theorem qjv{ws:List Nat}{m:Nat}(hm:m/64<ws.length)(n:Nat) :
 jx (ws.set (m/64) (ws.getD (m/64) 0 ||| 2 ^ (m%64))) n=(jx ws n||decide (n=m)):=by
 unfold jx
 simp only[vG,List.getElem?_set]
 by_cases h:m/64=n/64
 ·rw[if_pos h,if_pos hm,←h]
  simp only[Option.getD_some,Nat.testBit_or,Nat.testBit_two_pow]
  congr 1
  rw[decide_eq_decide]
  omega
 ·rw[if_neg h]
  have:n≠m:=fun e=>h (by rw[e])
  rw[vF this,Bool.or_false]
theorem qjw(k n:Nat):jx (List.replicate k 0) n=false:=by
 unfold jx
 rw[vG,List.getElem?_replicate]
 split <;> simp
theorem qjx{ws:List Nat}{j x:Nat} : (yZ ws ws.length).setIfInBounds j (.int .u64 (x:Int))=yZ (ws.set j x) (ws.set j x).length:=by
 rw[JX,JX]
 apply Array.ext'
 simp[List.map_set]
theorem qkH(s:SlV)(l:List Int)(w:World)(h:qJ w s l)(hl:l.length<=100000) :
 Calls prog 81 #[.slice s.a s.n s.c] w (xj (ofP l) w):=by
 obtain⟨a,n,c⟩:=s
 have h2:=vH h
 obtain⟨hn,hc,hx⟩:=h
 dsimp only at hn hc hx ⊢
 subst hn
 have hB:BX w (w.alloc (.cells #[.slice none 0 0] 83)):=qi
 have h3:=h2.out.below hB
 obtain⟨_,_,hy⟩:=h3
 dsimp only at hy
 replace hx:=vH hx
 replace hy:=vH hy
 go_enter func81,ntmps81
 go_wp2_with fail
 go_loop [3,11] (fun t i=>∃ (k:Nat) (T:Int),k<=l.length/\i = .int .i64 k/\t = .int .i64 T/\Hid (Xy (l.take k) T)) (fun _ i=>l.length-(intOf i).toNat)
 case atStart=>exact⟨0,-1,vO _,rfl,rfl,vH .nil⟩
 case round=>
  obtain⟨k,T,hk,rfl,rfl,hT⟩:=hrel
  by_cases hlt:k<l.length
  ·obtain⟨x,hxk⟩:∃x,l[k]?=some x:=⟨l[k],vE hlt⟩
   obtain⟨b,o,rfl,hcell⟩:=hy.out k x hxk
   have k1:(k:Int)<l.length:=by omega
   have KF:=fun W=>qfQ x W
   by_cases hf:0<=x/\x<=65535
   ·have hT2:=vH (hT.out.fit hf.1 hf.2)
    rw[←XP hxk] at hT2
    rw[vT hf.1,vT hf.2] at KF
    clear hxk hT
    go_wp2_with (go_at_call 131;refine(KF _).mono ?_;clear KF;rintro e W1 ⟨rfl,rfl⟩)
    go_round
    case rel=>exact⟨k+1,_,by omega,by go_num,rfl,hT2⟩
    case measure=>simp[intOf];omega
   ·have hT2:=vH (hT.out.skip hf)
    rw[←XP hxk] at hT2
    have hf2:(decide (0<=x)&&decide (x<=65535))=false:=by
     by_cases h0:0<=x
     ·have:¬ x<=65535:=fun h1=>hf ⟨h0,h1⟩
      rw[vF this,Bool.and_false]
     ·rw[vF h0,Bool.false_and]
    rw[hf2] at KF
    clear hxk hT
    go_wp2_with (go_at_call 131;refine(KF _).mono ?_;clear KF;rintro e W1 ⟨rfl,rfl⟩)
    go_round
    case rel=>exact⟨k+1,_,by omega,by go_num,rfl,hT2⟩
    case measure=>simp[intOf];omega
  ·obtain rfl:k=l.length:=by omega
   rw[List.take_length] at hT
   have hlow:=hT.out.low
   by_cases h0:T<0
   ·have hfin:Hid (xj (ofP l) w (.returned (.agg #[.slice none 0 0])) (w.alloc (.cells #[.slice none 0 0] 83))):=vH ⟨hB,⟨none,0,0⟩,rfl,by
     have he:ofP l=fun _=>false:=by
      funext m
      unfold ofP
      by_cases hm:m<=65535
      ·rw[vT hm,Bool.true_and,vD]
       intro hi
       have:=hT.out.2 m hm (by simpa using hi)
       omega
      ·rw[vF hm,Bool.false_and]
     rw[he]
     exact zh.none _⟩
    clear hT
    go_wp2_with fail
    (try simp only[Exit.inBlock,Exit.then])
    refine bodyPost_ret (v:=.agg #[.slice none 0 0]) ?_ rfl hfin.out
    rw[qO rfl]
    go_simp
   ·obtain⟨t,rfl⟩:∃t:Nat,T=t:=⟨T.toNat,by omega⟩
    have ht:t<=65535:=by omega
    have htl:(t:Int)∈l:=by
     rcases hT.out.1 with h|⟨m,h,_,hm⟩
     ·omega
     ·rw[h];exact hm
    have hmax:∀m:Nat,m<=65535->(m:Int)∈l->m<=t:=fun m h1 h2=>by have:=hT.out.2 m h1 h2;omega
    obtain⟨q,hq⟩:∃q:Nat,Hid (q=t/64):=⟨_,vH rfl⟩
    have hq2:(t:Int)/64=(q:Int):=by have:=hq.out;omega
    have hqb:q<=1023:=by have:=hq.out;omega
    obtain⟨nn,hnn⟩:∃nn:Nat,Hid (nn=q+1):=⟨_,vH rfl⟩
    have hnb:nn<=1024:=by have:=hnn.out;omega
    have hmk:=run_make_row' (P:=prog) 81 137 (.int .u64 0) 8 underlying81 qah rfl .i64 .i64 nn (by omega) (by omega)
    have hq3:((nn:Nat):Int)=(t:Int)/64+1:=by have:=hnn.out;omega
    rw[hq3] at hmk
    replace htl:=vH htl
    replace hmax:=vH hmax
    clear hT hq2 hq3 h0 hlow
    go_wp2_with fail
    clear hmk
    have hmc:madeCells #[.int .u64 0] nn=yZ (List.replicate nn 0) (List.replicate nn 0).length:=by
     rw[jz,JX]
     apply Array.ext'
     simp
    have hz:(w.alloc (.cells #[.slice none 0 0] 83)).heap.size=w.heap.size+1:=by simp
    have hC0:qd ((w.alloc (.cells #[.slice none 0 0] 83)).alloc (.cells (madeCells #[.int .u64 0] nn) 137)) (w.heap.size+1) 137 (yZ (List.replicate nn 0) (List.replicate nn 0).length):=by
     rw[←hmc,←hz];exact qd.new _ _ _
    have hS0:qd ((w.alloc (.cells #[.slice none 0 0] 83)).alloc (.cells (madeCells #[.int .u64 0] nn) 137)) w.heap.size 83 #[.slice none 0 0]:=(qd.new w _ _).alloc _
    have hB0:BX w ((w.alloc (.cells #[.slice none 0 0] 83)).alloc (.cells (madeCells #[.int .u64 0] nn) 137)):=hB.alloc (by simp) _
    go_loopw [30] (fun i wr=>∃ (k:Nat) (ws:List Nat),k<=l.length/\i = .int .i64 k/\ws.length=nn/\qd wr (w.heap.size+1) 137 (yZ ws ws.length)/\qd wr w.heap.size 83 #[.slice none 0 0]/\BX w wr/\Hid (∀n,jx ws n=ofP (l.take k) n)/\Hid (∀ (j y:Nat),ws[j]?=some y->y<18446744073709551616)) (fun i _=>l.length-(intOf i).toNat)
    case atStart=>
     exact⟨0,List.replicate nn 0,vO _,rfl,by simp,hC0,hS0,hB0,vH fun n=>by rw[qjw];simp[ofP],vH fun j y hj=>by
      rw[List.getElem?_replicate] at hj
      split at hj
      ·cases hj;decide
      ·cases hj⟩
    case round=>
     clear hC0 hS0 hB0 hmc hz
     obtain⟨k,ws,hk,rfl,hwl,hR,hS,hBr,hW,hY⟩:=hrel
     have hw:=hR.lt
     by_cases hlt:k<l.length
     ·obtain⟨x,hxk⟩:∃x,l[k]?=some x:=⟨l[k],vE hlt⟩
      have hmem:x∈l:=vM hxk
      obtain⟨b,o,rfl,hcell⟩:=hx.out k x hxk
      replace hcell:=qb hBr hcell
      have k1:(k:Int)<l.length:=by omega
      have KF:=fun W=>qfQ x W
      by_cases hf:0<=x/\x<=65535
      ·obtain⟨m,rfl⟩:∃m:Nat,x=m:=⟨x.toNat,by omega⟩
       have hm:m<=65535:=by omega
       have hmt:=hmax.out m hm hmem
       rw[vT hf.1,vT hf.2] at KF
       have KB:=fun W=>qle m hm W
       obtain⟨r,hr,hr1⟩:∃r:Nat,Hid (r=m/64)/\IntKind.i64.wrap ((m:Int).tdiv 64)=(r:Int):=⟨m/64,vH rfl,by rw[Int.tdiv_eq_ediv_of_nonneg (by omega)];exact vI _ (by omega)⟩
       have hr2:(m:Int)/64=(r:Int):=by have:=hr.out;omega
       have hr3:IntKind.i64.wrap ((m:Int)/64)=(r:Int):=by rw[hr2];exact vI _ (by omega)
       have hr4:(m:Int).tdiv 64=(r:Int):=by rw[Int.tdiv_eq_ediv_of_nonneg (by omega)];exact hr2
       have hr5:IntKind.i64.wrap (r:Int)=(r:Int):=vI _ (by omega)
       have hrq:r<=q:=by have h1:=hr.out;have h2:=hq.out;omega
       have hr0:(0:Int)<=(r:Int):=vN _
       have hrq3:(r:Int)<(nn:Int):=by have:=hnn.out;omega
       obtain⟨y,hy1⟩:∃y,ws[r]?=some y:=⟨ws[r]'(by have:=hnn.out;omega),vE _⟩
       have hyg:ws.getD r 0=y:=by rw[vG,hy1];rfl
       have hyb:=hY.out r y hy1
       have hp:2 ^ (m%64)<18446744073709551616:=vW (Nat.pow_lt_pow_right (by decide) (show m%64<64 by omega)) (vL _)
       have hor:=bits_or_u64_nat y (2 ^ (m%64)) hyb hp
       have hzb:=qjp hyb hp
       have hput:=fun n=>qjv (ws:=ws) (m:=m) (by rw[←hr.out];have:=hnn.out;omega) n
       rw[←hr.out,hyg] at hput
       have hW2:Hid (∀n,jx (ws.set r (y ||| 2 ^ (m%64))) n=ofP (l.take (k+1)) n):=vH fun n=>by
        rw[hput,hW.out,XP hxk,qkG _ hm]
       generalize 2 ^ (m%64)=z at *
       have hzb2:y ||| z<18446744073709551616:=hzb
       generalize y ||| z=v at *
       have hY2:Hid (∀ (j y:Nat),(ws.set r v)[j]?=some y->y<18446744073709551616):=vH fun j y hj=>by
        rw[List.getElem?_set] at hj
        split at hj
        ·split at hj
         ·cases hj;exact hzb2
         ·cases hj
        ·exact hY.out j y hj
       have q0:wr.cell? ⟨w.heap.size+1,r,none⟩=some (.int .u64 y):=hR.cell (JY hy1)
       have q1:wr.frozen? ⟨w.heap.size+1,r,none⟩=false:=hR.frozen r
       have q2:qd ((wr.setCell ⟨w.heap.size+1,r,none⟩ (.int .u64 v)).drew) (w.heap.size+1) 137 (yZ (ws.set r v) (ws.set r v).length):=by
        have:=hR.set (j:=r) (.int .u64 v)
        rw[qjx] at this;exact this
       have q3:qd ((wr.setCell ⟨w.heap.size+1,r,none⟩ (.int .u64 v)).drew) w.heap.size 83 #[.slice none 0 0]:=hS.other (by omega) _
       have q4:BX w ((wr.setCell ⟨w.heap.size+1,r,none⟩ (.int .u64 v)).drew):=(hBr.setCell (p:=⟨w.heap.size+1,r,none⟩) (by show w.heap.size<=w.heap.size+1;omega) _).drew
       have hwl2:(ws.set r v).length=nn:=by simp[hwl]
       clear hxk hR hS hY hW hput hmem hmt hy1 hyg hx hy hmax htl
       go_wp2_with (go_at_call 131;refine(KF _).mono ?_;clear KF;rintro e W1 ⟨rfl,rfl⟩)
       have hrn:r<nn:=by omega
       go_still_tail 9,(by kernel_rfl)
       still_call ((KB _).mono fun e w2 h=>⟨h.1,h.2.symm⟩)
       repeat still_step
       refine wpStill_nil ?_
       change wpList _ _ _ _ _ wr.drew
       go_wp2_with fail
       exact⟨⟨k+1,ws.set r v,by omega,by go_num,hwl2,q2,q3,q4,hW2,hY2⟩,by simp[intOf];omega⟩
      ·have hf2:(decide (0<=x)&&decide (x<=65535))=false:=by
        by_cases h0:0<=x
        ·have:¬ x<=65535:=fun h1=>hf ⟨h0,h1⟩
         rw[vF this,Bool.and_false]
        ·rw[vF h0,Bool.false_and]
       rw[hf2] at KF
       have hW2:Hid (∀n,jx ws n=ofP (l.take (k+1)) n):=vH fun n=>by
        rw[hW.out,XP hxk,qju _ hf]
       clear hxk hW hmem
       go_wp2_with (go_at_call 131;refine(KF _).mono ?_;clear KF;rintro e W1 ⟨rfl,rfl⟩)
       exact⟨⟨k+1,ws,by omega,by go_num,hwl,hR,hS,hBr,hW2,hY⟩,by simp[intOf];omega⟩
     ·obtain rfl:k=l.length:=by omega
      rw[List.take_length] at hW
      have hWA:zE wr ⟨some ⟨w.heap.size+1,0,none⟩,nn,nn⟩ ws:=
       ⟨hwl.symm,vL _,fun j x hj=>⟨hY.out j x hj,w.heap.size+1,0,rfl,by rw[Nat.zero_add];exact hR.cell (JY hj)⟩,fun b o he=>by cases he;exact⟨_,hR⟩⟩
      have hTr:XK ws:=fun j hj he=>by
       have hjq:j=t/64:=by have:=hq.out;have:=hnn.out;omega
       have h1:=hW.out t
       rw[show ofP l t=true by simp[ofP,ht,htl.out]] at h1
       unfold jx at h1
       rw[←hjq,he] at h1
       simp at h1
      have hSA:zh wr ⟨some ⟨w.heap.size+1,0,none⟩,nn,nn⟩ (ofP l):=⟨ws,hWA,by omega,hTr,hW.out⟩
      have q0:wr.cell? ⟨w.heap.size,0,none⟩=some (.slice none 0 0):=hS.cell rfl
      have q1:wr.frozen? ⟨w.heap.size,0,none⟩=false:=hS.frozen 0
      have hfin:Hid (xj (ofP l) w (.returned (.agg #[.slice (some ⟨w.heap.size+1,0,none⟩) nn nn])) (wr.setCell ⟨w.heap.size,0,none⟩ (.slice (some ⟨w.heap.size+1,0,none⟩) nn nn))):=vH ⟨hBr.setCell (p:=⟨w.heap.size,0,none⟩) (vL _) _,⟨some ⟨w.heap.size+1,0,none⟩,nn,nn⟩,rfl,hSA.set_other _ q0 (fun x hx=>by cases hx)⟩
      have hld:=World.cell?_setCell_same' wr ⟨w.heap.size,0,none⟩ (.slice (some ⟨w.heap.size+1,0,none⟩) nn nn) (by rw[q0];rfl)
      clear hR hS hY hW hWA hTr hSA hx hy hmax htl hBr
      go_wp2_with fail
      (try simp only[Exit.inBlock,Exit.then])
      refine bodyPost_ret (v:=.agg #[.slice (some ⟨w.heap.size+1,0,none⟩) nn nn]) ?_ rfl hfin.out
      rw[qO rfl]
      clear q0
      go_simp
end Go.Proofs.YtomlgdnafeeeiaaGreatDoor
