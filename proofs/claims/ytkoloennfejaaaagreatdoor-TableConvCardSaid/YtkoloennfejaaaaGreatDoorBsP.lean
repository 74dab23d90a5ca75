/-
  Sets as words; bitset's fits, bit, at, Has, trim, join.
-/
import Derived.Test.YtkoloennfejaaaaGreatDoorMdOne
import Derived.Laws.Bits64b
set_option maxHeartbeats 1600000
set_option maxRecDepth 100000
namespace Go.Proofs.YtkoloennfejaaaaGreatDoor
open Go.RowKit
def hasW(ws:List Nat)(n:Nat):Bool:=(ws.getD (n/64) 0).testBit (n%64)
theorem qgy(x k:Nat):x&&&2 ^ k=if x.testBit k=true then 2 ^ k else 0:=by
 apply Nat.eq_of_testBit_eq
 intro i
 rw[Nat.testBit_and,Nat.testBit_two_pow]
 by_cases h:k=i
 ·subst h
  cases hx:x.testBit k
  ·simp
  ·simp[Nat.testBit_two_pow_self]
 ·rw[decide_eq_false h,Bool.and_false]
  split
  ·rw[Nat.testBit_two_pow,decide_eq_false h]
  ·simp
theorem qck(x k:Nat):(((x&&&2 ^ k:Nat):Int) != 0)=x.testBit k:=by
 rw[qgy]
 have h0:0<2 ^ k:=Nat.two_pow_pos k
 generalize 2 ^ k=y at h0 ⊢
 cases hx:x.testBit k
 ·simp
 ·simp only[if_true]
  have:(y:Int)≠0:=by omega
  simpa using this
theorem Qs(a b:Nat)(ha:a<18446744073709551616)(hb:b<18446744073709551616) :
 bits .andNot .u64 (a:Int) (b:Int)=((a&&&(18446744073709551615 ^^^ b):Nat):Int):=by
 have hx:a&&&(18446744073709551615 ^^^ b)<2 ^ 64:=Nat.and_lt_two_pow _ (Nat.xor_lt_two_pow (by decide) (by omega))
 have h1:(BitVec.ofInt 64 (a:Int)).toNat=a:=by
  rw[BitVec.ofInt_natCast,BitVec.toNat_ofNat];exact Nat.mod_eq_of_lt (by omega)
 have h2:(BitVec.ofInt 64 (b:Int)).toNat=b:=by
  rw[BitVec.ofInt_natCast,BitVec.toNat_ofNat];exact Nat.mod_eq_of_lt (by omega)
 have h3:(~~~ BitVec.ofInt 64 (b:Int)).toNat=18446744073709551615 ^^^ b:=by
  rw[BitVec.toNat_not,h2]
  apply Nat.eq_of_testBit_eq
  intro i
  rw[Nat.testBit_xor,show(2 ^ 64-1-b:Nat)=2 ^ 64-(b+1) by omega,Nat.testBit_two_pow_sub_succ (by omega),show(18446744073709551615:Nat)=2 ^ 64-1 from rfl,Nat.testBit_two_pow_sub_one]
  by_cases hi:i<64
  ·simp[hi]
  ·have:b.testBit i=false:=Nat.testBit_lt_two_pow (Nat.lt_of_lt_of_le (show b<2 ^ 64 by omega) (Nat.pow_le_pow_right (by decide) (by omega)))
   simp[hi,this]
 show IntKind.u64.wrap ((BitVec.ofInt 64 (a:Int) &&& ~~~ BitVec.ofInt 64 (b:Int)).toNat:Int)=_
 rw[BitVec.toNat_and,h1,h3,IntKind.wrap_u64]
 omega
def andW(a b:Nat):Nat:=a&&&b
def orW(a b:Nat):Nat:=a ||| b
def subW(a b:Nat):Nat:=a&&&(18446744073709551615 ^^^ b)
theorem qgz{a b:Nat}(_:a<18446744073709551616)(k:b<18446744073709551616):andW a b<18446744073709551616:=Nat.and_lt_two_pow (n:=64) _ k
theorem qfo{a b:Nat}(h:a<18446744073709551616)(k:b<18446744073709551616):orW a b<18446744073709551616:=Nat.or_lt_two_pow (n:=64) h k
theorem qgA{a b:Nat}(_:a<18446744073709551616)(k:b<18446744073709551616):subW a b<18446744073709551616:=Nat.and_lt_two_pow (n:=64) _ (Nat.xor_lt_two_pow (by decide) k)
theorem qfp(a b i:Nat):(andW a b).testBit i=(a.testBit i&&b.testBit i):=Nat.testBit_and _ _ _
theorem qgB(a b i:Nat):(orW a b).testBit i=(a.testBit i||b.testBit i):=Nat.testBit_or _ _ _
theorem qfq{a b i:Nat}(hi:i<64):(subW a b).testBit i=(a.testBit i && !b.testBit i):=by
 unfold subW
 rw[Nat.testBit_and,Nat.testBit_xor,show(18446744073709551615:Nat)=2 ^ 64-1 from rfl,Nat.testBit_two_pow_sub_one,decide_eq_true hi]
 simp
def WordsAt(W:World)(s:SlV)(ws:List Nat):Prop:=
 s.n=ws.length/\s.n<=s.c/\(∀ (j x:Nat),ws[j]?=some x->x<18446744073709551616/\∃b o,s.a=some ⟨b,o,none⟩/\W.cell? ⟨b,o+j,none⟩=some (.int .u64 (x:Int))) /\
  ∀b o,s.a=some ⟨b,o,none⟩->∃cs,Cells W b 114 cs
theorem WordsAt.below{W W':World}{s:SlV}{ws:List Nat}(h:WordsAt W s ws)(hb:Below W.heap.size W W'):WordsAt W' s ws:=
 ⟨h.1,h.2.1,fun j x hj=>by obtain⟨h0,b,o,h1,h2⟩:=h.2.2.1 j x hj;exact⟨h0,b,o,h1,cell_below hb h2⟩,fun b o he=>by obtain⟨cs,hc⟩:=h.2.2.2 b o he;exact⟨cs,hc.below hb hc.lt⟩⟩
def TrimmedW(ws:List Nat):Prop:=∀k,ws.length=k+1->ws.getD k 0≠0
def SetAt(W:World)(s:SlV)(p:Nat->Bool):Prop:=∃ws,WordsAt W s ws/\ws.length<=1024/\TrimmedW ws/\∀n,hasW ws n=p n
theorem SetAt.below{W W':World}{s:SlV}{p:Nat->Bool}(h:SetAt W s p)(hb:Below W.heap.size W W'):SetAt W' s p:=by
 obtain⟨ws,h1,h2,h3,h4⟩:=h
 exact⟨ws,h1.below hb,h2,h3,h4⟩
theorem SetAt.none(W:World):SetAt W ⟨.none,0,0⟩ (fun _=>false):=
 ⟨[],⟨rfl,Nat.le_refl _,fun j x hj=>by simp at hj,fun b o he=>by cases he⟩,by simp,fun k hk=>by simp at hk,fun n=>by simp[hasW]⟩
theorem qaQ{ws:List Nat}{n:Nat}(h:64*ws.length<=n):hasW ws n=false:=by
 unfold hasW
 rw[List.getD_eq_getElem?_getD,List.getElem?_eq_none (by omega)]
 simp
theorem qdP{ws:List Nat}{k:Nat}(h:∀j,k<=j->ws.getD j 0=0)(n:Nat):hasW (ws.take k) n=hasW ws n:=by
 unfold hasW
 by_cases hn:n/64<k
 ·simp only[List.getD_eq_getElem?_getD,List.getElem?_take_of_lt hn]
 ·rw[h _ (by omega)]
  simp only[List.getD_eq_getElem?_getD]
  rw[List.getElem?_eq_none (by simp;omega)]
  rfl
def joinW(f:Nat->Nat->Nat)(a b:List Nat):List Nat:=(List.range (max a.length b.length)).map fun i=>f (a.getD i 0) (b.getD i 0)
theorem QR{f:Nat->Nat->Nat}(h0:f 0 0=0)(a b:List Nat)(i:Nat):(joinW f a b).getD i 0=f (a.getD i 0) (b.getD i 0):=by
 unfold joinW
 rw[List.getD_eq_getElem?_getD,List.getElem?_map]
 by_cases hi:i<max a.length b.length
 ·rw[List.getElem?_range hi];rfl
 ·rw[List.getElem?_eq_none (by simp;omega)]
  simp only[List.getD_eq_getElem?_getD]
  rw[List.getElem?_eq_none (show a.length<=i by omega),List.getElem?_eq_none (show b.length<=i by omega)]
  exact h0.symm
theorem qcl(n:Int)(w:World):Calls Tryz.prog 79 #[.int .i64 n] w fun e w'=>e = .returned (.bool (decide (0<=n)&&decide (n<=65535)))/\w=w':=by
 by_cases h1:0<=n
 ·by_cases h2:n<=65535
  all_goals
   go_enter Tryz.func79,Tryz.ntmps79
   go_wp2_with fail
   go_ret
   exact⟨qg (by simp[h1,h2]),rfl⟩
 ·have d1:decide (0<=n)=false:=decide_eq_false h1
  go_enter Tryz.func79,Tryz.ntmps79
  go_wp2_with fail
  go_ret
  exact⟨qg (by first|rfl|(rw[d1];rfl)),rfl⟩
theorem qgW(n:Nat)(h:n<=65535)(w:World):Calls Tryz.prog 81 #[.int .i64 n] w fun e w'=>e = .returned (.int .u64 ((2 ^ (n%64):Nat):Int))/\w=w':=by
 have hw:IntKind.u64.wrap ((2:Int) ^ (n%64))=((2 ^ (n%64):Nat):Int):=by
  rw[IntKind.wrap_u64]
  have h1:2 ^ (n%64)<18446744073709551616:=Nat.lt_of_lt_of_le (Nat.pow_lt_pow_right (by decide) (show n%64<64 by omega)) (Nat.le_refl _)
  have h2:((2:Int) ^ (n%64))=((2 ^ (n%64):Nat):Int):=by simp
  rw[h2]
  clear h2
  generalize 2 ^ (n%64)=b at h1 ⊢
  omega
 go_enter Tryz.func81,Tryz.ntmps81
 go_wp2_with fail
 go_ret
 exact⟨congrArg (fun v=>Ending.returned (.int .u64 v)) hw,rfl⟩
theorem qcm(s:SlV)(ws:List Nat)(i:Nat)(w:World)(h:WordsAt w s ws):Calls Tryz.prog 80 #[.slice s.a s.n s.c,.int .i64 i] w fun e w'=>e = .returned (.int .u64 (ws.getD i 0:Nat))/\w=w':=by
 obtain⟨a,n,c⟩:=s
 obtain⟨hn,hc,hx,hty⟩:=h
 dsimp only at hn hc hx ⊢
 subst hn
 clear hty
 have i0:(0:Int)<=i:=Int.natCast_nonneg _
 by_cases hi:i<ws.length
 ·obtain⟨_,b,o,rfl,hcell⟩:=hx i ws[i] (List.getElem?_eq_getElem hi)
  have hg:ws.getD i 0=ws[i]:=by rw[List.getD_eq_getElem?_getD,List.getElem?_eq_getElem hi];rfl
  have hi2:(i:Int)<ws.length:=by omega
  rw[hg]
  generalize ws[i]=x at *
  clear hx hg
  go_enter Tryz.func80,Tryz.ntmps80
  go_wp2_with fail
  go_ret
  exact⟨rfl,rfl⟩
 ·have hg:ws.getD i 0=0:=by rw[List.getD_eq_getElem?_getD,List.getElem?_eq_none (by omega)];rfl
  rw[hg]
  clear hx hg
  go_enter Tryz.func80,Tryz.ntmps80
  go_wp2_with fail
  go_ret
  exact⟨rfl,rfl⟩
theorem qgX(s:SlV)(p:Nat->Bool)(n:Int)(w:World)(h:SetAt w s p) :
 Calls Tryz.prog 48 #[.agg #[.slice s.a s.n s.c],.int .i64 n] w fun e w'=>e = .returned (.bool (decide (0<=n)&&p n.toNat))/\Below w.heap.size w w':=by
 obtain⟨ws,hW,hlen,_,hp⟩:=h
 have hb:Below w.heap.size w (w.alloc (.cells #[.slice s.a s.n s.c] 86)):=qe
 have KF:=fun W=>qcl n W
 by_cases h1:0<=n
 ·obtain⟨k,rfl⟩:∃k:Nat,n=k:=⟨n.toNat,by omega⟩
  rw[decide_eq_true h1,Bool.true_and,Int.toNat_natCast,←hp k]
  rw[decide_eq_true h1,Bool.true_and] at KF
  by_cases h2:(k:Int)<=65535
  ·rw[decide_eq_true h2] at KF
   have KA:=fun(i:Nat)=>qcm s ws i _ (hW.below hb)
   have KB:=fun W=>qgW k (by omega) W
   have hr:hasW ws k=(ws.getD (k/64) 0).testBit (k%64):=rfl
   have hx:ws.getD (k/64) 0<18446744073709551616:=by
    rw[List.getD_eq_getElem?_getD]
    cases hg:ws[k/64]? with
    | none=>decide
    | some x=>exact(hW.2.2.1 _ x hg).1
   have hy:2 ^ (k%64)<18446744073709551616:=Nat.lt_of_lt_of_le (Nat.pow_lt_pow_right (by decide) (show k%64<64 by omega)) (Nat.le_refl _)
   have KA2:=KA (k/64)
   have hand:=bits_and_u64_nat (ws.getD (k/64) 0) (2 ^ (k%64)) hx hy
   have hne:=qck (ws.getD (k/64) 0) (k%64)
   rw[←hr] at hne
   obtain⟨q,hq,hq1⟩:∃q:Nat,Hid (q=k/64)/\IntKind.i64.wrap ((k:Int).tdiv 64)=(q:Int):=⟨k/64,Lib.hid rfl,by rw[Int.tdiv_eq_ediv_of_nonneg (by omega)];exact IntWalk.i64_in _ (by omega)⟩
   have hq2:Hid ((k:Int)/64=(q:Int)):=Lib.hid (by have:=hq.out;omega)
   rw[←hq.out] at KA2 hand hne hx
   generalize ws.getD q 0=x at *
   generalize 2 ^ (k%64)=y at *
   generalize hasW ws k=z at *
   clear hr hp KA hW hlen
   go_enter Tryz.func48,Tryz.ntmps48
   go_wp2_with (first
    |(go_at_call 79;refine(KF _).mono ?_;clear KF;rintro e W1 ⟨rfl,rfl⟩)
    |(go_at_call 80;rw[hq2.out];refine KA2.mono ?_;clear KA2;rintro e W1 ⟨rfl,rfl⟩)
    |(go_at_call 81;refine(KB _).mono ?_;clear KB;rintro e W1 ⟨rfl,rfl⟩))
   go_ret
   exact⟨qg (by first|rfl|exact hne),hb⟩
  ·have hf:hasW ws k=false:=qaQ (by omega)
   rw[hf]
   rw[decide_eq_false h2] at KF
   clear hW hp
   go_enter Tryz.func48,Tryz.ntmps48
   go_wp2_with (go_at_call 79;refine(KF _).mono ?_;clear KF;rintro e W1 ⟨rfl,rfl⟩)
   go_ret
   exact⟨rfl,hb⟩
 ·rw[decide_eq_false h1,Bool.false_and]
  rw[decide_eq_false h1,Bool.false_and] at KF
  clear hW hp
  go_enter Tryz.func48,Tryz.ntmps48
  go_wp2_with (go_at_call 79;refine(KF _).mono ?_;clear KF;rintro e W1 ⟨rfl,rfl⟩)
  go_ret
  exact⟨rfl,hb⟩
def Jd(ws:List Nat)(w:World)(e:Ending)(w':World):Prop:=
 w=w'/\∃ (s:SlV) (k:Nat),e = .returned (.slice s.a s.n s.c)/\k<=ws.length/\WordsAt w s (ws.take k)/\(∀j,k<=j->ws.getD j 0=0)/\TrimmedW (ws.take k)
theorem qcn(s:SlV)(ws:List Nat)(w:World)(h:WordsAt w s ws)(hl:ws.length<=100000) :
 Calls Tryz.prog 193 #[.slice s.a s.n s.c] w (Jd ws w):=by
 obtain⟨a,n,c⟩:=s
 obtain⟨hn,hc,hx,hty⟩:=h
 dsimp only at hn hc hx ⊢
 subst hn
 replace hx:=Lib.hid hx
 replace hty:=Lib.hid hty
 go_enter Tryz.func193,Tryz.ntmps193
 go_wp2_with fail
 go_loop [4] (fun v=>∃k:Nat,k<=ws.length/\v = .int .i64 k/\Hid (∀j,k<=j->ws.getD j 0=0)) (fun v=>(intOf v).toNat)
 case atStart=>exact⟨ws.length,Nat.le_refl _,rfl,Lib.hid fun j hj=>by rw[List.getD_eq_getElem?_getD,List.getElem?_eq_none hj];rfl⟩
 case round=>
  obtain⟨k,hk,rfl,hz⟩:=hrel
  cases k with
  |zero=>
   have hfin:Jd ws w (.returned (.slice none 0 0)) w:=⟨rfl,⟨none,0,0⟩,0,rfl,Nat.zero_le _,⟨rfl,Nat.le_refl _,fun j x hj=>by simp at hj,fun b o he=>by cases he⟩,hz.out,fun j hj=>by simp at hj⟩
   replace hfin:=Lib.hid hfin
   clear hz
   go_wp2_with fail
   go_ret
   exact hfin.out
  |succ j=>
   obtain⟨x,hxj⟩:∃x,ws[j]?=some x:=⟨ws[j],List.getElem?_eq_getElem (by omega)⟩
   obtain⟨hlt,b,o,rfl,hcell⟩:=hx.out j x hxj
   have hg:ws.getD j 0=x:=by rw[List.getD_eq_getElem?_getD,hxj];rfl
   have hs:IntKind.i64.wrap (((j+1:Nat):Int)-1)=j:=by rw[IntWalk.i64_in _ (by omega)];omega
   have hj1:(0:Int)<((j+1:Nat):Int):=by omega
   have hj2:(j:Int)<ws.length:=by omega
   by_cases h0:x=0
   ·have hz2:Hid (∀j',j<=j'->ws.getD j' 0=0):=Lib.hid fun j' hj'=>by
     by_cases he:j'=j
     ·rw[he,hg,h0]
     ·exact hz.out j' (by omega)
    subst h0
    clear hz hg hxj
    go_wp2_with fail
    go_round
    case rel=>exact⟨j,by omega,by go_num,hz2⟩
    case measure=>simp[intOf]
   ·have h1:((x:Int)==0)=false:=by simpa using h0
    have hfin:Jd ws w (.returned (.slice (some ⟨b,o,none⟩) (j+1) c)) w:=⟨rfl,⟨some ⟨b,o,none⟩,j+1,c⟩,j+1,rfl,hk,⟨by simp;omega,by dsimp only;omega,fun i y hi=>hx.out i y (by
     rw[List.getElem?_take] at hi
     split at hi
     ·exact hi
     ·cases hi),fun b' o' he=>hty.out b' o' he⟩,hz.out,fun i hi=>by
      have:i=j:=by simp at hi;omega
      subst this
      rw[List.getD_eq_getElem?_getD,List.getElem?_take_of_lt (by omega),hxj]
      exact h0⟩
    replace hfin:=Lib.hid hfin
    have hj3:((j+1:Nat):Int)<=c:=by omega
    clear hz hg hxj
    go_wp2_with fail
    go_ret
    exact hfin.out
theorem Tryz.infoU64:(Tryz.prog.info? 114).map (fun i=>(i.zero,i.size,i.bytes))=some (some (.int .u64 0),1,8):=by kernel_rfl
def xP(l:List Nat)(k:Nat):Array Value:=((l.take k++List.replicate (l.length-k) 0).map (fun x:Nat=>Value.int .u64 (x:Int))).toArray
theorem ZL(l:List Nat):xP l 0=Array.replicate l.length (.int .u64 0):=by simp[xP]
theorem ZM(l:List Nat)(k x:Nat)(hx:l[k]?=some x):(xP l k).setIfInBounds k (.int .u64 (x:Int))=xP l (k+1):=by
 have hlt:k<l.length:=(List.getElem?_eq_some_iff.1 hx).1
 apply Array.ext'
 simp only[xP,Array.toList_setIfInBounds]
 rw[show l.length-k=(l.length-(k+1))+1 by omega,List.replicate_succ,List.take_add_one,hx]
 simp only[List.map_append,List.map_cons,Option.toList_some,List.append_assoc,List.cons_append,List.nil_append]
 have hk:(List.map (fun x:Nat=>Value.int .u64 (x:Int)) (List.take k l)).length=k:=by simp;omega
 generalize List.map (fun x:Nat=>Value.int .u64 (x:Int)) (List.take k l)=A at hk ⊢
 rw[List.set_append_right _ _ (by omega),hk,Nat.sub_self];rfl
theorem Je(l:List Nat)(k:Nat)(hk:k<l.length):(xP l k)[k]?=some (.int .u64 0):=by
 have h1:(l.take k).length=k:=by simp;omega
 simp only[xP,List.getElem?_toArray,List.getElem?_map]
 rw[List.getElem?_append_right (by omega),h1,Nat.sub_self,List.getElem?_replicate,if_pos (by omega)]
 rfl
theorem Zp(l:List Nat):xP l l.length=(l.map (fun x:Nat=>Value.int .u64 (x:Int))).toArray:=by simp[xP]
theorem Zq{l:List Nat}{j x:Nat}(h:l[j]?=some x):(xP l l.length)[j]?=some (.int .u64 (x:Int)):=by
 rw[Zp,List.getElem?_toArray,List.getElem?_map,h];rfl
theorem zL(f:Nat->Nat->Nat)(a b:List Nat):(joinW f a b).length=max a.length b.length:=by simp[joinW]
theorem zM{W:World}{s:SlV}{ws:List Nat}(h:WordsAt W s ws)(i:Nat):ws.getD i 0<18446744073709551616:=by
 rw[List.getD_eq_getElem?_getD]
 cases hg:ws[i]? with
 | none=>decide
 | some x=>exact(h.2.2.1 _ x hg).1
theorem qhm(a b:Nat)(ha:a<18446744073709551616)(hb:b<18446744073709551616)(w:World):Calls Tryz.prog 192 #[.int .u64 a,.int .u64 b] w fun e w'=>e = .returned (.int .u64 (andW a b:Nat))/\w=w':=by
 have hand:=bits_and_u64_nat a b ha hb
 go_enter Tryz.func192,Tryz.ntmps192
 go_wp2_with fail
 go_ret
 exact⟨rfl,rfl⟩
theorem qhK(a b:Nat)(ha:a<18446744073709551616)(hb:b<18446744073709551616)(w:World):Calls Tryz.prog 158 #[.int .u64 a,.int .u64 b] w fun e w'=>e = .returned (.int .u64 (orW a b:Nat))/\w=w':=by
 have hand:=bits_or_u64_nat a b ha hb
 go_enter Tryz.func158,Tryz.ntmps158
 go_wp2_with fail
 go_ret
 exact⟨rfl,rfl⟩
theorem qhn(a b:Nat)(ha:a<18446744073709551616)(hb:b<18446744073709551616)(w:World):Calls Tryz.prog 157 #[.int .u64 a,.int .u64 b] w fun e w'=>e = .returned (.int .u64 (subW a b:Nat))/\w=w':=by
 have hand:=Qs a b ha hb
 go_enter Tryz.func157,Tryz.ntmps157
 go_wp2_with fail
 go_ret
 exact⟨rfl,rfl⟩
def Jf(l:List Nat)(w:World)(e:Ending)(w':World):Prop:=
 Below w.heap.size w w'/\∃ (s:SlV) (k:Nat),e = .returned (.slice s.a s.n s.c)/\k<=l.length/\WordsAt w' s (l.take k)/\(∀j,k<=j->l.getD j 0=0)/\TrimmedW (l.take k)
theorem qco(s t:SlV)(a b:List Nat)(w:World)(ha:WordsAt w s a)(hb:WordsAt w t b)(la:a.length<=1024)(lb:b.length<=1024) :
 Calls Tryz.prog 156 #[.slice s.a s.n s.c,.slice t.a t.n t.c,.func (.func 192) #[] #[]] w (Jf (joinW andW a b) w):=by
 obtain⟨l,hl⟩:∃l,l=joinW andW a b:=⟨_,rfl⟩
 have hlen:l.length=max a.length b.length:=by rw[hl,zL]
 have hget:∀k,k<l.length->l[k]?=some (andW (a.getD k 0) (b.getD k 0)):=fun k hk=>by
  rw[hl,joinW,List.getElem?_map,List.getElem?_range (by omega)];rfl
 have hfit:∀ (j x:Nat),l[j]?=some x->x<18446744073709551616:=fun j x hj=>by
  rw[hget j (List.getElem?_eq_some_iff.1 hj).1] at hj
  cases hj
  exact qgz (zM ha j) (zM hb j)
 rw[←hl]
 have han:=ha.1
 have hbn:=hb.1
 have ha2:=Lib.hid ha
 have hb2:=Lib.hid hb
 replace hget:=Lib.hid hget
 replace hfit:=Lib.hid hfit
 clear ha hb hl
 obtain⟨sa,sn,sc⟩:=s
 obtain⟨ta,tn,tc⟩:=t
 dsimp only at han hbn ⊢
 have hmk:=run_make_row' (P:=Tryz.prog) 84 114 (.int .u64 0) 8 Tryz.underlying84 Tryz.infoU64 rfl .i64 .i64 l.length (by omega) (by omega)
 have e0:max (sn:Int) (tn:Int)=(l.length:Int):=by omega
 rw[←e0] at hmk
 clear han hbn e0
 replace la:l.length<=1024:=by omega
 clear hlen lb
 go_enter Tryz.func156,Tryz.ntmps156
 go_wp2_with fail
 clear hmk
 have hC0:Cells (w.alloc (.cells (madeCells #[.int .u64 0] l.length) 114)) w.heap.size 114 (xP l 0):=by rw[ZL,←zB];exact Cells.new w _ _
 have hB0:Below w.heap.size w (w.alloc (.cells (madeCells #[.int .u64 0] l.length) 114)):=qe
 go_loopw [17] (fun i wr=>∃k:Nat,k<=l.length/\i = .int .i64 k/\Cells wr w.heap.size 114 (xP l k)/\Below w.heap.size w wr) (fun i _=>l.length-(intOf i).toNat)
 case atStart=>exact⟨0,Nat.zero_le _,rfl,hC0,hB0⟩
 case round=>
  clear hC0 hB0
  obtain⟨k,hk,rfl,hR,hB⟩:=hrel
  have k0:(0:Int)<=k:=Int.natCast_nonneg _
  by_cases hlt:k<l.length
  ·have hx:=hget.out k hlt
   have hi:IntKind.i64.wrap ((k:Int)+1)=k+1:=IntWalk.i64_in _ (by omega)
   have k1:(k:Int)<l.length:=by omega
   have KA:=qcm ⟨sa,sn,sc⟩ a k wr (ha2.out.below hB)
   have KB:=qcm ⟨ta,tn,tc⟩ b k wr (hb2.out.below hB)
   have KP:=qhm (a.getD k 0) (b.getD k 0) (zM ha2.out k) (zM hb2.out k) wr
   dsimp only at KA KB
   generalize a.getD k 0=x at *
   generalize b.getD k 0=y at *
   generalize andW x y=z at *
   have q0:wr.cell? ⟨w.heap.size,k,none⟩=some (.int .u64 0):=hR.cell (Je l k hlt)
   have q1:wr.frozen? ⟨w.heap.size,k,none⟩=false:=hR.frozen k
   have q2:Cells (wr.setCell ⟨w.heap.size,k,none⟩ (.int .u64 z)) w.heap.size 114 (xP l (k+1)):=by
    have:=hR.set (j:=k) (.int .u64 z)
    rw[ZM l k z hx] at this;exact this
   have q3:Below w.heap.size w (wr.setCell ⟨w.heap.size,k,none⟩ (.int .u64 z)):=hB.setCell (p:=⟨w.heap.size,k,none⟩) (Nat.le_refl _) _
   clear hx hR hget hfit
   go_wp2_with (first
    |(go_at_call 80;refine KA.mono ?_;clear KA;rintro e W1 ⟨rfl,rfl⟩)
    |(go_at_call 80;refine KB.mono ?_;clear KB;rintro e W1 ⟨rfl,rfl⟩)
    |(go_at_call 192;refine KP.mono ?_;clear KP;rintro e W1 ⟨rfl,rfl⟩))
   exact⟨⟨k+1,by omega,by go_num,q2,q3⟩,by simp[intOf];omega⟩
  ·obtain rfl:k=l.length:=by omega
   have hW:WordsAt wr ⟨some ⟨w.heap.size,0,none⟩,l.length,l.length⟩ l:=
    ⟨rfl,Nat.le_refl _,fun j x hj=>⟨hfit.out j x hj,w.heap.size,0,rfl,by rw[Nat.zero_add];exact hR.cell (Zq hj)⟩,fun b o he=>by cases he;exact⟨_,hR⟩⟩
   have K:=qcn ⟨some ⟨w.heap.size,0,none⟩,l.length,l.length⟩ l wr hW (by omega)
   dsimp only at K
   clear hR hW hget hfit
   go_wp2_with (go_at_call 193;refine K.mono ?_;clear K;rintro e W1 ⟨rfl,⟨qa,qn,qc⟩,k,rfl,h1,h2,h3,h4⟩)
   go_ret
   exact⟨hB,⟨qa,qn,qc⟩,k,rfl,h1,h2,h3,h4⟩
theorem qdQ(s t:SlV)(a b:List Nat)(w:World)(ha:WordsAt w s a)(hb:WordsAt w t b)(la:a.length<=1024)(lb:b.length<=1024) :
 Calls Tryz.prog 156 #[.slice s.a s.n s.c,.slice t.a t.n t.c,.func (.func 158) #[] #[]] w (Jf (joinW orW a b) w):=by
 obtain⟨l,hl⟩:∃l,l=joinW orW a b:=⟨_,rfl⟩
 have hlen:l.length=max a.length b.length:=by rw[hl,zL]
 have hget:∀k,k<l.length->l[k]?=some (orW (a.getD k 0) (b.getD k 0)):=fun k hk=>by
  rw[hl,joinW,List.getElem?_map,List.getElem?_range (by omega)];rfl
 have hfit:∀ (j x:Nat),l[j]?=some x->x<18446744073709551616:=fun j x hj=>by
  rw[hget j (List.getElem?_eq_some_iff.1 hj).1] at hj
  cases hj
  exact qfo (zM ha j) (zM hb j)
 rw[←hl]
 have han:=ha.1
 have hbn:=hb.1
 have ha2:=Lib.hid ha
 have hb2:=Lib.hid hb
 replace hget:=Lib.hid hget
 replace hfit:=Lib.hid hfit
 clear ha hb hl
 obtain⟨sa,sn,sc⟩:=s
 obtain⟨ta,tn,tc⟩:=t
 dsimp only at han hbn ⊢
 have hmk:=run_make_row' (P:=Tryz.prog) 84 114 (.int .u64 0) 8 Tryz.underlying84 Tryz.infoU64 rfl .i64 .i64 l.length (by omega) (by omega)
 have e0:max (sn:Int) (tn:Int)=(l.length:Int):=by omega
 rw[←e0] at hmk
 clear han hbn e0
 replace la:l.length<=1024:=by omega
 clear hlen lb
 go_enter Tryz.func156,Tryz.ntmps156
 go_wp2_with fail
 clear hmk
 have hC0:Cells (w.alloc (.cells (madeCells #[.int .u64 0] l.length) 114)) w.heap.size 114 (xP l 0):=by rw[ZL,←zB];exact Cells.new w _ _
 have hB0:Below w.heap.size w (w.alloc (.cells (madeCells #[.int .u64 0] l.length) 114)):=qe
 go_loopw [17] (fun i wr=>∃k:Nat,k<=l.length/\i = .int .i64 k/\Cells wr w.heap.size 114 (xP l k)/\Below w.heap.size w wr) (fun i _=>l.length-(intOf i).toNat)
 case atStart=>exact⟨0,Nat.zero_le _,rfl,hC0,hB0⟩
 case round=>
  clear hC0 hB0
  obtain⟨k,hk,rfl,hR,hB⟩:=hrel
  have k0:(0:Int)<=k:=Int.natCast_nonneg _
  by_cases hlt:k<l.length
  ·have hx:=hget.out k hlt
   have hi:IntKind.i64.wrap ((k:Int)+1)=k+1:=IntWalk.i64_in _ (by omega)
   have k1:(k:Int)<l.length:=by omega
   have KA:=qcm ⟨sa,sn,sc⟩ a k wr (ha2.out.below hB)
   have KB:=qcm ⟨ta,tn,tc⟩ b k wr (hb2.out.below hB)
   have KP:=qhK (a.getD k 0) (b.getD k 0) (zM ha2.out k) (zM hb2.out k) wr
   dsimp only at KA KB
   generalize a.getD k 0=x at *
   generalize b.getD k 0=y at *
   generalize orW x y=z at *
   have q0:wr.cell? ⟨w.heap.size,k,none⟩=some (.int .u64 0):=hR.cell (Je l k hlt)
   have q1:wr.frozen? ⟨w.heap.size,k,none⟩=false:=hR.frozen k
   have q2:Cells (wr.setCell ⟨w.heap.size,k,none⟩ (.int .u64 z)) w.heap.size 114 (xP l (k+1)):=by
    have:=hR.set (j:=k) (.int .u64 z)
    rw[ZM l k z hx] at this;exact this
   have q3:Below w.heap.size w (wr.setCell ⟨w.heap.size,k,none⟩ (.int .u64 z)):=hB.setCell (p:=⟨w.heap.size,k,none⟩) (Nat.le_refl _) _
   clear hx hR hget hfit
   go_wp2_with (first
    |(go_at_call 80;refine KA.mono ?_;clear KA;rintro e W1 ⟨rfl,rfl⟩)
    |(go_at_call 80;refine KB.mono ?_;clear KB;rintro e W1 ⟨rfl,rfl⟩)
    |(go_at_call 158;refine KP.mono ?_;clear KP;rintro e W1 ⟨rfl,rfl⟩))
   exact⟨⟨k+1,by omega,by go_num,q2,q3⟩,by simp[intOf];omega⟩
  ·obtain rfl:k=l.length:=by omega
   have hW:WordsAt wr ⟨some ⟨w.heap.size,0,none⟩,l.length,l.length⟩ l:=
    ⟨rfl,Nat.le_refl _,fun j x hj=>⟨hfit.out j x hj,w.heap.size,0,rfl,by rw[Nat.zero_add];exact hR.cell (Zq hj)⟩,fun b o he=>by cases he;exact⟨_,hR⟩⟩
   have K:=qcn ⟨some ⟨w.heap.size,0,none⟩,l.length,l.length⟩ l wr hW (by omega)
   dsimp only at K
   clear hR hW hget hfit
   go_wp2_with (go_at_call 193;refine K.mono ?_;clear K;rintro e W1 ⟨rfl,⟨qa,qn,qc⟩,k,rfl,h1,h2,h3,h4⟩)
   go_ret
   exact⟨hB,⟨qa,qn,qc⟩,k,rfl,h1,h2,h3,h4⟩
theorem qcp(s t:SlV)(a b:List Nat)(w:World)(ha:WordsAt w s a)(hb:WordsAt w t b)(la:a.length<=1024)(lb:b.length<=1024) :
 Calls Tryz.prog 156 #[.slice s.a s.n s.c,.slice t.a t.n t.c,.func (.func 157) #[] #[]] w (Jf (joinW subW a b) w):=by
 obtain⟨l,hl⟩:∃l,l=joinW subW a b:=⟨_,rfl⟩
 have hlen:l.length=max a.length b.length:=by rw[hl,zL]
 have hget:∀k,k<l.length->l[k]?=some (subW (a.getD k 0) (b.getD k 0)):=fun k hk=>by
  rw[hl,joinW,List.getElem?_map,List.getElem?_range (by omega)];rfl
 have hfit:∀ (j x:Nat),l[j]?=some x->x<18446744073709551616:=fun j x hj=>by
  rw[hget j (List.getElem?_eq_some_iff.1 hj).1] at hj
  cases hj
  exact qgA (zM ha j) (zM hb j)
 rw[←hl]
 have han:=ha.1
 have hbn:=hb.1
 have ha2:=Lib.hid ha
 have hb2:=Lib.hid hb
 replace hget:=Lib.hid hget
 replace hfit:=Lib.hid hfit
 clear ha hb hl
 obtain⟨sa,sn,sc⟩:=s
 obtain⟨ta,tn,tc⟩:=t
 dsimp only at han hbn ⊢
 have hmk:=run_make_row' (P:=Tryz.prog) 84 114 (.int .u64 0) 8 Tryz.underlying84 Tryz.infoU64 rfl .i64 .i64 l.length (by omega) (by omega)
 have e0:max (sn:Int) (tn:Int)=(l.length:Int):=by omega
 rw[←e0] at hmk
 clear han hbn e0
 replace la:l.length<=1024:=by omega
 clear hlen lb
 go_enter Tryz.func156,Tryz.ntmps156
 go_wp2_with fail
 clear hmk
 have hC0:Cells (w.alloc (.cells (madeCells #[.int .u64 0] l.length) 114)) w.heap.size 114 (xP l 0):=by rw[ZL,←zB];exact Cells.new w _ _
 have hB0:Below w.heap.size w (w.alloc (.cells (madeCells #[.int .u64 0] l.length) 114)):=qe
 go_loopw [17] (fun i wr=>∃k:Nat,k<=l.length/\i = .int .i64 k/\Cells wr w.heap.size 114 (xP l k)/\Below w.heap.size w wr) (fun i _=>l.length-(intOf i).toNat)
 case atStart=>exact⟨0,Nat.zero_le _,rfl,hC0,hB0⟩
 case round=>
  clear hC0 hB0
  obtain⟨k,hk,rfl,hR,hB⟩:=hrel
  have k0:(0:Int)<=k:=Int.natCast_nonneg _
  by_cases hlt:k<l.length
  ·have hx:=hget.out k hlt
   have hi:IntKind.i64.wrap ((k:Int)+1)=k+1:=IntWalk.i64_in _ (by omega)
   have k1:(k:Int)<l.length:=by omega
   have KA:=qcm ⟨sa,sn,sc⟩ a k wr (ha2.out.below hB)
   have KB:=qcm ⟨ta,tn,tc⟩ b k wr (hb2.out.below hB)
   have KP:=qhn (a.getD k 0) (b.getD k 0) (zM ha2.out k) (zM hb2.out k) wr
   dsimp only at KA KB
   generalize a.getD k 0=x at *
   generalize b.getD k 0=y at *
   generalize subW x y=z at *
   have q0:wr.cell? ⟨w.heap.size,k,none⟩=some (.int .u64 0):=hR.cell (Je l k hlt)
   have q1:wr.frozen? ⟨w.heap.size,k,none⟩=false:=hR.frozen k
   have q2:Cells (wr.setCell ⟨w.heap.size,k,none⟩ (.int .u64 z)) w.heap.size 114 (xP l (k+1)):=by
    have:=hR.set (j:=k) (.int .u64 z)
    rw[ZM l k z hx] at this;exact this
   have q3:Below w.heap.size w (wr.setCell ⟨w.heap.size,k,none⟩ (.int .u64 z)):=hB.setCell (p:=⟨w.heap.size,k,none⟩) (Nat.le_refl _) _
   clear hx hR hget hfit
   go_wp2_with (first
    |(go_at_call 80;refine KA.mono ?_;clear KA;rintro e W1 ⟨rfl,rfl⟩)
    |(go_at_call 80;refine KB.mono ?_;clear KB;rintro e W1 ⟨rfl,rfl⟩)
    |(go_at_call 157;refine KP.mono ?_;clear KP;rintro e W1 ⟨rfl,rfl⟩))
   exact⟨⟨k+1,by omega,by go_num,q2,q3⟩,by simp[intOf];omega⟩
  ·obtain rfl:k=l.length:=by omega
   have hW:WordsAt wr ⟨some ⟨w.heap.size,0,none⟩,l.length,l.length⟩ l:=
    ⟨rfl,Nat.le_refl _,fun j x hj=>⟨hfit.out j x hj,w.heap.size,0,rfl,by rw[Nat.zero_add];exact hR.cell (Zq hj)⟩,fun b o he=>by cases he;exact⟨_,hR⟩⟩
   have K:=qcn ⟨some ⟨w.heap.size,0,none⟩,l.length,l.length⟩ l wr hW (by omega)
   dsimp only at K
   clear hR hW hget hfit
   go_wp2_with (go_at_call 193;refine K.mono ?_;clear K;rintro e W1 ⟨rfl,⟨qa,qn,qc⟩,k,rfl,h1,h2,h3,h4⟩)
   go_ret
   exact⟨hB,⟨qa,qn,qc⟩,k,rfl,h1,h2,h3,h4⟩end Go.Proofs.YtkoloennfejaaaaGreatDoor
