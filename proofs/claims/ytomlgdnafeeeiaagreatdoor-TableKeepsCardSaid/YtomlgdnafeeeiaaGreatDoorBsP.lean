
import Derived.Test.YtomlgdnafeeeiaaGreatDoorMdOne
import Derived.Laws.Bits64b
set_option maxHeartbeats 1600000
set_option maxRecDepth 100000
/-
 Sets as words;bitset's fits,bit,at,Has,trim,join.
-/
namespace Go.Proofs.YtomlgdnafeeeiaaGreatDoor
open Proofs.Tryz
open Go.RowKit
def jx(ws:List Nat)(n:Nat):Bool:=(ws.getD (n/64) 0).testBit (n%64)
theorem qkB(x k:Nat):x&&&2 ^ k=if x.testBit k=true then 2 ^ k else 0:=by
 apply Nat.eq_of_testBit_eq
 intro i
 rw[Nat.testBit_and,Nat.testBit_two_pow]
 by_cases h:k=i
 ·subst h
  cases hx:x.testBit k
  ·simp
  ·simp[Nat.testBit_two_pow_self]
 ·rw[vF h,Bool.and_false]
  split
  ·rw[Nat.testBit_two_pow,vF h]
  ·simp
theorem qfP(x k:Nat):(((x&&&2 ^ k:Nat):Int) != 0)=x.testBit k:=by
 rw[qkB]
 have h0:0<2 ^ k:=Nat.two_pow_pos k
 generalize 2 ^ k=y at h0 ⊢
 cases hx:x.testBit k
 ·simp
 ·simp only[if_true]
  have:(y:Int)≠0:=by omega
  simpa using this
theorem XV(a b:Nat)(ha:a<18446744073709551616)(hb:b<18446744073709551616) :
 bits .andNot .u64 (a:Int) (b:Int)=((a&&&(18446744073709551615 ^^^ b):Nat):Int):=by
 have hx:a&&&(18446744073709551615 ^^^ b)<2 ^ 64:=Nat.and_lt_two_pow _ (Nat.xor_lt_two_pow (by decide) (by omega))
 have h1:(BitVec.ofInt 64 (a:Int)).toNat=a:=by
  rw[BitVec.ofInt_natCast,BitVec.toNat_ofNat];exact Nat.mod_eq_of_lt (by omega)
 have h2:(BitVec.ofInt 64 (b:Int)).toNat=b:=by
  rw[BitVec.ofInt_natCast,BitVec.toNat_ofNat];exact Nat.mod_eq_of_lt (by omega)
 have h3:(~~~ BitVec.ofInt 64 (b:Int)).toNat=18446744073709551615 ^^^ b:=by
  rw[BitVec.toNat_not,h2]
  apply Nat.eq_of_testBit_eq
  intro i
  rw[Nat.testBit_xor,show(2 ^ 64-1-b:Nat)=2 ^ 64-(b+1) by omega,Nat.testBit_two_pow_sub_succ (by omega),show(18446744073709551615:Nat)=2 ^ 64-1 from rfl,Nat.testBit_two_pow_sub_one]
  by_cases hi:i<64
  ·simp[hi]
  ·have:b.testBit i=false:=Nat.testBit_lt_two_pow (vW (show b<2 ^ 64 by omega) (Nat.pow_le_pow_right (by decide) (by omega)))
   simp[hi,this]
 show IntKind.u64.wrap ((BitVec.ofInt 64 (a:Int) &&& ~~~ BitVec.ofInt 64 (b:Int)).toNat:Int)=_
 rw[BitVec.toNat_and,h1,h3,IntKind.wrap_u64]
 omega
def qbi(a b:Nat):Nat:=a&&&b
def orW(a b:Nat):Nat:=a ||| b
def qaa(a b:Nat):Nat:=a&&&(18446744073709551615 ^^^ b)
theorem qkC{a b:Nat}(_:a<18446744073709551616)(k:b<18446744073709551616):qbi a b<18446744073709551616:=Nat.and_lt_two_pow (n:=64) _ k
theorem qjp{a b:Nat}(h:a<18446744073709551616)(k:b<18446744073709551616):orW a b<18446744073709551616:=Nat.or_lt_two_pow (n:=64) h k
theorem qkD{a b:Nat}(_:a<18446744073709551616)(k:b<18446744073709551616):qaa a b<18446744073709551616:=Nat.and_lt_two_pow (n:=64) _ (Nat.xor_lt_two_pow (by decide) k)
theorem qjq(a b i:Nat):(qbi a b).testBit i=(a.testBit i&&b.testBit i):=Nat.testBit_and _ _ _
theorem qkE(a b i:Nat):(orW a b).testBit i=(a.testBit i||b.testBit i):=Nat.testBit_or _ _ _
theorem qjr{a b i:Nat}(hi:i<64):(qaa a b).testBit i=(a.testBit i && !b.testBit i):=by
 unfold qaa
 rw[Nat.testBit_and,Nat.testBit_xor,show(18446744073709551615:Nat)=2 ^ 64-1 from rfl,Nat.testBit_two_pow_sub_one,vT hi]
 simp
def zE(W:World)(s:SlV)(ws:List Nat):Prop:=
 s.n=ws.length/\s.n<=s.c/\(∀ (j x:Nat),ws[j]?=some x->x<18446744073709551616/\∃b o,s.a=some ⟨b,o,none⟩/\W.cell? ⟨b,o+j,none⟩=some (.int .u64 (x:Int))) /\
  ∀b o,s.a=some ⟨b,o,none⟩->∃cs,qd W b 137 cs
theorem zE.below{W W':World}{s:SlV}{ws:List Nat}(h:zE W s ws)(hb:BX W W'):zE W' s ws:=
 ⟨h.1,h.2.1,fun j x hj=>by obtain⟨h0,b,o,h1,h2⟩:=h.2.2.1 j x hj;exact⟨h0,b,o,h1,qb hb h2⟩,fun b o he=>by obtain⟨cs,hc⟩:=h.2.2.2 b o he;exact⟨cs,hc.below hb hc.lt⟩⟩
def XK(ws:List Nat):Prop:=∀k,ws.length=k+1->ws.getD k 0≠0
def zh(W:World)(s:SlV)(p:Nat->Bool):Prop:=∃ws,zE W s ws/\ws.length<=1024/\XK ws/\∀n,jx ws n=p n
theorem zh.below{W W':World}{s:SlV}{p:Nat->Bool}(h:zh W s p)(hb:BX W W'):zh W' s p:=by
 obtain⟨ws,h1,h2,h3,h4⟩:=h
 exact⟨ws,h1.below hb,h2,h3,h4⟩
theorem zh.none(W:World):zh W ⟨.none,0,0⟩ (fun _=>false):=
 ⟨[],⟨rfl,vL _,fun j x hj=>by simp at hj,fun b o he=>by cases he⟩,by simp,fun k hk=>by simp at hk,fun n=>by simp[jx]⟩
theorem qer{ws:List Nat}{n:Nat}(h:64*ws.length<=n):jx ws n=false:=by
 unfold jx
 rw[vG,List.getElem?_eq_none (by omega)]
 simp
theorem qhG{ws:List Nat}{k:Nat}(h:∀j,k<=j->ws.getD j 0=0)(n:Nat):jx (ws.take k) n=jx ws n:=by
 unfold jx
 by_cases hn:n/64<k
 ·simp only[vG,List.getElem?_take_of_lt hn]
 ·rw[h _ (by omega)]
  simp only[vG]
  rw[List.getElem?_eq_none (by simp;omega)]
  rfl
def jW(f:Nat->Nat->Nat)(a b:List Nat):List Nat:=(List.range (max a.length b.length)).map fun i=>f (a.getD i 0) (b.getD i 0)
theorem Jw{f:Nat->Nat->Nat}(h0:f 0 0=0)(a b:List Nat)(i:Nat):(jW f a b).getD i 0=f (a.getD i 0) (b.getD i 0):=by
 unfold jW
 rw[vG,vY]
 by_cases hi:i<max a.length b.length
 ·rw[List.getElem?_range hi];rfl
 ·rw[List.getElem?_eq_none (by simp;omega)]
  simp only[vG]
  rw[List.getElem?_eq_none (show a.length<=i by omega),List.getElem?_eq_none (show b.length<=i by omega)]
  exact h0.symm
end Go.Proofs.YtomlgdnafeeeiaaGreatDoor
namespace Go.Proofs.YtomlgdnafeeeiaaGreatDoor
open Proofs.Tryz
open Go.RowKit
theorem qfQ(n:Int)(w:World):Calls prog 131 #[.int .i64 n] w fun e w'=>e = .returned (.bool (decide (0<=n)&&decide (n<=65535)))/\w=w':=by
 by_cases h1:0<=n
 ·by_cases h2:n<=65535
  all_goals
   go_enter func131,ntmps131
   go_wp2_with fail
   go_ret
   exact⟨qq (by simp[h1,h2]),rfl⟩
 ·have d1:decide (0<=n)=false:=vF h1
  go_enter func131,ntmps131
  go_wp2_with fail
  go_ret
  exact⟨qq (by first|rfl|(rw[d1];rfl)),rfl⟩
theorem qle(n:Nat)(h:n<=65535)(w:World):Calls prog 132 #[.int .i64 n] w fun e w'=>e = .returned (.int .u64 ((2 ^ (n%64):Nat):Int))/\w=w':=by
 have hw:IntKind.u64.wrap ((2:Int) ^ (n%64))=((2 ^ (n%64):Nat):Int):=by
  rw[IntKind.wrap_u64]
  have h1:2 ^ (n%64)<18446744073709551616:=vW (Nat.pow_lt_pow_right (by decide) (show n%64<64 by omega)) (vL _)
  have h2:((2:Int) ^ (n%64))=((2 ^ (n%64):Nat):Int):=by simp
  rw[h2]
  clear h2
  generalize 2 ^ (n%64)=b at h1 ⊢
  omega
 go_enter func132,ntmps132
 go_wp2_with fail
 go_ret
 exact⟨congrArg (fun v=>Ending.returned (.int .u64 v)) hw,rfl⟩
theorem qfR(s:SlV)(ws:List Nat)(i:Nat)(w:World)(h:zE w s ws):Calls prog 139 #[.slice s.a s.n s.c,.int .i64 i] w fun e w'=>e = .returned (.int .u64 (ws.getD i 0:Nat))/\w=w':=by
 obtain⟨a,n,c⟩:=s
 obtain⟨hn,hc,hx,hty⟩:=h
 dsimp only at hn hc hx ⊢
 subst hn
 clear hty
 have i0:(0:Int)<=i:=vN _
 by_cases hi:i<ws.length
 ·obtain⟨_,b,o,rfl,hcell⟩:=hx i ws[i] (vE hi)
  have hg:ws.getD i 0=ws[i]:=by rw[vG,vE hi];rfl
  have hi2:(i:Int)<ws.length:=by omega
  rw[hg]
  generalize ws[i]=x at *
  clear hx hg
  go_enter func139,ntmps139
  go_wp2_with fail
  go_ret
  exact⟨rfl,rfl⟩
 ·have hg:ws.getD i 0=0:=by rw[vG,List.getElem?_eq_none (by omega)];rfl
  rw[hg]
  clear hx hg
  go_enter func139,ntmps139
  go_wp2_with fail
  go_ret
  exact⟨rfl,rfl⟩
theorem qlJ(s:SlV)(p:Nat->Bool)(n:Int)(w:World)(h:zh w s p) :
 Calls prog 90 #[.agg #[.slice s.a s.n s.c],.int .i64 n] w fun e w'=>e = .returned (.bool (decide (0<=n)&&p n.toNat))/\BX w w':=by
 obtain⟨ws,hW,hlen,_,hp⟩:=h
 have hb:BX w (w.alloc (.cells #[.slice s.a s.n s.c] 83)):=qi
 have KF:=fun W=>qfQ n W
 by_cases h1:0<=n
 ·obtain⟨k,rfl⟩:∃k:Nat,n=k:=⟨n.toNat,by omega⟩
  rw[vT h1,Bool.true_and,Int.toNat_natCast,←hp k]
  rw[vT h1,Bool.true_and] at KF
  by_cases h2:(k:Int)<=65535
  ·rw[vT h2] at KF
   have KA:=fun(i:Nat)=>qfR s ws i _ (hW.below hb)
   have KB:=fun W=>qle k (by omega) W
   have hr:jx ws k=(ws.getD (k/64) 0).testBit (k%64):=rfl
   have hx:ws.getD (k/64) 0<18446744073709551616:=by
    rw[vG]
    cases hg:ws[k/64]? with
    | none=>decide
    | some x=>exact(hW.2.2.1 _ x hg).1
   have hy:2 ^ (k%64)<18446744073709551616:=vW (Nat.pow_lt_pow_right (by decide) (show k%64<64 by omega)) (vL _)
   have KA2:=KA (k/64)
   have hand:=bits_and_u64_nat (ws.getD (k/64) 0) (2 ^ (k%64)) hx hy
   have hne:=qfP (ws.getD (k/64) 0) (k%64)
   rw[←hr] at hne
   obtain⟨q,hq,hq1⟩:∃q:Nat,Hid (q=k/64)/\IntKind.i64.wrap ((k:Int).tdiv 64)=(q:Int):=⟨k/64,vH rfl,by rw[Int.tdiv_eq_ediv_of_nonneg (by omega)];exact vI _ (by omega)⟩
   have hq2:Hid ((k:Int)/64=(q:Int)):=vH (by have:=hq.out;omega)
   rw[←hq.out] at KA2 hand hne hx
   generalize ws.getD q 0=x at *
   generalize 2 ^ (k%64)=y at *
   generalize jx ws k=z at *
   clear hr hp KA hW hlen
   go_enter func90,ntmps90
   go_wp2_with (first
    |(go_at_call 131;refine(KF _).mono ?_;clear KF;rintro e W1 ⟨rfl,rfl⟩)
    |(go_at_call 139;rw[hq2.out];refine KA2.mono ?_;clear KA2;rintro e W1 ⟨rfl,rfl⟩)
    |(go_at_call 132;refine(KB _).mono ?_;clear KB;rintro e W1 ⟨rfl,rfl⟩))
   go_ret
   exact⟨qq (by first|rfl|exact hne),hb⟩
  ·have hf:jx ws k=false:=qer (by omega)
   rw[hf]
   rw[vF h2] at KF
   clear hW hp
   go_enter func90,ntmps90
   go_wp2_with (go_at_call 131;refine(KF _).mono ?_;clear KF;rintro e W1 ⟨rfl,rfl⟩)
   go_ret
   exact⟨rfl,hb⟩
 ·rw[vF h1,Bool.false_and]
  rw[vF h1,Bool.false_and] at KF
  clear hW hp
  go_enter func90,ntmps90
  go_wp2_with (go_at_call 131;refine(KF _).mono ?_;clear KF;rintro e W1 ⟨rfl,rfl⟩)
  go_ret
  exact⟨rfl,hb⟩
def qaP(ws:List Nat)(w:World)(e:Ending)(w':World):Prop:=
 w=w'/\∃ (s:SlV) (k:Nat),e = .returned (.slice s.a s.n s.c)/\k<=ws.length/\zE w s (ws.take k)/\(∀j,k<=j->ws.getD j 0=0)/\XK (ws.take k)
theorem qfS(s:SlV)(ws:List Nat)(w:World)(h:zE w s ws)(hl:ws.length<=100000) :
 Calls prog 176 #[.slice s.a s.n s.c] w (qaP ws w):=by
 obtain⟨a,n,c⟩:=s
 obtain⟨hn,hc,hx,hty⟩:=h
 dsimp only at hn hc hx ⊢
 subst hn
 replace hx:=vH hx
 replace hty:=vH hty
 go_enter func176,ntmps176
 go_wp2_with fail
 go_loop [4] (fun v=>∃k:Nat,k<=ws.length/\v = .int .i64 k/\Hid (∀j,k<=j->ws.getD j 0=0)) (fun v=>(intOf v).toNat)
 case atStart=>exact⟨ws.length,vL _,rfl,vH fun j hj=>by rw[vG,List.getElem?_eq_none hj];rfl⟩
 case round=>
  obtain⟨k,hk,rfl,hz⟩:=hrel
  cases k with
  |zero=>
   have hfin:qaP ws w (.returned (.slice none 0 0)) w:=⟨rfl,⟨none,0,0⟩,0,rfl,vO _,⟨rfl,vL _,fun j x hj=>by simp at hj,fun b o he=>by cases he⟩,hz.out,fun j hj=>by simp at hj⟩
   replace hfin:=vH hfin
   clear hz
   go_wp2_with fail
   go_ret
   exact hfin.out
  |succ j=>
   obtain⟨x,hxj⟩:∃x,ws[j]?=some x:=⟨ws[j],vE (by omega)⟩
   obtain⟨hlt,b,o,rfl,hcell⟩:=hx.out j x hxj
   have hg:ws.getD j 0=x:=by rw[vG,hxj];rfl
   have hs:IntKind.i64.wrap (((j+1:Nat):Int)-1)=j:=by rw[vI _ (by omega)];omega
   have hj1:(0:Int)<((j+1:Nat):Int):=by omega
   have hj2:(j:Int)<ws.length:=by omega
   by_cases h0:x=0
   ·have hz2:Hid (∀j',j<=j'->ws.getD j' 0=0):=vH fun j' hj'=>by
     by_cases he:j'=j
     ·rw[he,hg,h0]
     ·exact hz.out j' (by omega)
    subst h0
    clear hz hg hxj
    go_wp2_with fail
    go_round
    case rel=>exact⟨j,by omega,by go_num,hz2⟩
    case measure=>simp[intOf]
   ·have h1:((x:Int)==0)=false:=by simpa using h0
    have hfin:qaP ws w (.returned (.slice (some ⟨b,o,none⟩) (j+1) c)) w:=⟨rfl,⟨some ⟨b,o,none⟩,j+1,c⟩,j+1,rfl,hk,⟨by simp;omega,by dsimp only;omega,fun i y hi=>hx.out i y (by
     rw[List.getElem?_take] at hi
     split at hi
     ·exact hi
     ·cases hi),fun b' o' he=>hty.out b' o' he⟩,hz.out,fun i hi=>by
      have:i=j:=by simp at hi;omega
      subst this
      rw[vG,List.getElem?_take_of_lt (by omega),hxj]
      exact h0⟩
    replace hfin:=vH hfin
    have hj3:((j+1:Nat):Int)<=c:=by omega
    clear hz hg hxj
    go_wp2_with fail
    go_ret
    exact hfin.out
end Go.Proofs.YtomlgdnafeeeiaaGreatDoor
namespace Go.Proofs.YtomlgdnafeeeiaaGreatDoor
open Proofs.Tryz
open Go.RowKit
theorem qah:(prog.info? 137).map (fun i=>(i.zero,i.size,i.bytes))=some (some (.int .u64 0),1,8):=by kernel_rfl
def yZ(l:List Nat)(k:Nat):Array Value:=((l.take k++List.replicate (l.length-k) 0).map (fun x:Nat=>Value.int .u64 (x:Int))).toArray
theorem YB(l:List Nat):yZ l 0=Array.replicate l.length (.int .u64 0):=by simp[yZ]
theorem YC(l:List Nat)(k x:Nat)(hx:l[k]?=some x):(yZ l k).setIfInBounds k (.int .u64 (x:Int))=yZ l (k+1):=by
 have hlt:k<l.length:=(vS.1 hx).1
 apply Array.ext'
 simp only[yZ,Array.toList_setIfInBounds]
 rw[show l.length-k=(l.length-(k+1))+1 by omega,List.replicate_succ,vX,hx]
 simp only[kM,List.map_cons,Option.toList_some,List.append_assoc,List.cons_append,List.nil_append]
 have hk:(List.map (fun x:Nat=>Value.int .u64 (x:Int)) (List.take k l)).length=k:=by simp;omega
 generalize List.map (fun x:Nat=>Value.int .u64 (x:Int)) (List.take k l)=A at hk ⊢
 rw[List.set_append_right _ _ (by omega),hk,Nat.sub_self];rfl
theorem qaQ(l:List Nat)(k:Nat)(hk:k<l.length):(yZ l k)[k]?=some (.int .u64 0):=by
 have h1:(l.take k).length=k:=by simp;omega
 simp only[yZ,List.getElem?_toArray,vY]
 rw[kR (by omega),h1,Nat.sub_self,List.getElem?_replicate,if_pos (by omega)]
 rfl
theorem JX(l:List Nat):yZ l l.length=(l.map (fun x:Nat=>Value.int .u64 (x:Int))).toArray:=by simp[yZ]
theorem JY{l:List Nat}{j x:Nat}(h:l[j]?=some x):(yZ l l.length)[j]?=some (.int .u64 (x:Int)):=by
 rw[JX,List.getElem?_toArray,vY,h];rfl
theorem jS(f:Nat->Nat->Nat)(a b:List Nat):(jW f a b).length=max a.length b.length:=by simp[jW]
theorem jT{W:World}{s:SlV}{ws:List Nat}(h:zE W s ws)(i:Nat):ws.getD i 0<18446744073709551616:=by
 rw[vG]
 cases hg:ws[i]? with
 | none=>decide
 | some x=>exact(h.2.2.1 _ x hg).1
theorem qlr(a b:Nat)(ha:a<18446744073709551616)(hb:b<18446744073709551616)(w:World):Calls prog 175 #[.int .u64 a,.int .u64 b] w fun e w'=>e = .returned (.int .u64 (qbi a b:Nat))/\w=w':=by
 have hand:=bits_and_u64_nat a b ha hb
 go_enter func175,ntmps175
 go_wp2_with fail
 go_ret
 exact⟨rfl,rfl⟩
theorem qlK(a b:Nat)(ha:a<18446744073709551616)(hb:b<18446744073709551616)(w:World):Calls prog 138 #[.int .u64 a,.int .u64 b] w fun e w'=>e = .returned (.int .u64 (orW a b:Nat))/\w=w':=by
 have hand:=bits_or_u64_nat a b ha hb
 go_enter func138,ntmps138
 go_wp2_with fail
 go_ret
 exact⟨rfl,rfl⟩
theorem qls(a b:Nat)(ha:a<18446744073709551616)(hb:b<18446744073709551616)(w:World):Calls prog 137 #[.int .u64 a,.int .u64 b] w fun e w'=>e = .returned (.int .u64 (qaa a b:Nat))/\w=w':=by
 have hand:=XV a b ha hb
 go_enter func137,ntmps137
 go_wp2_with fail
 go_ret
 exact⟨rfl,rfl⟩
def qaR(l:List Nat)(w:World)(e:Ending)(w':World):Prop:=
 BX w w'/\∃ (s:SlV) (k:Nat),e = .returned (.slice s.a s.n s.c)/\k<=l.length/\zE w' s (l.take k)/\(∀j,k<=j->l.getD j 0=0)/\XK (l.take k)
theorem qfT(s t:SlV)(a b:List Nat)(w:World)(ha:zE w s a)(hb:zE w t b)(la:a.length<=1024)(lb:b.length<=1024) :
 Calls prog 136 #[.slice s.a s.n s.c,.slice t.a t.n t.c,.func (.func 175) #[] #[]] w (qaR (jW qbi a b) w):=by
 obtain⟨l,hl⟩:∃l,l=jW qbi a b:=⟨_,rfl⟩
 have hlen:l.length=max a.length b.length:=by rw[hl,jS]
 have hget:∀k,k<l.length->l[k]?=some (qbi (a.getD k 0) (b.getD k 0)):=fun k hk=>by
  rw[hl,jW,vY,List.getElem?_range (by omega)];rfl
 have hfit:∀ (j x:Nat),l[j]?=some x->x<18446744073709551616:=fun j x hj=>by
  rw[hget j (vS.1 hj).1] at hj
  cases hj
  exact qkC (jT ha j) (jT hb j)
 rw[←hl]
 have han:=ha.1
 have hbn:=hb.1
 have ha2:=vH ha
 have hb2:=vH hb
 replace hget:=vH hget
 replace hfit:=vH hfit
 clear ha hb hl
 obtain⟨sa,sn,sc⟩:=s
 obtain⟨ta,tn,tc⟩:=t
 dsimp only at han hbn ⊢
 have hmk:=run_make_row' (P:=prog) 81 137 (.int .u64 0) 8 underlying81 qah rfl .i64 .i64 l.length (by omega) (by omega)
 have e0:max (sn:Int) (tn:Int)=(l.length:Int):=by omega
 rw[←e0] at hmk
 clear han hbn e0
 replace la:l.length<=1024:=by omega
 clear hlen lb
 go_enter func136,ntmps136
 go_wp2_with fail
 clear hmk
 have hC0:qd (w.alloc (.cells (madeCells #[.int .u64 0] l.length) 137)) w.heap.size 137 (yZ l 0):=by rw[YB,←jz];exact qd.new w _ _
 have hB0:BX w (w.alloc (.cells (madeCells #[.int .u64 0] l.length) 137)):=qi
 go_loopw [17] (fun i wr=>∃k:Nat,k<=l.length/\i = .int .i64 k/\qd wr w.heap.size 137 (yZ l k)/\BX w wr) (fun i _=>l.length-(intOf i).toNat)
 case atStart=>exact⟨0,vO _,rfl,hC0,hB0⟩
 case round=>
  clear hC0 hB0
  obtain⟨k,hk,rfl,hR,hB⟩:=hrel
  have k0:(0:Int)<=k:=vN _
  by_cases hlt:k<l.length
  ·have hx:=hget.out k hlt
   have hi:IntKind.i64.wrap ((k:Int)+1)=k+1:=vI _ (by omega)
   have k1:(k:Int)<l.length:=by omega
   have KA:=qfR ⟨sa,sn,sc⟩ a k wr (ha2.out.below hB)
   have KB:=qfR ⟨ta,tn,tc⟩ b k wr (hb2.out.below hB)
   have KP:=qlr (a.getD k 0) (b.getD k 0) (jT ha2.out k) (jT hb2.out k) wr
   dsimp only at KA KB
   generalize a.getD k 0=x at *
   generalize b.getD k 0=y at *
   generalize qbi x y=z at *
   have q0:wr.cell? ⟨w.heap.size,k,none⟩=some (.int .u64 0):=hR.cell (qaQ l k hlt)
   have q1:wr.frozen? ⟨w.heap.size,k,none⟩=false:=hR.frozen k
   have q2:qd (wr.setCell ⟨w.heap.size,k,none⟩ (.int .u64 z)) w.heap.size 137 (yZ l (k+1)):=by
    have:=hR.set (j:=k) (.int .u64 z)
    rw[YC l k z hx] at this;exact this
   have q3:BX w (wr.setCell ⟨w.heap.size,k,none⟩ (.int .u64 z)):=hB.setCell (p:=⟨w.heap.size,k,none⟩) (vL _) _
   clear hx hR hget hfit
   go_wp2_with (first
    |(go_at_call 139;refine KA.mono ?_;clear KA;rintro e W1 ⟨rfl,rfl⟩)
    |(go_at_call 139;refine KB.mono ?_;clear KB;rintro e W1 ⟨rfl,rfl⟩)
    |(go_at_call 175;refine KP.mono ?_;clear KP;rintro e W1 ⟨rfl,rfl⟩))
   exact⟨⟨k+1,by omega,by go_num,q2,q3⟩,by simp[intOf];omega⟩
  ·obtain rfl:k=l.length:=by omega
   have hW:zE wr ⟨some ⟨w.heap.size,0,none⟩,l.length,l.length⟩ l:=
    ⟨rfl,vL _,fun j x hj=>⟨hfit.out j x hj,w.heap.size,0,rfl,by rw[Nat.zero_add];exact hR.cell (JY hj)⟩,fun b o he=>by cases he;exact⟨_,hR⟩⟩
   have K:=qfS ⟨some ⟨w.heap.size,0,none⟩,l.length,l.length⟩ l wr hW (by omega)
   dsimp only at K
   clear hR hW hget hfit
   go_wp2_with (go_at_call 176;refine K.mono ?_;clear K;rintro e W1 ⟨rfl,⟨qa,qn,qc⟩,k,rfl,h1,h2,h3,h4⟩)
   go_ret
   exact⟨hB,⟨qa,qn,qc⟩,k,rfl,h1,h2,h3,h4⟩
theorem qhH(s t:SlV)(a b:List Nat)(w:World)(ha:zE w s a)(hb:zE w t b)(la:a.length<=1024)(lb:b.length<=1024) :
 Calls prog 136 #[.slice s.a s.n s.c,.slice t.a t.n t.c,.func (.func 138) #[] #[]] w (qaR (jW orW a b) w):=by
 obtain⟨l,hl⟩:∃l,l=jW orW a b:=⟨_,rfl⟩
 have hlen:l.length=max a.length b.length:=by rw[hl,jS]
 have hget:∀k,k<l.length->l[k]?=some (orW (a.getD k 0) (b.getD k 0)):=fun k hk=>by
  rw[hl,jW,vY,List.getElem?_range (by omega)];rfl
 have hfit:∀ (j x:Nat),l[j]?=some x->x<18446744073709551616:=fun j x hj=>by
  rw[hget j (vS.1 hj).1] at hj
  cases hj
  exact qjp (jT ha j) (jT hb j)
 rw[←hl]
 have han:=ha.1
 have hbn:=hb.1
 have ha2:=vH ha
 have hb2:=vH hb
 replace hget:=vH hget
 replace hfit:=vH hfit
 clear ha hb hl
 obtain⟨sa,sn,sc⟩:=s
 obtain⟨ta,tn,tc⟩:=t
 dsimp only at han hbn ⊢
 have hmk:=run_make_row' (P:=prog) 81 137 (.int .u64 0) 8 underlying81 qah rfl .i64 .i64 l.length (by omega) (by omega)
 have e0:max (sn:Int) (tn:Int)=(l.length:Int):=by omega
 rw[←e0] at hmk
 clear han hbn e0
 replace la:l.length<=1024:=by omega
 clear hlen lb
 go_enter func136,ntmps136
 go_wp2_with fail
 clear hmk
 have hC0:qd (w.alloc (.cells (madeCells #[.int .u64 0] l.length) 137)) w.heap.size 137 (yZ l 0):=by rw[YB,←jz];exact qd.new w _ _
 have hB0:BX w (w.alloc (.cells (madeCells #[.int .u64 0] l.length) 137)):=qi
 go_loopw [17] (fun i wr=>∃k:Nat,k<=l.length/\i = .int .i64 k/\qd wr w.heap.size 137 (yZ l k)/\BX w wr) (fun i _=>l.length-(intOf i).toNat)
 case atStart=>exact⟨0,vO _,rfl,hC0,hB0⟩
 case round=>
  clear hC0 hB0
  obtain⟨k,hk,rfl,hR,hB⟩:=hrel
  have k0:(0:Int)<=k:=vN _
  by_cases hlt:k<l.length
  ·have hx:=hget.out k hlt
   have hi:IntKind.i64.wrap ((k:Int)+1)=k+1:=vI _ (by omega)
   have k1:(k:Int)<l.length:=by omega
   have KA:=qfR ⟨sa,sn,sc⟩ a k wr (ha2.out.below hB)
   have KB:=qfR ⟨ta,tn,tc⟩ b k wr (hb2.out.below hB)
   have KP:=qlK (a.getD k 0) (b.getD k 0) (jT ha2.out k) (jT hb2.out k) wr
   dsimp only at KA KB
   generalize a.getD k 0=x at *
   generalize b.getD k 0=y at *
   generalize orW x y=z at *
   have q0:wr.cell? ⟨w.heap.size,k,none⟩=some (.int .u64 0):=hR.cell (qaQ l k hlt)
   have q1:wr.frozen? ⟨w.heap.size,k,none⟩=false:=hR.frozen k
   have q2:qd (wr.setCell ⟨w.heap.size,k,none⟩ (.int .u64 z)) w.heap.size 137 (yZ l (k+1)):=by
    have:=hR.set (j:=k) (.int .u64 z)
    rw[YC l k z hx] at this;exact this
   have q3:BX w (wr.setCell ⟨w.heap.size,k,none⟩ (.int .u64 z)):=hB.setCell (p:=⟨w.heap.size,k,none⟩) (vL _) _
   clear hx hR hget hfit
   go_wp2_with (first
    |(go_at_call 139;refine KA.mono ?_;clear KA;rintro e W1 ⟨rfl,rfl⟩)
    |(go_at_call 139;refine KB.mono ?_;clear KB;rintro e W1 ⟨rfl,rfl⟩)
    |(go_at_call 138;refine KP.mono ?_;clear KP;rintro e W1 ⟨rfl,rfl⟩))
   exact⟨⟨k+1,by omega,by go_num,q2,q3⟩,by simp[intOf];omega⟩
  ·obtain rfl:k=l.length:=by omega
   have hW:zE wr ⟨some ⟨w.heap.size,0,none⟩,l.length,l.length⟩ l:=
    ⟨rfl,vL _,fun j x hj=>⟨hfit.out j x hj,w.heap.size,0,rfl,by rw[Nat.zero_add];exact hR.cell (JY hj)⟩,fun b o he=>by cases he;exact⟨_,hR⟩⟩
   have K:=qfS ⟨some ⟨w.heap.size,0,none⟩,l.length,l.length⟩ l wr hW (by omega)
   dsimp only at K
   clear hR hW hget hfit
   go_wp2_with (go_at_call 176;refine K.mono ?_;clear K;rintro e W1 ⟨rfl,⟨qa,qn,qc⟩,k,rfl,h1,h2,h3,h4⟩)
   go_ret
   exact⟨hB,⟨qa,qn,qc⟩,k,rfl,h1,h2,h3,h4⟩
theorem qfU(s t:SlV)(a b:List Nat)(w:World)(ha:zE w s a)(hb:zE w t b)(la:a.length<=1024)(lb:b.length<=1024) :
 Calls prog 136 #[.slice s.a s.n s.c,.slice t.a t.n t.c,.func (.func 137) #[] #[]] w (qaR (jW qaa a b) w):=by
 obtain⟨l,hl⟩:∃l,l=jW qaa a b:=⟨_,rfl⟩
 have hlen:l.length=max a.length b.length:=by rw[hl,jS]
 have hget:∀k,k<l.length->l[k]?=some (qaa (a.getD k 0) (b.getD k 0)):=fun k hk=>by
  rw[hl,jW,vY,List.getElem?_range (by omega)];rfl
 have hfit:∀ (j x:Nat),l[j]?=some x->x<18446744073709551616:=fun j x hj=>by
  rw[hget j (vS.1 hj).1] at hj
  cases hj
  exact qkD (jT ha j) (jT hb j)
 rw[←hl]
 have han:=ha.1
 have hbn:=hb.1
 have ha2:=vH ha
 have hb2:=vH hb
 replace hget:=vH hget
 replace hfit:=vH hfit
 clear ha hb hl
 obtain⟨sa,sn,sc⟩:=s
 obtain⟨ta,tn,tc⟩:=t
 dsimp only at han hbn ⊢
 have hmk:=run_make_row' (P:=prog) 81 137 (.int .u64 0) 8 underlying81 qah rfl .i64 .i64 l.length (by omega) (by omega)
 have e0:max (sn:Int) (tn:Int)=(l.length:Int):=by omega
 rw[←e0] at hmk
 clear han hbn e0
 replace la:l.length<=1024:=by omega
 clear hlen lb
 go_enter func136,ntmps136
 go_wp2_with fail
 clear hmk
 have hC0:qd (w.alloc (.cells (madeCells #[.int .u64 0] l.length) 137)) w.heap.size 137 (yZ l 0):=by rw[YB,←jz];exact qd.new w _ _
 have hB0:BX w (w.alloc (.cells (madeCells #[.int .u64 0] l.length) 137)):=qi
 go_loopw [17] (fun i wr=>∃k:Nat,k<=l.length/\i = .int .i64 k/\qd wr w.heap.size 137 (yZ l k)/\BX w wr) (fun i _=>l.length-(intOf i).toNat)
 case atStart=>exact⟨0,vO _,rfl,hC0,hB0⟩
 case round=>
  clear hC0 hB0
  obtain⟨k,hk,rfl,hR,hB⟩:=hrel
  have k0:(0:Int)<=k:=vN _
  by_cases hlt:k<l.length
  ·have hx:=hget.out k hlt
   have hi:IntKind.i64.wrap ((k:Int)+1)=k+1:=vI _ (by omega)
   have k1:(k:Int)<l.length:=by omega
   have KA:=qfR ⟨sa,sn,sc⟩ a k wr (ha2.out.below hB)
   have KB:=qfR ⟨ta,tn,tc⟩ b k wr (hb2.out.below hB)
   have KP:=qls (a.getD k 0) (b.getD k 0) (jT ha2.out k) (jT hb2.out k) wr
   dsimp only at KA KB
   generalize a.getD k 0=x at *
   generalize b.getD k 0=y at *
   generalize qaa x y=z at *
   have q0:wr.cell? ⟨w.heap.size,k,none⟩=some (.int .u64 0):=hR.cell (qaQ l k hlt)
   have q1:wr.frozen? ⟨w.heap.size,k,none⟩=false:=hR.frozen k
   have q2:qd (wr.setCell ⟨w.heap.size,k,none⟩ (.int .u64 z)) w.heap.size 137 (yZ l (k+1)):=by
    have:=hR.set (j:=k) (.int .u64 z)
    rw[YC l k z hx] at this;exact this
   have q3:BX w (wr.setCell ⟨w.heap.size,k,none⟩ (.int .u64 z)):=hB.setCell (p:=⟨w.heap.size,k,none⟩) (vL _) _
   clear hx hR hget hfit
   go_wp2_with (first
    |(go_at_call 139;refine KA.mono ?_;clear KA;rintro e W1 ⟨rfl,rfl⟩)
    |(go_at_call 139;refine KB.mono ?_;clear KB;rintro e W1 ⟨rfl,rfl⟩)
    |(go_at_call 137;refine KP.mono ?_;clear KP;rintro e W1 ⟨rfl,rfl⟩))
   exact⟨⟨k+1,by omega,by go_num,q2,q3⟩,by simp[intOf];omega⟩
  ·obtain rfl:k=l.length:=by omega
   have hW:zE wr ⟨some ⟨w.heap.size,0,none⟩,l.length,l.length⟩ l:=
    ⟨rfl,vL _,fun j x hj=>⟨hfit.out j x hj,w.heap.size,0,rfl,by rw[Nat.zero_add];exact hR.cell (JY hj)⟩,fun b o he=>by cases he;exact⟨_,hR⟩⟩
   have K:=qfS ⟨some ⟨w.heap.size,0,none⟩,l.length,l.length⟩ l wr hW (by omega)
   dsimp only at K
   clear hR hW hget hfit
   go_wp2_with (go_at_call 176;refine K.mono ?_;clear K;rintro e W1 ⟨rfl,⟨qa,qn,qc⟩,k,rfl,h1,h2,h3,h4⟩)
   go_ret
   exact⟨hB,⟨qa,qn,qc⟩,k,rfl,h1,h2,h3,h4⟩end Go.Proofs.YtomlgdnafeeeiaaGreatDoor
