
import Derived.Test.YtomlgdnafeeeiaaGreatDoorBsQ
set_option maxHeartbeats 1600000
set_option maxRecDepth 100000
/-
 table's row of registers;its Lap,Name,Place.
-/
namespace Go.Proofs.YtomlgdnafeeeiaaGreatDoor
open Proofs.Tryz
open Go.RowKit
structure qY where
 name:ByteArray
 root:Int
 at_:Int
 width:Int
 laps:SlV
def qY.v(x:qY):Array Value:=#[.string x.name,.int .i64 x.root,.int .i64 x.at_,.int .i64 x.width,.slice x.laps.a x.laps.n x.laps.c]
def qY.none:qY:=⟨⟨#[]⟩,0,0,0,⟨.none,0,0⟩⟩
def xH(W:World)(s:SlV)(l:List qY):Prop:=
 s.n=l.length/\s.n<=s.c/\∀ (j:Nat) (x:qY),l[j]?=some x->∃b o,s.a=some ⟨b,o,Option.none⟩/\W.cell? ⟨b,o+j*5,Option.none⟩=some (.string x.name)/\W.cell? ⟨b,o+j*5+1,Option.none⟩=some (.int .i64 x.root)/\W.cell? ⟨b,o+j*5+2,Option.none⟩=some (.int .i64 x.at_)/\W.cell? ⟨b,o+j*5+3,Option.none⟩=some (.int .i64 x.width)/\W.cell? ⟨b,o+j*5+4,Option.none⟩=some (.slice x.laps.a x.laps.n x.laps.c)
theorem JZ(s:SlV)(m:Value)(l:List qY)(n:Int)(w:World)(h:xH w s l) :
 Calls prog 45 #[.agg #[.slice s.a s.n s.c,m],.int .i64 n] w fun e w'=>e = .returned (.agg (if 0<=n then l.getD n.toNat qY.none else qY.none).v)/\BX w w':=by
 obtain⟨a,k,c⟩:=s
 obtain⟨hn,hc,hx⟩:=h
 dsimp only at hn hc hx ⊢
 subst hn
 by_cases h0:0<=n
 ·obtain⟨j,rfl⟩:∃j:Nat,n=j:=⟨n.toNat,by omega⟩
  rw[if_pos h0,Int.toNat_natCast]
  by_cases hlt:j<l.length
  ·obtain⟨b,o,rfl,c0,c1,c2,c3,c4⟩:=hx j l[j] (vE hlt)
   have hg:l.getD j qY.none=l[j]:=by rw[vG,vE hlt];rfl
   rw[hg]
   have k1:(j:Int)<l.length:=by omega
   generalize l[j]=x at *
   obtain⟨xn,xr,xa,xw,⟨la,ln,lc⟩⟩:=x
   dsimp only at c0 c1 c2 c3 c4
   have hB:BX w ((w.alloc (.cells #[.slice (some ⟨b,o,Option.none⟩) l.length c,m] 74)).alloc (.cells qY.none.v 95)):=qi.alloc (by simp) _
   have d0:=qb hB c0
   have d1:=qb hB c1
   have d2:=qb hB c2
   have d3:=qb hB c3
   have d4:=qb hB c4
   simp only[qY.none,qY.v] at d0 d1 d2 d3 d4
   clear hx hg c0 c1 c2 c3 c4
   go_enter func45,ntmps45
   go_wp2_with fail
   (try simp only[Exit.inBlock,Exit.then])
   refine bodyPost_ret (v:=.agg (qY.mk xn xr xa xw ⟨la,ln,lc⟩).v) ?_ rfl ⟨rfl,?_⟩
   ·rw[qO rfl]
    go_simp
    rfl
   ·(repeat' (first|exact kB _ _|refine Below.setCell ?_ (by simp) _|refine Below.alloc ?_ (by simp <;> omega) _))
  ·have hg:l.getD j qY.none=qY.none:=by rw[vG,List.getElem?_eq_none (by omega)];rfl
   rw[hg]
   clear hx hg
   go_enter func45,ntmps45
   go_wp2_with fail
   (try simp only[Exit.inBlock,Exit.then])
   refine bodyPost_ret (v:=.agg qY.none.v) ?_ rfl ⟨rfl,?_⟩
   ·rw[qO rfl]
    go_simp
    rfl
   ·(repeat' (first|exact kB _ _|refine Below.setCell ?_ (by simp) _|refine Below.alloc ?_ (by simp <;> omega) _))
 ·rw[if_neg h0]
  clear hx
  go_enter func45,ntmps45
  go_wp2_with fail
  (try simp only[Exit.inBlock,Exit.then])
  refine bodyPost_ret (v:=.agg qY.none.v) ?_ rfl ⟨rfl,?_⟩
  ·rw[qO rfl]
   go_simp
   rfl
  ·(repeat' (first|exact kB _ _|refine Below.setCell ?_ (by simp) _|refine Below.alloc ?_ (by simp <;> omega) _))
theorem qhI(xn:ByteArray)(xr xa xw:Int)(la:Option Addr)(ln lc:Nat)(w:World):(Instr.field 95 (.agg #[.string xn,.int .i64 xr,.int .i64 xa,.int .i64 xw,.slice la ln lc]) 0).run prog w = .ok (.string xn) w:=by kernel_rfl
theorem qhJ(xn:ByteArray)(xr xa xw:Int)(la:Option Addr)(ln lc:Nat)(w:World):(Instr.field 95 (.agg #[.string xn,.int .i64 xr,.int .i64 xa,.int .i64 xw,.slice la ln lc]) 1).run prog w = .ok (.agg #[.int .i64 xr,.int .i64 xa,.int .i64 xw]) w:=by kernel_rfl
theorem qcc(xn:ByteArray)(xr xa xw:Int)(la:Option Addr)(ln lc:Nat)(w:World):(Instr.field 95 (.agg #[.string xn,.int .i64 xr,.int .i64 xa,.int .i64 xw,.slice la ln lc]) 2).run prog w = .ok (.agg #[.slice la ln lc]) w:=by kernel_rfl
theorem xH.below{W W':World}{s:SlV}{l:List qY}(h:xH W s l)(hb:BX W W'):xH W' s l:=
 ⟨h.1,h.2.1,fun j x hj=>by obtain⟨b,o,h1,h2,h3,h4,h5,h6⟩:=h.2.2 j x hj;exact⟨b,o,h1,qb hb h2,qb hb h3,qb hb h4,qb hb h5,qb hb h6⟩⟩
def zJ(l:List qY)(n:Int):qY:=if 0<=n then l.getD n.toNat qY.none else qY.none
theorem qkI(C:Nat)(s:SlV)(m:Value)(l:List qY)(a:Int)(w:World)
 (h8:w.cell? ⟨C,8,none⟩=some (.slice s.a s.n s.c)) (h9:w.cell? ⟨C,9,none⟩=some m) (hl:xH w s l) :
 Calls prog 39 #[.pointer (some ⟨C,0,none⟩),.int .i64 a] w fun e w'=>e = .returned (.string (zJ l a).name)/\BX w w':=by
 have K:=JZ s m l a w hl
 rw[←zJ] at K
 generalize zJ l a=x at *
 obtain⟨xn,xr,xa,xw,⟨la,ln,lc⟩⟩:=x
 simp only[qY.v] at K
 clear hl
 have hfd:=qhI xn xr xa xw la ln lc
 go_enter func39,ntmps39
 go_wp2_with (go_at_call 45;refine K.mono ?_;clear K;rintro e W1 ⟨rfl,hb⟩)
 go_ret
 exact⟨rfl,hb⟩
theorem qaS(C:Nat)(s:SlV)(m:Value)(l:List qY)(a:Int)(w:World)
 (h8:w.cell? ⟨C,8,none⟩=some (.slice s.a s.n s.c)) (h9:w.cell? ⟨C,9,none⟩=some m) (hl:xH w s l) :
 Calls prog 40 #[.pointer (some ⟨C,0,none⟩),.int .i64 a] w fun e w'=>e = .returned (.agg #[.int .i64 (zJ l a).root,.int .i64 (zJ l a).at_,.int .i64 (zJ l a).width])/\BX w w':=by
 have hB:BX w (w.alloc (.cells #[.int .i64 0,.int .i64 0,.int .i64 0] 87)):=qi
 have K:=JZ s m l a _ (hl.below hB)
 have hC:=qd.new w 87 #[.int .i64 0,.int .i64 0,.int .i64 0]
 replace h8:=qb hB h8
 replace h9:=qb hB h9
 rw[←zJ] at K
 generalize zJ l a=x at *
 obtain⟨xn,xr,xa,xw,⟨la,ln,lc⟩⟩:=x
 simp only[qY.v] at K
 clear hl
 have hfd:=qhJ xn xr xa xw la ln lc
 go_enter func40,ntmps40
 go_wp2_with (go_at_call 45;refine K.mono ?_;clear K;rintro e W1 ⟨rfl,hb⟩;have hC1:=hC.below hb hC.lt;have c0:=hC1.cell (j:=0) rfl;have c1:=hC1.cell (j:=1) rfl;have c2:=hC1.cell (j:=2) rfl;have f0:=hC1.frozen 0;have f1:=hC1.frozen 1;have f2:=hC1.frozen 2;have hb1:=hB.trans (hb.mono hB.size);clear hC hC1)
 (try simp only[Exit.inBlock,Exit.then])
 refine bodyPost_ret (v:=.agg #[.int .i64 xr,.int .i64 xa,.int .i64 xw]) ?_ rfl ⟨rfl,?_⟩
 ·rw[qO rfl]
  go_simp
 ·(repeat' (first|exact hb1|refine Below.setCell ?_ (by simp) _))
end Go.Proofs.YtomlgdnafeeeiaaGreatDoor
