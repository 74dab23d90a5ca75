/-
  table's row of registers; its Lap, Name, Place.
-/
import Derived.Test.YtkoloennfejaaaaGreatDoorBsQ
set_option maxHeartbeats 1600000
set_option maxRecDepth 100000
namespace Go.Proofs.YtkoloennfejaaaaGreatDoor
open Go.RowKit
structure RegT where
 name:ByteArray
 root:Int
 at_:Int
 width:Int
 laps:SlV
def RegT.v(x:RegT):Array Value:=#[.string x.name,.int .i64 x.root,.int .i64 x.at_,.int .i64 x.width,.slice x.laps.a x.laps.n x.laps.c]
def RegT.none:RegT:=⟨⟨#[]⟩,0,0,0,⟨.none,0,0⟩⟩
def zr(W:World)(s:SlV)(l:List RegT):Prop:=
 s.n=l.length/\s.n<=s.c/\∀ (j:Nat) (x:RegT),l[j]?=some x->∃b o,s.a=some ⟨b,o,Option.none⟩/\W.cell? ⟨b,o+j*5,Option.none⟩=some (.string x.name)/\W.cell? ⟨b,o+j*5+1,Option.none⟩=some (.int .i64 x.root)/\W.cell? ⟨b,o+j*5+2,Option.none⟩=some (.int .i64 x.at_)/\W.cell? ⟨b,o+j*5+3,Option.none⟩=some (.int .i64 x.width)/\W.cell? ⟨b,o+j*5+4,Option.none⟩=some (.slice x.laps.a x.laps.n x.laps.c)
theorem Zr(s:SlV)(m:Value)(l:List RegT)(n:Int)(w:World)(h:zr w s l) :
 Calls Tryz.prog 77 #[.agg #[.slice s.a s.n s.c,m],.int .i64 n] w fun e w'=>e = .returned (.agg (if 0<=n then l.getD n.toNat RegT.none else RegT.none).v)/\Below w.heap.size w w':=by
 obtain⟨a,k,c⟩:=s
 obtain⟨hn,hc,hx⟩:=h
 dsimp only at hn hc hx ⊢
 subst hn
 by_cases h0:0<=n
 ·obtain⟨j,rfl⟩:∃j:Nat,n=j:=⟨n.toNat,by omega⟩
  rw[if_pos h0,Int.toNat_natCast]
  by_cases hlt:j<l.length
  ·obtain⟨b,o,rfl,c0,c1,c2,c3,c4⟩:=hx j l[j] (List.getElem?_eq_getElem hlt)
   have hg:l.getD j RegT.none=l[j]:=by rw[List.getD_eq_getElem?_getD,List.getElem?_eq_getElem hlt];rfl
   rw[hg]
   have k1:(j:Int)<l.length:=by omega
   generalize l[j]=x at *
   obtain⟨xn,xr,xa,xw,⟨la,ln,lc⟩⟩:=x
   dsimp only at c0 c1 c2 c3 c4
   have hB:Below w.heap.size w ((w.alloc (.cells #[.slice (some ⟨b,o,Option.none⟩) l.length c,m] 77)).alloc (.cells RegT.none.v 112)):=qe.alloc (by simp) _
   have d0:=cell_below hB c0
   have d1:=cell_below hB c1
   have d2:=cell_below hB c2
   have d3:=cell_below hB c3
   have d4:=cell_below hB c4
   simp only[RegT.none,RegT.v] at d0 d1 d2 d3 d4
   clear hx hg c0 c1 c2 c3 c4
   go_enter Tryz.func77,Tryz.ntmps77
   go_wp2_with fail
   (try simp only[Exit.inBlock,Exit.then])
   refine bodyPost_ret (v:=.agg (RegT.mk xn xr xa xw ⟨la,ln,lc⟩).v) ?_ rfl ⟨rfl,?_⟩
   ·rw[qr rfl]
    go_simp
    rfl
   ·(repeat' (first|exact Below.refl _ _|refine Below.setCell ?_ (by simp) _|refine Below.alloc ?_ (by simp <;> omega) _))
  ·have hg:l.getD j RegT.none=RegT.none:=by rw[List.getD_eq_getElem?_getD,List.getElem?_eq_none (by omega)];rfl
   rw[hg]
   clear hx hg
   go_enter Tryz.func77,Tryz.ntmps77
   go_wp2_with fail
   (try simp only[Exit.inBlock,Exit.then])
   refine bodyPost_ret (v:=.agg RegT.none.v) ?_ rfl ⟨rfl,?_⟩
   ·rw[qr rfl]
    go_simp
    rfl
   ·(repeat' (first|exact Below.refl _ _|refine Below.setCell ?_ (by simp) _|refine Below.alloc ?_ (by simp <;> omega) _))
 ·rw[if_neg h0]
  clear hx
  go_enter Tryz.func77,Tryz.ntmps77
  go_wp2_with fail
  (try simp only[Exit.inBlock,Exit.then])
  refine bodyPost_ret (v:=.agg RegT.none.v) ?_ rfl ⟨rfl,?_⟩
  ·rw[qr rfl]
   go_simp
   rfl
  ·(repeat' (first|exact Below.refl _ _|refine Below.setCell ?_ (by simp) _|refine Below.alloc ?_ (by simp <;> omega) _))
theorem Tryz.regField0(xn:ByteArray)(xr xa xw:Int)(la:Option Addr)(ln lc:Nat)(w:World):(Instr.field 112 (.agg #[.string xn,.int .i64 xr,.int .i64 xa,.int .i64 xw,.slice la ln lc]) 0).run Tryz.prog w = .ok (.string xn) w:=by kernel_rfl
theorem Tryz.regField1(xn:ByteArray)(xr xa xw:Int)(la:Option Addr)(ln lc:Nat)(w:World):(Instr.field 112 (.agg #[.string xn,.int .i64 xr,.int .i64 xa,.int .i64 xw,.slice la ln lc]) 1).run Tryz.prog w = .ok (.agg #[.int .i64 xr,.int .i64 xa,.int .i64 xw]) w:=by kernel_rfl
theorem Tryz.regField2(xn:ByteArray)(xr xa xw:Int)(la:Option Addr)(ln lc:Nat)(w:World):(Instr.field 112 (.agg #[.string xn,.int .i64 xr,.int .i64 xa,.int .i64 xw,.slice la ln lc]) 2).run Tryz.prog w = .ok (.agg #[.slice la ln lc]) w:=by kernel_rfl
theorem zr.below{W W':World}{s:SlV}{l:List RegT}(h:zr W s l)(hb:Below W.heap.size W W'):zr W' s l:=
 ⟨h.1,h.2.1,fun j x hj=>by obtain⟨b,o,h1,h2,h3,h4,h5,h6⟩:=h.2.2 j x hj;exact⟨b,o,h1,cell_below hb h2,cell_below hb h3,cell_below hb h4,cell_below hb h5,cell_below hb h6⟩⟩
def regAtN(l:List RegT)(n:Int):RegT:=if 0<=n then l.getD n.toNat RegT.none else RegT.none
theorem qhV(C:Nat)(s:SlV)(m:Value)(l:List RegT)(a:Int)(w:World)
 (h8:w.cell? ⟨C,8,none⟩=some (.slice s.a s.n s.c)) (h9:w.cell? ⟨C,9,none⟩=some m) (hl:zr w s l) :
 Calls Tryz.prog 73 #[.pointer (some ⟨C,0,none⟩),.int .i64 a] w fun e w'=>e = .returned (.string (regAtN l a).name)/\Below w.heap.size w w':=by
 have K:=Zr s m l a w hl
 rw[←regAtN] at K
 generalize regAtN l a=x at *
 obtain⟨xn,xr,xa,xw,⟨la,ln,lc⟩⟩:=x
 simp only[RegT.v] at K
 clear hl
 have hfd:=Tryz.regField0 xn xr xa xw la ln lc
 go_enter Tryz.func73,Tryz.ntmps73
 go_wp2_with (go_at_call 77;refine K.mono ?_;clear K;rintro e W1 ⟨rfl,hb⟩)
 go_ret
 exact⟨rfl,hb⟩
theorem qaR(C:Nat)(s:SlV)(m:Value)(l:List RegT)(a:Int)(w:World)
 (h8:w.cell? ⟨C,8,none⟩=some (.slice s.a s.n s.c)) (h9:w.cell? ⟨C,9,none⟩=some m) (hl:zr w s l) :
 Calls Tryz.prog 74 #[.pointer (some ⟨C,0,none⟩),.int .i64 a] w fun e w'=>e = .returned (.agg #[.int .i64 (regAtN l a).root,.int .i64 (regAtN l a).at_,.int .i64 (regAtN l a).width])/\Below w.heap.size w w':=by
 have hB:Below w.heap.size w (w.alloc (.cells #[.int .i64 0,.int .i64 0,.int .i64 0] 94)):=qe
 have K:=Zr s m l a _ (hl.below hB)
 have hC:=Cells.new w 94 #[.int .i64 0,.int .i64 0,.int .i64 0]
 replace h8:=cell_below hB h8
 replace h9:=cell_below hB h9
 rw[←regAtN] at K
 generalize regAtN l a=x at *
 obtain⟨xn,xr,xa,xw,⟨la,ln,lc⟩⟩:=x
 simp only[RegT.v] at K
 clear hl
 have hfd:=Tryz.regField1 xn xr xa xw la ln lc
 go_enter Tryz.func74,Tryz.ntmps74
 go_wp2_with (go_at_call 77;refine K.mono ?_;clear K;rintro e W1 ⟨rfl,hb⟩;have hC1:=hC.below hb hC.lt;have c0:=hC1.cell (j:=0) rfl;have c1:=hC1.cell (j:=1) rfl;have c2:=hC1.cell (j:=2) rfl;have f0:=hC1.frozen 0;have f1:=hC1.frozen 1;have f2:=hC1.frozen 2;have hb1:=hB.trans (hb.mono hB.size);clear hC hC1)
 (try simp only[Exit.inBlock,Exit.then])
 refine bodyPost_ret (v:=.agg #[.int .i64 xr,.int .i64 xa,.int .i64 xw]) ?_ rfl ⟨rfl,?_⟩
 ·rw[qr rfl]
  go_simp
 ·(repeat' (first|exact hb1|refine Below.setCell ?_ (by simp) _))
end Go.Proofs.YtkoloennfejaaaaGreatDoor
