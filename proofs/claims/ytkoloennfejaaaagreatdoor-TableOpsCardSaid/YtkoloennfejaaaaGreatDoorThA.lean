/-
  table's methods of operations: Op, May, Tie, Clob.
-/
import Derived.Test.YtkoloennfejaaaaGreatDoorTfN
import Derived.Test.YtkoloennfejaaaaGreatDoorTcO
import Derived.Test.YtkoloennfejaaaaGreatDoorTcPP
set_option maxHeartbeats 3200000
set_option maxRecDepth 100000
namespace Go.Proofs.YtkoloennfejaaaaGreatDoor
open Go.RowKit
theorem Tryz.opFld0(a c:Option Addr)(an ac cn cc:Nat)(t:Int)(w:World):(Instr.field 99 (.agg #[.slice a an ac,.int .i64 t,.slice c cn cc]) 0).run Tryz.prog w = .ok (.slice a an ac) w:=by kernel_rfl
theorem Tryz.opFld1(a c:Option Addr)(an ac cn cc:Nat)(t:Int)(w:World):(Instr.field 99 (.agg #[.slice a an ac,.int .i64 t,.slice c cn cc]) 1).run Tryz.prog w = .ok (.int .i64 t) w:=by kernel_rfl
theorem Tryz.opFld2(a c:Option Addr)(an ac cn cc:Nat)(t:Int)(w:World):(Instr.field 99 (.agg #[.slice a an ac,.int .i64 t,.slice c cn cc]) 2).run Tryz.prog w = .ok (.slice c cn cc) w:=by kernel_rfl
theorem qhT(C base:Nat)(tb:TB)(l:List ByteArray)(nm:ByteArray)(w:World)(hC:Cells w C 88 tb.cells)(hM:zb base w tb.oM l)(hnm:nm.size<=281474976710656) :
 Calls Tryz.prog 18 #[.pointer (some ⟨C,0,none⟩),.string nm] w fun e w'=>e = .returned (.tuple #[.int .i64 (num0 l nm),.bool (ZN l nm)])/\Below w.heap.size w w':=by
 have K:=qhA base tb.oS tb.oM l nm w hM hnm
 obtain⟨m,⟨ra,rn,rc⟩,rm,⟨ca,cn,cc⟩,cm,⟨oa,on,oc⟩,om,ag,rs,sv,sr⟩:=tb
 have c0:=hC.cell (j:=12) (v:=.slice oa on oc) rfl
 have c1:=hC.cell (j:=13) (v:=.map om) rfl
 dsimp only at K
 clear hM hC
 go_enter Tryz.func18,Tryz.ntmps18
 go_wp2_with (go_at_call 50;refine K.mono ?_;clear K;rintro e W1 ⟨rfl,hb⟩)
 go_ret2
 exact⟨rfl,hb⟩
def opAtN(l:List OpT)(n:Int):OpT:=if 0<=n then l.getD n.toNat OpT.none else OpT.none
def Qi(l:List (Nat->Bool))(p r:Int):Bool:=decide (0<=p)&&((l[p.toNat]?).elim false fun q=>decide (0<=r)&&q r.toNat)
theorem qfX(C:Nat)(s:SlV)(m:Value)(l:List OpT)(P:List (Nat->Bool))(n p r:Int)(w:World)
 (h12:w.cell? ⟨C,12,none⟩=some (.slice s.a s.n s.c)) (h13:w.cell? ⟨C,13,none⟩=some m) (hl:zQ w s l) (hp:SetsIn 0 w (opAtN l n).may P) :
 Calls Tryz.prog 20 #[.pointer (some ⟨C,0,none⟩),.int .i64 n,.int .i64 p,.int .i64 r] w fun e w'=>e = .returned (.bool (Qi P p r))/\Below w.heap.size w w':=by
 have K:=YZ s m l n w hl
 rw[←opAtN] at K
 generalize opAtN l n=x at *
 obtain⟨⟨ma,mn,mc⟩,xt,⟨ka,kn,kc⟩⟩:=x
 simp only[OpT.v] at K
 have hfd:=Tryz.opFld0 ma ka mn mc kn kc xt
 obtain⟨ms,hrow,hml,hset⟩:=hp
 have hmn:=(yM hrow)
 dsimp only at hmn
 clear hl
 by_cases h0:0<=p
 ·obtain⟨j,rfl⟩:∃j:Nat,p=j:=⟨p.toNat,by omega⟩
  by_cases h1:j<P.length
  ·obtain⟨q,hq⟩:∃q,P[j]?=some q:=⟨P[j],List.getElem?_eq_getElem h1⟩
   obtain⟨y,hy⟩:∃y,ms[j]?=some y:=⟨ms[j]'(by omega),List.getElem?_eq_getElem _⟩
   have hS:=hset j y q hy hq
   obtain⟨b,hb0,hcell⟩:=qz hrow (show(ms.map SlV.v)[j]?=some y.v by rw[List.getElem?_map,hy];rfl)
   dsimp only at hb0
   subst hb0
   have hv:Qi P j r=(decide (0<=r)&&q r.toNat):=by unfold Qi;rw[decide_eq_true h0,Int.toNat_natCast,hq];rfl
   rw[hv]
   have KH:=fun W (hb:Below w.heap.size w W)=>qgX y q r W (hS.below hb)
   obtain⟨ya,yn,yc⟩:=y
   simp only[SlV.v] at hcell
   dsimp only at KH
   obtain⟨rfl,hcp⟩:=hmn
   have j1:(j:Int)<P.length:=by omega
   generalize P.length=pn at *
   generalize(decide (0<=r)&&q r.toNat)=z at *
   clear hv hS hy hq hset hrow hml
   go_enter Tryz.func20,Tryz.ntmps20
   go_wp2_with (first
    |(go_at_call 51;refine K.mono ?_;clear K;rintro e W1 ⟨rfl,hb⟩;have hc2:=cell_below hb hcell)
    |(go_at_call 48;refine(KH _ hb).mono ?_;clear KH;rintro e W2 ⟨rfl,hb2⟩))
   go_ret
   exact⟨rfl,hb.trans (hb2.mono hb.size)⟩
  ·have hv:Qi P j r=false:=by unfold Qi;rw[Int.toNat_natCast,List.getElem?_eq_none (by omega)];simp
   rw[hv]
   obtain⟨rfl,hcp⟩:=hmn
   have j1:¬ (j:Int)<P.length:=by omega
   generalize P.length=pn at *
   clear hset hrow hml hv
   go_enter Tryz.func20,Tryz.ntmps20
   go_wp2_with (go_at_call 51;refine K.mono ?_;clear K;rintro e W1 ⟨rfl,hb⟩)
   go_ret
   exact⟨rfl,hb⟩
 ·have hv:Qi P p r=false:=by unfold Qi;rw[decide_eq_false h0];rfl
  rw[hv]
  clear hset hrow hml hv hmn
  go_enter Tryz.func20,Tryz.ntmps20
  go_wp2_with (go_at_call 51;refine K.mono ?_;clear K;rintro e W1 ⟨rfl,hb⟩)
  go_ret
  exact⟨rfl,hb⟩
theorem qeh(C:Nat)(s:SlV)(m:Value)(l:List OpT)(n:Nat)(w:World)
 (h12:w.cell? ⟨C,12,none⟩=some (.slice s.a s.n s.c)) (h13:w.cell? ⟨C,13,none⟩=some m) (hl:zQ w s l) (hn:n<l.length) :
 Calls Tryz.prog 22 #[.pointer (some ⟨C,0,none⟩),.int .i64 n] w fun e w'=>e = .returned (.int .i64 (opAtN l n).tie)/\Below w.heap.size w w':=by
 have K:=YZ s m l n w hl
 rw[←opAtN] at K
 have hsn:=hl.1
 generalize opAtN l n=x at *
 obtain⟨⟨ma,mn,mc⟩,xt,⟨ka,kn,kc⟩⟩:=x
 simp only[OpT.v] at K
 have hfd:=Tryz.opFld1 ma ka mn mc kn kc xt
 have n0:¬ (n:Int)<0:=by omega
 have n1:¬ (s.n:Int)<=n:=by omega
 obtain⟨sa,sn,sc⟩:=s
 dsimp only at K h12 n1
 clear hl hsn
 go_enter Tryz.func22,Tryz.ntmps22
 go_wp2_with (go_at_call 51;refine K.mono ?_;clear K;rintro e W1 ⟨rfl,hb⟩)
 go_ret
 exact⟨rfl,hb⟩
theorem qcB(C:Nat)(s:SlV)(l:List OpT)(n:Int)(w:World)
 (h12:w.cell? ⟨C,12,none⟩=some (.slice s.a s.n s.c)) (hl:zQ w s l) (hn:n<0∨(l.length:Int)<=n) :
 Calls Tryz.prog 22 #[.pointer (some ⟨C,0,none⟩),.int .i64 n] w fun e w'=>e = .returned (.int .i64 (-1))/\Below w.heap.size w w':=by
 have hsn:=hl.1
 obtain⟨sa,sn,sc⟩:=s
 dsimp only at h12 hsn
 subst hsn
 clear hl
 by_cases h0:n<0
 ·clear hn
  go_enter Tryz.func22,Tryz.ntmps22
  go_wp2_with fail
  go_ret
  exact⟨rfl,Below.refl _ _⟩
 ·have h1:(l.length:Int)<=n:=by omega
  clear hn
  go_enter Tryz.func22,Tryz.ntmps22
  go_wp2_with fail
  go_ret
  exact⟨rfl,Below.refl _ _⟩
theorem qda(C:Nat)(s:SlV)(m:Value)(l:List OpT)(L:List Int)(a:Int)(w:World)
 (h12:w.cell? ⟨C,12,none⟩=some (.slice s.a s.n s.c)) (h13:w.cell? ⟨C,13,none⟩=some m) (hl:zQ w s l) (hi:IntsR w (opAtN l a).clob L) (hL:L.length<=100000) :
 Calls Tryz.prog 23 #[.pointer (some ⟨C,0,none⟩),.int .i64 a] w (NewL w L):=by
 have K:=YZ s m l a w hl
 rw[←opAtN] at K
 generalize opAtN l a=x at *
 obtain⟨⟨ma,mn,mc⟩,xt,⟨ka,kn,kc⟩⟩:=x
 simp only[OpT.v] at K
 dsimp only at hi
 have KC:=fun W (hb:Below w.heap.size w W)=>xm ⟨ka,kn,kc⟩ L W (hi.below hb).at_ (by have:=hi.len;dsimp only at this;simp only;omega) hi.nilc
 dsimp only at KC
 clear hl hi
 have hfd:=Tryz.opFld2 ma ka mn mc kn kc xt
 go_enter Tryz.func23,Tryz.ntmps23
 go_wp2_with (first
  |(go_at_call 51;refine K.mono ?_;clear K;rintro e W1 ⟨rfl,hb⟩)
  |(go_at_call 46;refine(KC _ hb).mono ?_;clear KC;rintro e W2 hc;obtain⟨hb2,va,vn,vc,rfl,hr,hi⟩:=NewL.of hc;replace hr:=Lib.hid hr;replace hi:=Lib.hid hi;clear hc))
 go_ret
 exact⟨hb.trans (hb2.mono hb.size),va,vn,vc,rfl,qj hr.out hb.size,hi.out⟩
end Go.Proofs.YtkoloennfejaaaaGreatDoor
