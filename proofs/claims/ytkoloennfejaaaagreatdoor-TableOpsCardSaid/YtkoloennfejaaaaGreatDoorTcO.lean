/-
  Operations of a table: number, at.
-/
import Derived.Test.YtkoloennfejaaaaGreatDoorTcC
set_option maxHeartbeats 1600000
set_option maxRecDepth 100000
namespace Go.Proofs.YtkoloennfejaaaaGreatDoor
open Go.RowKit Go.Maps
theorem qhA(base:Nat)(s:SlV)(mv:Option Nat)(l:List ByteArray)(nm:ByteArray)(w:World)(hM:zb base w mv l)(hnm:nm.size<=281474976710656) :
 Calls Tryz.prog 50 #[.agg #[.slice s.a s.n s.c,.map mv],.string nm] w fun e w'=>e = .returned (.tuple #[.int .i64 (num0 l nm),.bool (ZN l nm)])/\Below w.heap.size w w':=by
 obtain⟨sa,sn,sc⟩:=s
 rcases hM with⟨rfl,rfl⟩|⟨B,D,rfl,hMB,hown,hrd⟩
 ·have hln:∀W,(Instr.lookup 75 (.map none) (.string nm) true).run Tryz.prog W = .ok (.tuple #[.int .i64 0,.bool false]) W:=fun _=>by kernel_rfl
  go_enter Tryz.func50,Tryz.ntmps50
  go_wp2_with fail
  go_ret2
  refine⟨rfl,?_⟩
  first|exact qe|exact qe.drew
 ·obtain⟨h1,h2⟩:=hrd.num nm
  replace h1:=Lib.hid h1
  replace h2:=Lib.hid h2
  have hownX:=hown.alloc (.cells #[.slice sa sn sc,.map (some B)] 83)
  go_enter Tryz.func50,Tryz.ntmps50
  go_wp2_with (at_lookup;refine wpList_lookup_own_ok_int _ rfl _ _ 75 rfl 9 3 .i64 Tryz.keyed Tryz.underlying75 Tryz.underlying3 (Tryz.zeroInt _) B l.length D rfl hownX _ _ rfl (WideMaps.keyOf_string_mk Tryz.underlying9 (by unfold maxLen;omega)) ?_;intro c hat hwc)
  have hc:c=num0 l nm:=by
   have:=hat.symm.trans h2.out
   injection this with this
   injection this
  have hh:=h1.out
  subst hc
  change has D (.string nm.data.toList)=_ at hh
  try rw[hh]
  go_ret2
  refine⟨by first|rfl|(rw[hh]),?_⟩
  first|exact qe|exact qe.drew
theorem YZ(s:SlV)(m:Value)(l:List OpT)(n:Int)(w:World)(h:zQ w s l) :
 Calls Tryz.prog 51 #[.agg #[.slice s.a s.n s.c,m],.int .i64 n] w fun e w'=>e = .returned (.agg (if 0<=n then l.getD n.toNat OpT.none else OpT.none).v)/\Below w.heap.size w w':=by
 obtain⟨a,k,c⟩:=s
 obtain⟨hn,hc,hx⟩:=h
 dsimp only at hn hc hx ⊢
 subst hn
 by_cases h0:0<=n
 ·obtain⟨j,rfl⟩:∃j:Nat,n=j:=⟨n.toNat,by omega⟩
  rw[if_pos h0,Int.toNat_natCast]
  by_cases hlt:j<l.length
  ·obtain⟨b,o,rfl,c0,c1,c2⟩:=hx j l[j] (List.getElem?_eq_getElem hlt)
   have hg:l.getD j OpT.none=l[j]:=by rw[List.getD_eq_getElem?_getD,List.getElem?_eq_getElem hlt];rfl
   rw[hg]
   have k1:(j:Int)<l.length:=by omega
   generalize l[j]=x at *
   obtain⟨⟨xa,xn,xc⟩,xt,⟨ya,yn,yc⟩⟩:=x
   dsimp only at c0 c1 c2
   have hB:Below w.heap.size w ((w.alloc (.cells #[.slice (some ⟨b,o,Option.none⟩) l.length c,m] 83)).alloc (.cells OpT.none.v 99)):=qe.alloc (by simp) _
   have d0:=cell_below hB c0
   have d1:=cell_below hB c1
   have d2:=cell_below hB c2
   simp only[OpT.none,OpT.v] at d0 d1 d2
   clear hx hg c0 c1 c2
   go_enter Tryz.func51,Tryz.ntmps51
   go_wp2_with fail
   (try simp only[Exit.inBlock,Exit.then])
   refine bodyPost_ret (v:=.agg (OpT.mk ⟨xa,xn,xc⟩ xt ⟨ya,yn,yc⟩).v) ?_ rfl ⟨rfl,?_⟩
   ·rw[qr rfl]
    go_simp
    rfl
   ·(repeat' (first|exact Below.refl _ _|refine Below.setCell ?_ (by simp) _|refine Below.alloc ?_ (by simp <;> omega) _))
  ·have hg:l.getD j OpT.none=OpT.none:=by rw[List.getD_eq_getElem?_getD,List.getElem?_eq_none (by omega)];rfl
   rw[hg]
   clear hx hg
   go_enter Tryz.func51,Tryz.ntmps51
   go_wp2_with fail
   (try simp only[Exit.inBlock,Exit.then])
   refine bodyPost_ret (v:=.agg OpT.none.v) ?_ rfl ⟨rfl,?_⟩
   ·rw[qr rfl]
    go_simp
    rfl
   ·(repeat' (first|exact Below.refl _ _|refine Below.setCell ?_ (by simp) _|refine Below.alloc ?_ (by simp <;> omega) _))
 ·rw[if_neg h0]
  clear hx
  go_enter Tryz.func51,Tryz.ntmps51
  go_wp2_with fail
  (try simp only[Exit.inBlock,Exit.then])
  refine bodyPost_ret (v:=.agg OpT.none.v) ?_ rfl ⟨rfl,?_⟩
  ·rw[qr rfl]
   go_simp
   rfl
  ·(repeat' (first|exact Below.refl _ _|refine Below.setCell ?_ (by simp) _|refine Below.alloc ?_ (by simp <;> omega) _))
end Go.Proofs.YtkoloennfejaaaaGreatDoor
