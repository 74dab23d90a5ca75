/-
  table's methods that read classes: In, Width, Of.
-/
import Derived.Test.YtkoloennfejaaaaGreatDoorTcYP
import Derived.Test.YtkoloennfejaaaaGreatDoorTfN
set_option maxHeartbeats 1600000
set_option maxRecDepth 100000
namespace Go.Proofs.YtkoloennfejaaaaGreatDoor
open Go.RowKit
theorem Tryz.clsFld0(la sa:Option Addr)(ln lc sn sc:Nat)(wd:Int)(w:World):(Instr.field 90 (.agg #[.slice la ln lc,.slice sa sn sc,.int .i64 wd]) 0).run Tryz.prog w = .ok (.slice la ln lc) w:=by kernel_rfl
theorem Tryz.clsFld1(la sa:Option Addr)(ln lc sn sc:Nat)(wd:Int)(w:World):(Instr.field 90 (.agg #[.slice la ln lc,.slice sa sn sc,.int .i64 wd]) 1).run Tryz.prog w = .ok (.agg #[.slice sa sn sc]) w:=by kernel_rfl
theorem Tryz.clsFld2(la sa:Option Addr)(ln lc sn sc:Nat)(wd:Int)(w:World):(Instr.field 90 (.agg #[.slice la ln lc,.slice sa sn sc,.int .i64 wd]) 2).run Tryz.prog w = .ok (.int .i64 wd) w:=by kernel_rfl
def clsAtN(l:List ClsT)(n:Int):ClsT:=if 0<=n then l.getD n.toNat ClsT.none else ClsT.none
theorem qhc(C:Nat)(s:SlV)(m:Value)(l:List ClsT)(p:Nat->Bool)(a b:Int)(w:World)
 (h10:w.cell? ⟨C,10,none⟩=some (.slice s.a s.n s.c)) (h11:w.cell? ⟨C,11,none⟩=some m) (hl:zk w s l) (hp:SetAt w (clsAtN l a).set p) :
 Calls Tryz.prog 16 #[.pointer (some ⟨C,0,none⟩),.int .i64 a,.int .i64 b] w fun e w'=>e = .returned (.bool (decide (0<=b)&&p b.toNat))/\Below w.heap.size w w':=by
 have K:=Zs s m l a w hl
 rw[←clsAtN] at K
 generalize clsAtN l a=x at *
 obtain⟨⟨la,ln,lc⟩,⟨sa,sn,sc⟩,wd⟩:=x
 simp only[ClsT.v] at K
 have KH:=fun W (hb:Below w.heap.size w W)=>qgX ⟨sa,sn,sc⟩ p b W (hp.below hb)
 dsimp only at KH
 clear hl hp
 have hfd:=Tryz.clsFld1 la sa ln lc sn sc wd
 go_enter Tryz.func16,Tryz.ntmps16
 go_wp2_with (first
  |(go_at_call 47;refine K.mono ?_;clear K;rintro e W1 ⟨rfl,hb⟩)
  |(go_at_call 48;refine(KH _ hb).mono ?_;clear KH;rintro e W2 ⟨rfl,hb2⟩))
 go_ret
 exact⟨rfl,hb.trans (hb2.mono hb.size)⟩
theorem qbj(C:Nat)(s:SlV)(m:Value)(l:List ClsT)(a:Int)(w:World)
 (h10:w.cell? ⟨C,10,none⟩=some (.slice s.a s.n s.c)) (h11:w.cell? ⟨C,11,none⟩=some m) (hl:zk w s l) :
 Calls Tryz.prog 14 #[.pointer (some ⟨C,0,none⟩),.int .i64 a] w fun e w'=>e = .returned (.int .i64 (clsAtN l a).width)/\Below w.heap.size w w':=by
 have K:=Zs s m l a w hl
 rw[←clsAtN] at K
 generalize clsAtN l a=x at *
 obtain⟨⟨la,ln,lc⟩,⟨sa,sn,sc⟩,wd⟩:=x
 simp only[ClsT.v] at K
 clear hl
 have hfd:=Tryz.clsFld2 la sa ln lc sn sc wd
 go_enter Tryz.func14,Tryz.ntmps14
 go_wp2_with (go_at_call 47;refine K.mono ?_;clear K;rintro e W1 ⟨rfl,hb⟩)
 go_ret
 exact⟨rfl,hb⟩
theorem qhd(C:Nat)(s:SlV)(m:Value)(l:List ClsT)(L:List Int)(a:Int)(w:World)
 (h10:w.cell? ⟨C,10,none⟩=some (.slice s.a s.n s.c)) (h11:w.cell? ⟨C,11,none⟩=some m) (hl:zk w s l) (hi:IntsAt w (clsAtN l a).list L) (hL:L.length<=100000) (hnil:(clsAtN l a).list.a=none->(clsAtN l a).list.c=0) :
 Calls Tryz.prog 12 #[.pointer (some ⟨C,0,none⟩),.int .i64 a] w (NewL w L):=by
 have K:=Zs s m l a w hl
 rw[←clsAtN] at K
 generalize clsAtN l a=x at *
 obtain⟨⟨la,ln,lc⟩,⟨sa,sn,sc⟩,wd⟩:=x
 simp only[ClsT.v] at K
 dsimp only at hi hnil
 have KC:=fun W (hb:Below w.heap.size w W)=>xm ⟨la,ln,lc⟩ L W (hi.below hb) (by have:=hi.1;dsimp only at this;simp only;omega) hnil
 dsimp only at KC
 clear hl hi hnil
 have hfd:=Tryz.clsFld0 la sa ln lc sn sc wd
 go_enter Tryz.func12,Tryz.ntmps12
 go_wp2_with (first
  |(go_at_call 47;refine K.mono ?_;clear K;rintro e W1 ⟨rfl,hb⟩)
  |(go_at_call 46;refine(KC _ hb).mono ?_;clear KC;rintro e W2 hc;obtain⟨hb2,va,vn,vc,rfl,hr,hi⟩:=NewL.of hc;replace hr:=Lib.hid hr;replace hi:=Lib.hid hi;clear hc))
 go_ret
 exact⟨hb.trans (hb2.mono hb.size),va,vn,vc,rfl,qj hr.out hb.size,hi.out⟩
end Go.Proofs.YtkoloennfejaaaaGreatDoor
