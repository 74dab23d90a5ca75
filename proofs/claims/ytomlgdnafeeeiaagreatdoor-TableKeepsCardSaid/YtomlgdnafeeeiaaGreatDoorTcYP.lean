
import Derived.Test.YtomlgdnafeeeiaaGreatDoorTcPP
import Derived.Test.YtomlgdnafeeeiaaGreatDoorTcWP
import Derived.Test.YtomlgdnafeeeiaaGreatDoorBiD
/-
 law7's Make;TableLap beside the law's example.
-/
namespace Go.Proofs.YtomlgdnafeeeiaaGreatDoor
open Proofs.Tryz
open Go.RowKit
theorem qeH{w:World}{m:MV}{d:qz}{L:qg}(h:Xf w m d L):XC d where
 name:=by have:=h.nz;unfold zy;omega
 result:=by have:=h.rz;unfold zy;omega
 classes:=fun k hk=>⟨by have:=(h.fk.2 k hk).1;unfold zy;omega,fun s hs=>by have:=(h.fk.2 k hk).2.2 s hs;unfold zy;omega⟩
 ops:=fun o ho=>by
  obtain⟨h1,h2,h3,h4,h5⟩:=h.fp.2 o ho
  refine⟨by unfold zy;omega,⟨by unfold zy;omega,by unfold zy;omega⟩,fun u hu=>?_,fun s hs=>?_⟩
  ·have:=h4.2 u hu
   exact⟨by unfold zy;omega,by unfold zy;omega⟩
  ·have:=h5.2 s hs
   unfold zy;omega
 args:=fun s hs=>by have:=h.fa.2 s hs;unfold zy;omega
 saved:=fun s hs=>by have:=h.fs.2 s hs;unfold zy;omega
theorem qlQ(x:Int)(w:World):Calls prog 9 #[.int .i64 x] w fun e w'=>e = .returned (.int .i64 x)/\w=w':=by
 go_enter func9,ntmps9
 go_wp2
 go_ret
 exact⟨rfl,rfl⟩
theorem yB.mono{base base':Nat}{W:World}{C:Nat}{d:qz}{L M:qg}{tb:TB}{rl:List qY}{cl:List zZ}{ol:List OpT}(h:yB base W C d L M tb rl cl ol)(hb:base'<=base):yB base' W C d L M tb rl cl ol:=
 ⟨h.tab,h.mach,h.cap,h.like,h.regs.mono hb,h.laps,h.cls.mono hb,h.ops.mono hb,h.args,h.result,h.saved,h.surv,h.fresh.mono hb⟩
theorem zh.congr{W:World}{s:SlV}{p q:Nat->Bool}(h:zh W s p)(hq:∀n,p n=q n):zh W s q:=by
 obtain⟨ws,h1,h2,h3,h4⟩:=h
 exact⟨ws,h1,h2,h3,fun n=>(h4 n).trans (hq n)⟩
theorem qjL(ps:List Plc){a:Int}(h0:0<=a)(h1:a<ps.length)(n:Nat):yE ps (plc ps a) n=QJ ps a n:=by
 unfold yE QJ
 rw[vT h0,vT h1,vT (show(0:Int)<=(n:Int) by omega)]
 simp only[Bool.true_and]
 congr 1
 rw[decide_eq_decide]
 omega
theorem yB.lapSet{base:Nat}{W:World}{C:Nat}{d:qz}{L M:qg}{tb:TB}{rl:List qY}{cl:List zZ}{ol:List OpT}(h:yB base W C d L M tb rl cl ol)(a:Int) :
 zh W (zJ rl a).laps (fun n:Nat=>QJ (qQ L) a n):=by
 have hlen:rl.length=(qQ L).length:=by rw[←h.regs.places,vP]
 by_cases ha:0<=a/\a<(qQ L).length
 ·obtain⟨x,hx⟩:∃x,rl[a.toNat]?=some x:=⟨rl[a.toNat]'(by omega),vE _⟩
  have hg:zJ rl a=x:=by unfold zJ;rw[if_pos ha.1,vG,hx];rfl
  have hp:x.plc=plc (qQ L) a:=by rw[←hg];exact ZU h.regs.places ha.1
  rw[hg]
  refine(h.laps x (vM hx)).congr fun n=>?_
  rw[hp]
  exact qjL _ ha.1 ha.2 n
 ·have hg:zJ rl a=qY.none:=by
   unfold zJ
   by_cases h0:0<=a
   ·rw[if_pos h0,vG,List.getElem?_eq_none (by omega)];rfl
   ·rw[if_neg h0]
  rw[hg]
  refine(zh.none W).congr fun n=>?_
  unfold QJ
  by_cases h0:0<=a
  ·rw[vF (p:=a<((qQ L).length:Int)) (by omega)];simp
  ·rw[vF h0];simp
end Go.Proofs.YtomlgdnafeeeiaaGreatDoor
