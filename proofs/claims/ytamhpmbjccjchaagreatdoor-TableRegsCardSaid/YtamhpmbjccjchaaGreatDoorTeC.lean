/-
  TableRegs of any machine, beside the law's own example.
-/
import Derived.Test.YtamhpmbjccjchaaGreatDoorTeD
set_option maxHeartbeats 6400000
set_option maxRecDepth 100000
namespace Go.Proofs.YtamhpmbjccjchaaGreatDoor
open Go.RowKit
theorem xj.n{w:World}{s:SlV}{L:RegL}(h:xj w s L):s.n=L.length:=by
 rcases h with⟨rfl,rfl⟩|⟨b,o,c,rfl,_⟩
 ·rfl
 ·rfl
theorem qgK{base:Nat}{w0 w1 w:World}{C T:Nat}{m:MV}{d:MachD}{L M:RegL}{tb:TB}{rl:List RegT}{cl:List ClsT}{ol:List OpT}{nV pV cV:SlV}(hM:MachAt w0 m d L)(ht:jN d)(hx:makeE d L=0)
 (hTab:TabIn base w C d L M tb rl cl ol) (hSt:TabSt w1 w T ⟨m,nV,pV,cV⟩ d (nmsL L) (plsL L)) (hLs:qS w cV (clsOf (nmsL L) d.classes)) (hbits:Go.Proofs.TabAt 0 Lib.deBruijn64tab w) :
 qfM base w C T d L M tb rl cl ol ⟨m,nV,pV,cV⟩ where
 tab:=hTab
 ok:=hSt.tabOk hLs
 nodup:=Ye (Xw hx).2.1
 size:=(Jd hM ht hx).names
 full:=fun s hs e=>by
  obtain⟨x,hx1,hx2⟩:=List.mem_map.1 hs
  have h2:=(Xw hx).2.1
  rw[←qF] at hx1
  obtain⟨q,hq,rfl⟩:=List.mem_map.1 hx1
  have h3:=xK nameB _ _ h2 q hq
  rw[hx2,e] at h3
  exact absurd h3 (by decide)
 saved:=fun x hx1=>by
  have h1:=(Jd hM ht hx).sn.2
  have h2:=qK (nmsL L) x
  by_cases h0:0<=regN (nmsL L) x
  ·exact h0
  ·exfalso
   have h3:regN (nmsL L) x = -1:=by omega
   have h4:(-1:Int)∈regsL (nmsL L) d.saved:=List.mem_map.2 ⟨x,hx1,h3⟩
   rw[List.contains_eq_mem,decide_eq_true h4] at h1
   cases h1
 roots:=by
  show tb.m.regs.n=m.regs.n
  rw[hTab.mach.regs.n,hM.regs.n,hTab.like.length]
 bits:=hbits
theorem qdX{w:World}{m:MV}{d:MachD}{L:RegL}(hE:Env w)(hA:Qo w)(h:QE w m d L)
 (hbits:Go.Proofs.TabAt 0 Lib.deBruijn64tab w)
 (hAl:∀W,Below w.heap.size w W->Calls Tryz.prog 5 #[] W fun e w'=>e = .returned (.bool true)/\Below W.heap.size W w') :
 Calls Tryz.prog 3 #[m.val] w fun e w'=>e = .returned (.bool true)/\Below w.heap.size w w':=by
 obtain⟨mn,rg,kl,op,ar,rs,sv,sl⟩:=m
 show Calls Tryz.prog 3 #[.agg #[.string mn,.slice rg.a rg.n rg.c,.slice kl.a kl.n kl.c,.slice op.a op.n op.c,.slice ar.a ar.n ar.c,.string rs,.slice sv.a sv.n sv.c,.int .i64 sl]] w _
 obtain⟨W0,hW0⟩:∃W0,W0=w.alloc (.cells #[.string mn,.slice rg.a rg.n rg.c,.slice kl.a kl.n kl.c,.slice op.a op.n op.c,.slice ar.a ar.n ar.c,.string rs,.slice sv.a sv.n sv.c,.int .i64 sl] 27):=⟨_,rfl⟩
 have hb0:Below w.heap.size w W0:=by rw[hW0];exact qe
 have hbx:Cells W0 w.heap.size 27 #[.string mn,.slice rg.a rg.n rg.c,.slice kl.a kl.n kl.c,.slice op.a op.n op.c,.slice ar.a ar.n ar.c,.string rs,.slice sv.a sv.n sv.c,.int .i64 sl]:=by rw[hW0];exact Cells.new _ _ _
 have A:=hAl W0 hb0
 have x0:=hbx.cell (j:=0) (v:=.string mn) rfl
 have x1:=hbx.cell (j:=1) (v:=.slice rg.a rg.n rg.c) rfl
 have x2:=hbx.cell (j:=2) (v:=.slice kl.a kl.n kl.c) rfl
 have x3:=hbx.cell (j:=3) (v:=.slice op.a op.n op.c) rfl
 have x4:=hbx.cell (j:=4) (v:=.slice ar.a ar.n ar.c) rfl
 have x5:=hbx.cell (j:=5) (v:=.string rs) rfl
 have x6:=hbx.cell (j:=6) (v:=.slice sv.a sv.n sv.c) rfl
 have x7:=hbx.cell (j:=7) (v:=.int .i64 sl) rfl
 replace hW0:=Lib.hid hW0
 replace h:=Lib.hid h
 clear hAl
 replace hbits:=Lib.hid hbits
 go_enter Tryz.func3,Tryz.ntmps3
 go_upto_region 1 with fail
 rw[←hW0.out]
 go_upto_region 2 with(go_at_call 5;refine A.mono ?_;clear A;rintro e W1 ⟨rfl,hb1⟩)
 have hB1:Below w.heap.size w W1:=hb0.trans (hb1.mono hb0.size)
 have y0:=cell_below hb1 x0
 have y1:=cell_below hb1 x1
 have y2:=cell_below hb1 x2
 have y3:=cell_below hb1 x3
 have y4:=cell_below hb1 x4
 have y5:=cell_below hb1 x5
 have y6:=cell_below hb1 x6
 have y7:=cell_below hb1 x7
 have h1:=Lib.hid (h.out.below hB1)
 have KB:=qfe h1.out
 change Calls _ _ #[.agg #[.string mn,.slice rg.a rg.n rg.c,.slice kl.a kl.n kl.c,.slice op.a op.n op.c,.slice ar.a ar.n ar.c,.string rs,.slice sv.a sv.n sv.c,.int .i64 sl]] W1 _ at KB
 clear x0 x1 x2 x3 x4 x5 x6 x7 hbx
 go_upto_region 3 with(go_at_call 6;refine KB.mono ?_;clear KB;rintro e W2 ⟨g,rfl,hg,hb2⟩)
 have hB2:Below w.heap.size w W2:=hB1.trans (hb2.mono hB1.size)
 cases g with
 |true=>
  clear hg
  go_wp2_with fail
  go_ret
  exact⟨rfl,hB2⟩
 |false=>
  have hN:=hg rfl
  have hN0:=Lib.hid hN
  have KM:=qgQ (m:=⟨mn,rg,kl,op,ar,rs,sv,sl⟩) ((ZI (hE.below hB1) (hA.below hB1) h1.out hN).below hb2) (Qf h.out) ((Yb h1.out hN).below hb2) h.out.same h.out.regs.2.1
  change Calls _ _ #[.agg #[.string mn,.slice rg.a rg.n rg.c,.slice kl.a kl.n kl.c,.slice op.a op.n op.c,.slice ar.a ar.n ar.c,.string rs,.slice sv.a sv.n sv.c,.int .i64 sl]] W2 _ at KM
  have z0:=cell_below hb2 y0
  have z1:=cell_below hb2 y1
  have z2:=cell_below hb2 y2
  have z3:=cell_below hb2 y3
  have z4:=cell_below hb2 y4
  have z5:=cell_below hb2 y5
  have z6:=cell_below hb2 y6
  have z7:=cell_below hb2 y7
  clear y0 y1 y2 y3 y4 y5 y6 y7 hg hN h1
  by_cases hx:makeE d L=0
  ·go_upto_region 6 with(go_at_call 7;refine KM.mono ?_;clear KM;rintro e W3 ⟨hb3,(⟨hne,_⟩|⟨_,C,T,M,tb,rl,cl,ol,nV,pV,cV,rfl,hTab,hSt,hLs⟩)⟩;· exact absurd hx hne)
   have hB3:Below w.heap.size w W3:=hB2.trans (hb3.mono hB2.size)
   have hM0:=ZI (m:=⟨mn,rg,kl,op,ar,rs,sv,sl⟩) (hE.below hB1) (hA.below hB1) (h.out.below hB1) hN0.out
   have KR:=fun(W:World) (hb:Below W3.heap.size W3 W)=>qba (qgK hM0 (Qf h.out) hx (hTab.below hb) (hSt.step hb) (hLs.below hb).lists (fun j hj=>cell_below (hB3.trans (hb.mono hB3.size)) (hbits.out j hj)))
   clear hTab hSt hLs z0 z1 z2 z3 z4 z5 z6 z7 hM0
   replace KR:=Lib.hid KR
   have hb33:=Below.refl W3.heap.size W3
   go_wp2_with (go_at_call 8;refine(KR.out _ hb33).mono ?_;clear KR;rintro e W4 ⟨rfl,hb4⟩)
   go_ret
   exact⟨rfl,hB3.trans (hb4.mono hB3.size)⟩
  ·go_upto_region 6 with(go_at_call 7;refine KM.mono ?_;clear KM;rintro e W3 ⟨hb3,(⟨_,rfl⟩|⟨h0,_⟩)⟩;rotate_left;· exact absurd h0 hx)
   go_wp2_with fail
   go_ret
   exact⟨rfl,hB2.trans (hb3.mono hB2.size)⟩
end Go.Proofs.YtamhpmbjccjchaaGreatDoor
