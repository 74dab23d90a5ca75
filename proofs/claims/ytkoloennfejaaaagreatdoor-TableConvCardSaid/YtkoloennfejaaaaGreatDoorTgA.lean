/-
  table's methods of the convention: Args, Saved, Result, Slots, Machine.
-/
import Derived.Test.YtkoloennfejaaaaGreatDoorTfN
import Derived.Test.YtkoloennfejaaaaGreatDoorTcPP
set_option maxHeartbeats 1600000
set_option maxRecDepth 100000
namespace Go.Proofs.YtkoloennfejaaaaGreatDoor
open Go.RowKit
theorem jD.like{d:MachD}{L M:RegL}(h:jD d L)(hl:L.Like M)(hn:nmsL L=nmsL M)(hs:∀s,s∈nmsL L->Fit48 s):jD d M:=
 { h with regs:=RegL.allN_out M 0 (fun x hx=>hs _ (by rw[hn];exact List.mem_map_of_mem hx)),total:=by rw[←hl.total];exact h.total }
theorem qgQ(C:Nat)(s:SlV)(L:List Int)(w:World)(h14:w.cell? ⟨C,14,none⟩=some (.slice s.a s.n s.c))(hi:IntsR w s L)(hL:L.length<=100000) :
 Calls Tryz.prog 25 #[.pointer (some ⟨C,0,none⟩)] w (NewL w L):=by
 have K:=xm s L w hi.at_ (by have:=hi.len;omega) hi.nilc
 obtain⟨sa,sn,sc⟩:=s
 dsimp only at h14 K
 clear hi
 go_enter Tryz.func25,Tryz.ntmps25
 go_wp2_with (go_at_call 46;refine K.mono ?_;clear K;rintro e W2 hc;obtain⟨hb2,va,vn,vc,rfl,hr,hi⟩:=NewL.of hc;replace hr:=Lib.hid hr;replace hi:=Lib.hid hi;clear hc)
 go_ret
 exact⟨hb2,va,vn,vc,rfl,hr.out,hi.out⟩
theorem qfU(C:Nat)(s:SlV)(L:List Int)(w:World)(h16:w.cell? ⟨C,16,none⟩=some (.slice s.a s.n s.c))(hi:IntsR w s L)(hL:L.length<=100000) :
 Calls Tryz.prog 26 #[.pointer (some ⟨C,0,none⟩)] w (NewL w L):=by
 have K:=xm s L w hi.at_ (by have:=hi.len;omega) hi.nilc
 obtain⟨sa,sn,sc⟩:=s
 dsimp only at h16 K
 clear hi
 go_enter Tryz.func26,Tryz.ntmps26
 go_wp2_with (go_at_call 46;refine K.mono ?_;clear K;rintro e W2 hc;obtain⟨hb2,va,vn,vc,rfl,hr,hi⟩:=NewL.of hc;replace hr:=Lib.hid hr;replace hi:=Lib.hid hi;clear hc)
 go_ret
 exact⟨hb2,va,vn,vc,rfl,hr.out,hi.out⟩
theorem qeg(C:Nat)(r:Int)(w:World)(h15:w.cell? ⟨C,15,none⟩=some (.int .i64 r)) :
 Calls Tryz.prog 29 #[.pointer (some ⟨C,0,none⟩)] w fun e w'=>e = .returned (.int .i64 r)/\w=w':=by
 go_enter Tryz.func29,Tryz.ntmps29
 go_wp2_with fail
 go_ret
 exact⟨rfl,rfl⟩
theorem qfV(C:Nat)(r:Int)(w:World)(h7:w.cell? ⟨C,7,none⟩=some (.int .i64 r)) :
 Calls Tryz.prog 31 #[.pointer (some ⟨C,0,none⟩)] w fun e w'=>e = .returned (.int .i64 r)/\w=w':=by
 go_enter Tryz.func31,Tryz.ntmps31
 go_wp2_with fail
 go_ret
 exact⟨rfl,rfl⟩
def CopyM(d:MachD)(L:RegL)(w:World)(e:Ending)(w':World):Prop:=
 Below w.heap.size w w'/\∃ (m':MV) (M:RegL),e = .returned (.agg #[.string m'.name,.slice m'.regs.a m'.regs.n m'.regs.c,.slice m'.classes.a m'.classes.n m'.classes.c,.slice m'.ops.a m'.ops.n m'.ops.c,.slice m'.args.a m'.args.n m'.args.c,.string m'.result,.slice m'.saved.a m'.saved.n m'.saved.c,.int .i64 m'.slots])/\MachAt w' m' d M/\L.Like M/\(m'.regs.a≠none->m'.regs.n<=m'.regs.c)
theorem qcA(C:Nat)(tb:TB)(d:MachD)(L:RegL)(w:World)(hC:Cells w C 88 tb.cells)(h:MachAt w tb.m d L)(hf:jD d L)(hcap:tb.m.regs.a≠none->tb.m.regs.n<=tb.m.regs.c) :
 Calls Tryz.prog 33 #[.pointer (some ⟨C,0,none⟩)] w (CopyM d L w):=by
 obtain⟨w1,hw1⟩:∃w1,w1=w.alloc (.cells #[.string ⟨#[]⟩,.slice none 0 0,.slice none 0 0,.slice none 0 0,.slice none 0 0,.string ⟨#[]⟩,.slice none 0 0,.int .i64 0] 27):=⟨_,rfl⟩
 have hb0:Below w.heap.size w w1:=by rw[hw1];exact qe
 have h2:Cells w1 w.heap.size 27 #[.string ⟨#[]⟩,.slice none 0 0,.slice none 0 0,.slice none 0 0,.slice none 0 0,.string ⟨#[]⟩,.slice none 0 0,.int .i64 0]:=by rw[hw1];exact Cells.new _ _ _
 have K:=Jg tb.m d L w1 (h.belowT hb0) hf hcap
 have hC1:=hC.below hb0 hC.lt
 have x0:=hC1.cell (j:=0) (v:=.string tb.m.name) rfl
 have x1:=hC1.cell (j:=1) (v:=.slice tb.m.regs.a tb.m.regs.n tb.m.regs.c) rfl
 have x2:=hC1.cell (j:=2) (v:=.slice tb.m.classes.a tb.m.classes.n tb.m.classes.c) rfl
 have x3:=hC1.cell (j:=3) (v:=.slice tb.m.ops.a tb.m.ops.n tb.m.ops.c) rfl
 have x4:=hC1.cell (j:=4) (v:=.slice tb.m.args.a tb.m.args.n tb.m.args.c) rfl
 have x5:=hC1.cell (j:=5) (v:=.string tb.m.result) rfl
 have x6:=hC1.cell (j:=6) (v:=.slice tb.m.saved.a tb.m.saved.n tb.m.saved.c) rfl
 have x7:=hC1.cell (j:=7) (v:=.int .i64 tb.m.slots) rfl
 have hEn:=Lib.hid h.env
 have hEa:=Lib.hid h.envA
 have hlt:=h2.lt
 unfold MV.val at K
 generalize tb.m=m at *
 obtain⟨mn,⟨rga,rgn,rgc⟩,⟨kla,kln,klc⟩,⟨opa,opn,opc⟩,⟨ara,arn,arc⟩,mrs,⟨sva,svn,svc⟩,sl⟩:=m
 dsimp only at K x0 x1 x2 x3 x4 x5 x6 x7
 replace hw1:=Lib.hid hw1
 replace h2:=Lib.hid h2
 clear h hf hcap hC hC1
 go_enter Tryz.func33,Tryz.ntmps33
 go_upto_region 1 with fail
 rw[←hw1.out]
 go_wp2_with (go_at_call 58;refine K.mono ?_;clear K;rintro e W2 ⟨⟨n0,⟨ra,rn,rc⟩,⟨ka,kn,kc⟩,⟨oa,on,oc⟩,⟨aa,an,ac⟩,n1,⟨va,vn,vc⟩,ns⟩,M,rfl,hb,hm,hl,hc⟩;replace hm:=Lib.hid hm;replace hl:=Lib.hid hl;replace hc:=Lib.hid hc;have hR:=h2.out.below hb hlt;have r0:=hR.cell (j:=0) (v:=.string ⟨#[]⟩) rfl;have r1:=hR.cell (j:=1) (v:=.slice none 0 0) rfl;have r2:=hR.cell (j:=2) (v:=.slice none 0 0) rfl;have r3:=hR.cell (j:=3) (v:=.slice none 0 0) rfl;have r4:=hR.cell (j:=4) (v:=.slice none 0 0) rfl;have r5:=hR.cell (j:=5) (v:=.string ⟨#[]⟩) rfl;have r6:=hR.cell (j:=6) (v:=.slice none 0 0) rfl;have r7:=hR.cell (j:=7) (v:=.int .i64 0) rfl;have r8:=fun j=>hR.frozen j;replace hR:=Lib.hid hR)
 (try simp only[Exit.inBlock,Exit.then])
 have hbe:Below w.heap.size w W2:=hb0.trans (hb.mono hb0.size)
 have hsz:=hb.size
 have hfr:∀W',W2.grownBy W' (some w.heap.size)->Below w.heap.size w W'->MachAt W' ⟨n0,⟨ra,rn,rc⟩,⟨ka,kn,kc⟩,⟨oa,on,oc⟩,⟨aa,an,ac⟩,n1,⟨va,vn,vc⟩,ns⟩ d M:=fun W' hg hbw=>
  hm.out W' (fun b h1 h3=>hg.block b h3 (fun e=>by have:=Option.some.inj e;omega)) hg.size (hEn.out.below hbw) (hEa.out.below hbw)
 refine bodyPost_ret (v:=(MV.mk n0 ⟨ra,rn,rc⟩ ⟨ka,kn,kc⟩ ⟨oa,on,oc⟩ ⟨aa,an,ac⟩ n1 ⟨va,vn,vc⟩ ns).val) ?_ rfl ⟨?_,MV.mk n0 ⟨ra,rn,rc⟩ ⟨ka,kn,kc⟩ ⟨oa,on,oc⟩ ⟨aa,an,ac⟩ n1 ⟨va,vn,vc⟩ ns,M,rfl,hfr _ ?_ ?_,hl.out,hc.out⟩
 ·rw[qr rfl]
  unfold MV.val
  go_simp
 ·(repeat' (first|with_reducible exact hbe|refine Below.setCell ?_ (by simp) _))
 ·(repeat' (first|with_reducible exact qy _ _ _ _|with_reducible refine World.grownBy.trans ?_ (qy _ _ _ _)))
 ·(repeat' (first|with_reducible exact hbe|refine Below.setCell ?_ (by simp) _))
end Go.Proofs.YtkoloennfejaaaaGreatDoor
