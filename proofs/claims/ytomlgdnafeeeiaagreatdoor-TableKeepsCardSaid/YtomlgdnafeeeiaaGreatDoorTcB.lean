
import Derived.Test.YtomlgdnafeeeiaaGreatDoorTcM
import Derived.Test.YtomlgdnafeeeiaaGreatDoorTbP
set_option maxHeartbeats 4000000
set_option maxRecDepth 100000
/-
 A table's three rows: add,number,at.
-/
namespace Go.Proofs.YtomlgdnafeeeiaaGreatDoor
open Proofs.Tryz
open Go.RowKit Go.Maps
structure TB where
 m:MV
 rS:SlV
 rM:Option Nat
 cS:SlV
 cM:Option Nat
 oS:SlV
 oM:Option Nat
 args:SlV
 result:Int
 saved:SlV
 surv:SlV
def TB.cells(t:TB):Array Value:=#[.string t.m.name,.slice t.m.regs.a t.m.regs.n t.m.regs.c,.slice t.m.classes.a t.m.classes.n t.m.classes.c,.slice t.m.ops.a t.m.ops.n t.m.ops.c,.slice t.m.args.a t.m.args.n t.m.args.c,.string t.m.result,.slice t.m.saved.a t.m.saved.n t.m.saved.c,.int .i64 t.m.slots,
 .slice t.rS.a t.rS.n t.rS.c,.map t.rM,.slice t.cS.a t.cS.n t.cS.c,.map t.cM,.slice t.oS.a t.oS.n t.oS.c,.map t.oM,.slice t.args.a t.args.n t.args.c,.int .i64 t.result,.slice t.saved.a t.saved.n t.saved.c,.slice t.surv.a t.surv.n t.surv.c]
structure zZ where
 list:SlV
 set:SlV
 width:Int
def zZ.v(x:zZ):Array Value:=#[.slice x.list.a x.list.n x.list.c,.slice x.set.a x.set.n x.set.c,.int .i64 x.width]
def zZ.none:zZ:=⟨⟨.none,0,0⟩,⟨.none,0,0⟩,0⟩
structure OpT where
 may:SlV
 tie:Int
 clob:SlV
def OpT.v(x:OpT):Array Value:=#[.slice x.may.a x.may.n x.may.c,.int .i64 x.tie,.slice x.clob.a x.clob.n x.clob.c]
def OpT.none:OpT:=⟨⟨.none,0,0⟩,0,⟨.none,0,0⟩⟩
def xV(e:TypeId)(size B0 C:Nat)(tb:SlV->Option Nat->TB)(k:Nat)(xs:List Value)(l:List ByteArray)(w:World)(x:Ending)(w':World):Prop:=
 x = .returned (.tuple #[])/\qF B0 C w w'/\qt [85,e] w w'/\∃ (s:SlV) (M:Option Nat),qd w' C 85 (tb s M).cells/\w'.ownsRow B0 e size s.v (k+1) xs/\xI B0 w' M l
theorem qet:(prog.info? 95).map (fun i=>(i.zero,i.size,i.bytes))=some (some (.agg #[.string ⟨#[]⟩,.int .i64 0,.int .i64 0,.int .i64 0,.slice none 0 0]),5,64):=by kernel_rfl
theorem qhK(B0 C:Nat)(tb:TB)(k:Nat)(xs:List Value)(l:List ByteArray)(nm:ByteArray)(x:qY)(w:World)(hC:qd w C 85 tb.cells)(hB:B0<=w.heap.size)
 (hrow:w.ownsRow B0 95 5 tb.rS.v k xs) (hl:l.length=k) (hk:k<=1000) (hM:xI B0 w tb.rM l) (hno:nm∉l) (hnm:nm.size<=281474976710656) :
 Calls prog 75 #[.pointer (some ⟨C,8,none⟩),.string nm,.agg x.v] w (xV 95 5 B0 C (fun s M=>{ tb with rS:=s,rM:=M }) k (xs++x.v.toList) (l++[nm]) w):=by
 obtain⟨m,⟨ra,rn,rc⟩,rm,⟨ca,cn,cc⟩,cm,⟨oa,on,oc⟩,om,ag,rs,sv,sr⟩:=tb
 obtain⟨xn,xr,xa,xw,⟨la,ln,lc⟩⟩:=x
 simp only[qY.v,SlV.v] at *
 obtain⟨rfl,_⟩:rn=k/\True:=⟨by obtain⟨_,_,e⟩:=qx hrow;injection e,trivial⟩
 have hbx:BX w (w.alloc (.cells #[.string xn,.int .i64 xr,.int .i64 xa,.int .i64 xw,.slice la ln lc] 95)):=qi
 have hX:=qd.new w 95 #[.string xn,.int .i64 xr,.int .i64 xa,.int .i64 xw,.slice la ln lc]
 have hC1:=hC.below hbx hC.lt
 have hrow1:=qe hrow hbx
 have hM1:=hM.below hbx
 have hB1:qF B0 C w (w.alloc (.cells #[.string xn,.int .i64 xr,.int .i64 xa,.int .i64 xw,.slice la ln lc] 95)):=.of (hbx.mono hB)
 have hS1:qt [85,95] w (w.alloc (.cells #[.string xn,.int .i64 xr,.int .i64 xa,.int .i64 xw,.slice la ln lc] 95)):=.of_below hbx
 have hz1:w.heap.size<(w.alloc (.cells #[.string xn,.int .i64 xr,.int .i64 xa,.int .i64 xw,.slice la ln lc] 95)).heap.size:=by simp
 have hX0:w.heap.size≠C:=by have:=hC.lt;omega
 have hClt:=hC.lt
 have hmm:=@run_makeMap prog
 have heq:∀W,(binOp .eql 72 (.map none) (.map none)).run prog W = .ok (.bool true) W:=fun _=>by kernel_rfl
 have hne:∀B W,(binOp .eql 72 (.map (some B)) (.map none)).run prog W = .ok (.bool false) W:=fun _ _=>by kernel_rfl
 have c0:=hC.cell (j:=8) (v:=.slice ra rn rc) rfl
 have c1:=hC.cell (j:=9) (v:=.map rm) rfl
 have hlk:=vH hl
 have hsz:l.length=rn:=hl
 clear hl
 rcases hM1 with⟨rfl,hl0⟩|⟨B,D,rfl,hMB,hown,hrd⟩
 ·have hl0:=vH hl0
  have hCA:=hC1.alloc (.map #[] 0)
  have fa:=hCA.frozen 9
  have ca1:=hCA.cell (j:=9) (v:=.map none) rfl
  have fb:=hC.frozen 9
  have nw:=World.new_ne w _ c0
  have nw2:C≠w.heap.size+1:=by omega
  go_enter func75,ntmps75
  go_wp2_with fail
  clear fa ca1 fb nw nw2 hCA
  obtain⟨B,hBe⟩:∃B,B=w.heap.size+1:=⟨_,rfl⟩
  rw[←hBe]
  obtain⟨V,hV⟩:∃V,V=w.setCell ⟨C,9,none⟩ (.map (some B)):=⟨_,rfl⟩
  have hVz:V.heap.size=w.heap.size:=by rw[hV,World.size_setCell]
  have hCV:qd V C 85 (TB.cells ⟨m,⟨ra,rn,rc⟩,(some B),⟨ca,cn,cc⟩,cm,⟨oa,on,oc⟩,om,ag,rs,sv,sr⟩):=by rw[hV];exact hC.set (j:=9) (.map (some B))
  have hSV:qt [85,95] w V:=by rw[hV];exact qt.of_set hC (by simp) 9 (.map (some B))
  have hBV:qF B0 C w V:=by rw[hV];exact(qF.refl B0 C w).set (j:=9) (.map (some B))
  have hrowV:V.ownsRow B0 95 5 (.slice ra rn rc) rn xs:=by rw[hV];exact(qt.of_set (ts:=[85]) hC (by simp) 9 (.map (some B))).row hrow (by decide)
  rw[←hV]
  have hA1:BX V ((V.alloc (.cells #[.string xn,.int .i64 xr,.int .i64 xa,.int .i64 xw,.slice la ln lc] 95)).alloc (.map #[] 0)):=qi.alloc (by simp) _
  have hC2:=hCV.below hA1 hCV.lt
  have hS2:=hSV.trans (qt.of_below (ts:=[85,95]) hA1)
  have hB2:=qF.step hBV hA1 hB
  have hrow2:=qe hrowV hA1
  have hX2:=(qd.new V 95 #[.string xn,.int .i64 xr,.int .i64 xa,.int .i64 xw,.slice la ln lc]).alloc (.map #[] 0)
  rw[hVz] at hX2
  have hown:=World.ownsMap_made (V.alloc (.cells #[.string xn,.int .i64 xr,.int .i64 xa,.int .i64 xw,.slice la ln lc] 95)) prog 9 (plainElem (H:=Unit) prog 3)
  have hz:(V.alloc (.cells #[.string xn,.int .i64 xr,.int .i64 xa,.int .i64 xw,.slice la ln lc] 95)).heap.size=B:=by rw[hBe,←hVz];simp
  rw[hz] at hown
  replace hown:=hown.mono (vO l.length)
  have hrd:QV (.map []) l:=by rw[hl0.out];exact QV.nil
  have hMB:B0<=B:=by omega
  generalize hD:(DataW.map []:DataW Unit)=D at hown hrd
  generalize(V.alloc (.cells #[.string xn,.int .i64 xr,.int .i64 xa,.int .i64 xw,.slice la ln lc] 95)).alloc (.map #[] 0)=W at hC2 hS2 hB2 hrow2 hX2 hown ⊢
  clear hA1 hz hD hBe hV hVz hCV hSV hBV hrowV hC1 hrow1 hB1 hS1 hz1 c0 c1 hX hbx hmm hC hrow
  have d0:=hC2.cell (j:=8) (v:=.slice ra rn rc) rfl
  have d1:=hC2.cell (j:=9) (v:=.map (some B)) rfl
  go_still_tail 10,(by kernel_rfl)
  change wpList _ _ _ _ _ W.drew
  refine wpList_mapUpdate_own _ rfl _ _ _ 72 rfl 9 3 YU underlying72 _ B l.length D rfl hown (by unfold maxLen;omega) _ _ (Zv nm) rfl rfl (WideMaps.keyOf_string_mk underlying9 (by unfold maxLen;omega)) (.lit (.int .i64 rn)) [] (plainElem_int underlying3 (WalkArith.wf_i64 (by omega))) ?_
  intro W2 hown2 hgrow2
  go_wp2_with fail
  have hS3:qt [] W W2:=by
   obtain⟨es,ck,hb,_⟩:=hown
   exact qt.of_map hb (show W.grownBy W2 (some B) from⟨hgrow2.os,hgrow2.tape,hgrow2.output,hgrow2.size,hgrow2.block⟩)
  have hC3:=hS3.block _ _ _ (by simp) hC2
  have hX3:=hS3.block _ _ _ (by simp) hX2
  have hrow3:=hS3.row hrow2 (by simp)
  have hrd3:=hrd.put hno
  rw[hsz] at hrd3
  have hB3:qF B0 C w W2:=hB2.grown (c:=W2) (row:=some B) ⟨hgrow2.os,hgrow2.tape,hgrow2.output,hgrow2.size,hgrow2.block⟩ hB (fun k e=>by cases e;exact hMB)
  have hS4:=hS2.trans (hS3.mono (us:=[85,95]) (by simp))
  clear hS3 hgrow2 hown hB2 hS2 hrow2 hC2 hX2 d0 d1 hrd
  have e0:=hC3.cell (j:=8) (v:=.slice ra rn rc) rfl
  have f0:=hC3.frozen 8
  have ea:=fun o=>qk o e0
  have fa:=fun o=>(hC3.alloc o).frozen 8
  have y0:=hX3.cell (j:=0) (v:=.string xn) rfl
  have y1:=hX3.cell (j:=1) (v:=.int .i64 xr) rfl
  have y2:=hX3.cell (j:=2) (v:=.int .i64 xa) rfl
  have y3:=hX3.cell (j:=3) (v:=.int .i64 xw) rfl
  have y4:=hX3.cell (j:=4) (v:=.slice la ln lc) rfl
  have z0:=fun o=>qk o y0
  have z1:=fun o=>qk o y1
  have z2:=fun o=>qk o y2
  have z3:=fun o=>qk o y3
  have z4:=fun o=>qk o y4
  have hnr:=hC3.not_row (by decide) hrow3
  have hnC:=World.new_ne W2 _ e0
  have hW2:B0<=W2.heap.size:=vR hB hB3.size
  obtain⟨i0,hi0,hz0,hz1,hz2⟩:=info_parts qet
  have hC':=vH hC3
  clear hC3 hX3
  go_region_law (go_loud (refine step_append_lies _ (by rfl) _ _ _ (by rfl) B0 95 i0 _ 5 64 underlying71 hi0 hz0 hz1 hz2 rfl (by omega) (.slice ra rn rc) rn xs (by rfl) ((hrow3.alloc _).drew) ⟨W2.heap.size,0,none⟩ 1 1 [.string xn,.int .i64 xr,.int .i64 xa,.int .i64 xw,.slice la ln lc] (by rfl) (by rfl) (World.news_of_block (cs:=#[.string xn,.int .i64 xr,.int .i64 xa,.int .i64 xw,.slice la ln lc]) (t:=95) (fr:=(0,0)) (heap_alloc_new W2 _)) (by simp[Value.oneCell']) (by omega) (by unfold maxLen;omega) (by omega) (by simp;omega) (W2.heap.size+1) (by simp) ?_;intro gg gcap W6 hown1 hgrow hat hlt6;have hT6:=(qd.drewT (hC'.out.alloc _)).kept hgrow hnr;have f6:=hT6.frozen 8;have c6:=hT6.cell (j:=8) (v:=.slice ra rn rc) rfl))
  all_goals
   have hgr:W2.grownBy W6 (Value.slice ra rn rc).ownBlock:=qE (show(W2.alloc (.cells #[.string xn,.int .i64 xr,.int .i64 xa,.int .i64 xw,.slice la ln lc] 95)).grownBy W6 _ from⟨hgrow.os,hgrow.tape,hgrow.output,hgrow.size,hgrow.block⟩)
   have hb7:qF B0 C w (W6.setCell ⟨C,8,none⟩ (.slice (some ⟨gg,0,none⟩) (rn+1) gcap)):=(hB3.grown hgr hB (fun k e=>(qf hrow3 e).1)).set _
   have hs7:qt [85,95] w (W6.setCell ⟨C,8,none⟩ (.slice (some ⟨gg,0,none⟩) (rn+1) gcap)):=(hS4.trans (qt.of_grown hrow3 (by simp) hgr)).trans (qt.of_set hT6 (by simp) _ _)
   have hc7:=hT6.set (j:=8) (.slice (some ⟨gg,0,none⟩) (rn+1) gcap)
   have hr7:(W6.setCell ⟨C,8,none⟩ (.slice (some ⟨gg,0,none⟩) (rn+1) gcap)).ownsRow B0 95 5 (.slice (some ⟨gg,0,none⟩) (rn+1) gcap) (rn+1) (xs++[.string xn,.int .i64 xr,.int .i64 xa,.int .i64 xw,.slice la ln lc]):=
    (qt.of_set (ts:=[85]) hT6 (by simp) 8 (.slice (some ⟨gg,0,none⟩) (rn+1) gcap)).row hown1 (by decide)
   have hm7:xI B0 (W6.setCell ⟨C,8,none⟩ (.slice (some ⟨gg,0,none⟩) (rn+1) gcap)) (some B) (l++[nm]):=by
    refine .inr ⟨B,_,rfl,hMB,?_,hrd3⟩
    rw[kA,List.length_singleton]
    have hne:some B≠(Value.slice ra rn rc).ownBlock:=fun e=>by
     obtain⟨_,cur,hc⟩:=qf hrow3 e.symm
     obtain⟨es,ck,hb,_⟩:=hown2
     rw[show W2.heap[B]?=_ from hc] at hb
     cases hb
    have hneC:some B≠some C:=fun e=>by
     cases e
     obtain⟨es,ck,hb,_⟩:=hown2
     rw[show W2.heap[C]?=_ from hC'.out] at hb
     cases hb
    exact(hown2.kept hgr hne).kept (qZ W6 C 8 _) hneC
   have hfin:Hid (xV 95 5 B0 C (fun s M=>⟨m,s,M,⟨ca,cn,cc⟩,cm,⟨oa,on,oc⟩,om,ag,rs,sv,sr⟩) rn (xs++[.string xn,.int .i64 xr,.int .i64 xa,.int .i64 xw,.slice la ln lc]) (l++[nm]) w (.returned (.tuple #[])) (W6.setCell ⟨C,8,none⟩ (.slice (some ⟨gg,0,none⟩) (rn+1) gcap))):=vH ⟨rfl,hb7,hs7,⟨some ⟨gg,0,none⟩,rn+1,gcap⟩,some B,hc7,hr7,hm7⟩
   clear hb7 hs7 hc7 hr7 hm7 hgr hgrow hat hlt6 hT6 f6 c6 hown1 hown2
   go_end0
   exact hfin.out
 ·go_enter func75,ntmps75
  go_wp2_with fail
  have hC2:=hC1
  have hS2:=hS1
  have hB2:=hB1
  have hrow2:=hrow1
  have hX2:=hX
  generalize w.alloc (.cells #[.string xn,.int .i64 xr,.int .i64 xa,.int .i64 xw,.slice la ln lc] 95)=W at hC2 hS2 hB2 hrow2 hX2 hown ⊢
  clear hC1 hrow1 hB1 hS1 hz1 c0 c1 hX hbx hmm hC hrow
  have d0:=hC2.cell (j:=8) (v:=.slice ra rn rc) rfl
  have d1:=hC2.cell (j:=9) (v:=.map (some B)) rfl
  go_still_tail 10,(by kernel_rfl)
  change wpList _ _ _ _ _ W.drew
  refine wpList_mapUpdate_own _ rfl _ _ _ 72 rfl 9 3 YU underlying72 _ B l.length D rfl hown (by unfold maxLen;omega) _ _ (Zv nm) rfl rfl (WideMaps.keyOf_string_mk underlying9 (by unfold maxLen;omega)) (.lit (.int .i64 rn)) [] (plainElem_int underlying3 (WalkArith.wf_i64 (by omega))) ?_
  intro W2 hown2 hgrow2
  go_wp2_with fail
  have hS3:qt [] W W2:=by
   obtain⟨es,ck,hb,_⟩:=hown
   exact qt.of_map hb (show W.grownBy W2 (some B) from⟨hgrow2.os,hgrow2.tape,hgrow2.output,hgrow2.size,hgrow2.block⟩)
  have hC3:=hS3.block _ _ _ (by simp) hC2
  have hX3:=hS3.block _ _ _ (by simp) hX2
  have hrow3:=hS3.row hrow2 (by simp)
  have hrd3:=hrd.put hno
  rw[hsz] at hrd3
  have hB3:qF B0 C w W2:=hB2.grown (c:=W2) (row:=some B) ⟨hgrow2.os,hgrow2.tape,hgrow2.output,hgrow2.size,hgrow2.block⟩ hB (fun k e=>by cases e;exact hMB)
  have hS4:=hS2.trans (hS3.mono (us:=[85,95]) (by simp))
  clear hS3 hgrow2 hown hB2 hS2 hrow2 hC2 hX2 d0 d1 hrd
  have e0:=hC3.cell (j:=8) (v:=.slice ra rn rc) rfl
  have f0:=hC3.frozen 8
  have ea:=fun o=>qk o e0
  have fa:=fun o=>(hC3.alloc o).frozen 8
  have y0:=hX3.cell (j:=0) (v:=.string xn) rfl
  have y1:=hX3.cell (j:=1) (v:=.int .i64 xr) rfl
  have y2:=hX3.cell (j:=2) (v:=.int .i64 xa) rfl
  have y3:=hX3.cell (j:=3) (v:=.int .i64 xw) rfl
  have y4:=hX3.cell (j:=4) (v:=.slice la ln lc) rfl
  have z0:=fun o=>qk o y0
  have z1:=fun o=>qk o y1
  have z2:=fun o=>qk o y2
  have z3:=fun o=>qk o y3
  have z4:=fun o=>qk o y4
  have hnr:=hC3.not_row (by decide) hrow3
  have hnC:=World.new_ne W2 _ e0
  have hW2:B0<=W2.heap.size:=vR hB hB3.size
  obtain⟨i0,hi0,hz0,hz1,hz2⟩:=info_parts qet
  have hC':=vH hC3
  clear hC3 hX3
  go_region_law (go_loud (refine step_append_lies _ (by rfl) _ _ _ (by rfl) B0 95 i0 _ 5 64 underlying71 hi0 hz0 hz1 hz2 rfl (by omega) (.slice ra rn rc) rn xs (by rfl) ((hrow3.alloc _).drew) ⟨W2.heap.size,0,none⟩ 1 1 [.string xn,.int .i64 xr,.int .i64 xa,.int .i64 xw,.slice la ln lc] (by rfl) (by rfl) (World.news_of_block (cs:=#[.string xn,.int .i64 xr,.int .i64 xa,.int .i64 xw,.slice la ln lc]) (t:=95) (fr:=(0,0)) (heap_alloc_new W2 _)) (by simp[Value.oneCell']) (by omega) (by unfold maxLen;omega) (by omega) (by simp;omega) (W2.heap.size+1) (by simp) ?_;intro gg gcap W6 hown1 hgrow hat hlt6;have hT6:=(qd.drewT (hC'.out.alloc _)).kept hgrow hnr;have f6:=hT6.frozen 8;have c6:=hT6.cell (j:=8) (v:=.slice ra rn rc) rfl))
  all_goals
   have hgr:W2.grownBy W6 (Value.slice ra rn rc).ownBlock:=qE (show(W2.alloc (.cells #[.string xn,.int .i64 xr,.int .i64 xa,.int .i64 xw,.slice la ln lc] 95)).grownBy W6 _ from⟨hgrow.os,hgrow.tape,hgrow.output,hgrow.size,hgrow.block⟩)
   have hb7:qF B0 C w (W6.setCell ⟨C,8,none⟩ (.slice (some ⟨gg,0,none⟩) (rn+1) gcap)):=(hB3.grown hgr hB (fun k e=>(qf hrow3 e).1)).set _
   have hs7:qt [85,95] w (W6.setCell ⟨C,8,none⟩ (.slice (some ⟨gg,0,none⟩) (rn+1) gcap)):=(hS4.trans (qt.of_grown hrow3 (by simp) hgr)).trans (qt.of_set hT6 (by simp) _ _)
   have hc7:=hT6.set (j:=8) (.slice (some ⟨gg,0,none⟩) (rn+1) gcap)
   have hr7:(W6.setCell ⟨C,8,none⟩ (.slice (some ⟨gg,0,none⟩) (rn+1) gcap)).ownsRow B0 95 5 (.slice (some ⟨gg,0,none⟩) (rn+1) gcap) (rn+1) (xs++[.string xn,.int .i64 xr,.int .i64 xa,.int .i64 xw,.slice la ln lc]):=
    (qt.of_set (ts:=[85]) hT6 (by simp) 8 (.slice (some ⟨gg,0,none⟩) (rn+1) gcap)).row hown1 (by decide)
   have hm7:xI B0 (W6.setCell ⟨C,8,none⟩ (.slice (some ⟨gg,0,none⟩) (rn+1) gcap)) (some B) (l++[nm]):=by
    refine .inr ⟨B,_,rfl,hMB,?_,hrd3⟩
    rw[kA,List.length_singleton]
    have hne:some B≠(Value.slice ra rn rc).ownBlock:=fun e=>by
     obtain⟨_,cur,hc⟩:=qf hrow3 e.symm
     obtain⟨es,ck,hb,_⟩:=hown2
     rw[show W2.heap[B]?=_ from hc] at hb
     cases hb
    have hneC:some B≠some C:=fun e=>by
     cases e
     obtain⟨es,ck,hb,_⟩:=hown2
     rw[show W2.heap[C]?=_ from hC'.out] at hb
     cases hb
    exact(hown2.kept hgr hne).kept (qZ W6 C 8 _) hneC
   have hfin:Hid (xV 95 5 B0 C (fun s M=>⟨m,s,M,⟨ca,cn,cc⟩,cm,⟨oa,on,oc⟩,om,ag,rs,sv,sr⟩) rn (xs++[.string xn,.int .i64 xr,.int .i64 xa,.int .i64 xw,.slice la ln lc]) (l++[nm]) w (.returned (.tuple #[])) (W6.setCell ⟨C,8,none⟩ (.slice (some ⟨gg,0,none⟩) (rn+1) gcap))):=vH ⟨rfl,hb7,hs7,⟨some ⟨gg,0,none⟩,rn+1,gcap⟩,some B,hc7,hr7,hm7⟩
   clear hb7 hs7 hc7 hr7 hm7 hgr hgrow hat hlt6 hT6 f6 c6 hown1 hown2
   go_end0
   exact hfin.out
theorem qlt(base:Nat)(s:SlV)(mv:Option Nat)(l:List ByteArray)(nm:ByteArray)(w:World)(hM:xI base w mv l)(hnm:nm.size<=281474976710656) :
 Calls prog 89 #[.agg #[.slice s.a s.n s.c,.map mv],.string nm] w fun e w'=>e = .returned (.tuple #[.int .i64 (xG l nm),.bool (qbG l nm)])/\BX w w':=by
 obtain⟨sa,sn,sc⟩:=s
 rcases hM with⟨rfl,rfl⟩|⟨B,D,rfl,hMB,hown,hrd⟩
 ·have hln:∀W,(Instr.lookup 72 (.map none) (.string nm) true).run prog W = .ok (.tuple #[.int .i64 0,.bool false]) W:=fun _=>by kernel_rfl
  go_enter func89,ntmps89
  go_wp2_with fail
  go_ret2
  refine⟨rfl,?_⟩
  first|exact qi|exact qi.drew
 ·obtain⟨h1,h2⟩:=hrd.num nm
  replace h1:=vH h1
  replace h2:=vH h2
  have hownX:=hown.alloc (.cells #[.slice sa sn sc,.map (some B)] 74)
  go_enter func89,ntmps89
  go_wp2_with (at_lookup;refine wpList_lookup_own_ok_int _ rfl _ _ 72 rfl 9 3 .i64 YU underlying72 underlying3 (qgw _) B l.length D rfl hownX _ _ rfl (WideMaps.keyOf_string_mk underlying9 (by unfold maxLen;omega)) ?_;intro c hat hwc)
  have hc:c=xG l nm:=by
   have:=hat.symm.trans h2.out
   injection this with this
   injection this
  have hh:=h1.out
  subst hc
  change has D (.string nm.data.toList)=_ at hh
  try rw[hh]
  go_ret2
  refine⟨by first|rfl|(rw[hh]),?_⟩
  first|exact qi|exact qi.drew
theorem qeu:(prog.info? 126).map (fun i=>(i.zero,i.size,i.bytes))=some (some (.agg #[.slice none 0 0,.slice none 0 0,.int .i64 0]),3,56):=by kernel_rfl
theorem qhL(B0 C:Nat)(tb:TB)(k:Nat)(xs:List Value)(l:List ByteArray)(nm:ByteArray)(x:zZ)(w:World)(hC:qd w C 85 tb.cells)(hB:B0<=w.heap.size)
 (hrow:w.ownsRow B0 126 3 tb.cS.v k xs) (hl:l.length=k) (hk:k<=1000) (hM:xI B0 w tb.cM l) (hno:nm∉l) (hnm:nm.size<=281474976710656) :
 Calls prog 80 #[.pointer (some ⟨C,10,none⟩),.string nm,.agg x.v] w (xV 126 3 B0 C (fun s M=>{ tb with cS:=s,cM:=M }) k (xs++x.v.toList) (l++[nm]) w):=by
 obtain⟨m,⟨ra,rn,rc⟩,rm,⟨ca,cn,cc⟩,cm,⟨oa,on,oc⟩,om,ag,rs,sv,sr⟩:=tb
 obtain⟨⟨xa,xn,xc⟩,⟨ya,yn,yc⟩,xw⟩:=x
 simp only[zZ.v,SlV.v] at *
 obtain⟨rfl,_⟩:cn=k/\True:=⟨by obtain⟨_,_,e⟩:=qx hrow;injection e,trivial⟩
 have hbx:BX w (w.alloc (.cells #[.slice xa xn xc,.slice ya yn yc,.int .i64 xw] 126)):=qi
 have hX:=qd.new w 126 #[.slice xa xn xc,.slice ya yn yc,.int .i64 xw]
 have hC1:=hC.below hbx hC.lt
 have hrow1:=qe hrow hbx
 have hM1:=hM.below hbx
 have hB1:qF B0 C w (w.alloc (.cells #[.slice xa xn xc,.slice ya yn yc,.int .i64 xw] 126)):=.of (hbx.mono hB)
 have hS1:qt [85,126] w (w.alloc (.cells #[.slice xa xn xc,.slice ya yn yc,.int .i64 xw] 126)):=.of_below hbx
 have hz1:w.heap.size<(w.alloc (.cells #[.slice xa xn xc,.slice ya yn yc,.int .i64 xw] 126)).heap.size:=by simp
 have hX0:w.heap.size≠C:=by have:=hC.lt;omega
 have hClt:=hC.lt
 have hmm:=@run_makeMap prog
 have heq:∀W,(binOp .eql 72 (.map none) (.map none)).run prog W = .ok (.bool true) W:=fun _=>by kernel_rfl
 have hne:∀B W,(binOp .eql 72 (.map (some B)) (.map none)).run prog W = .ok (.bool false) W:=fun _ _=>by kernel_rfl
 have c0:=hC.cell (j:=10) (v:=.slice ca cn cc) rfl
 have c1:=hC.cell (j:=11) (v:=.map cm) rfl
 have hlk:=vH hl
 have hsz:l.length=cn:=hl
 clear hl
 rcases hM1 with⟨rfl,hl0⟩|⟨B,D,rfl,hMB,hown,hrd⟩
 ·have hl0:=vH hl0
  have hCA:=hC1.alloc (.map #[] 0)
  have fa:=hCA.frozen 11
  have ca1:=hCA.cell (j:=11) (v:=.map none) rfl
  have fb:=hC.frozen 11
  have nw:=World.new_ne w _ c0
  have nw2:C≠w.heap.size+1:=by omega
  go_enter func80,ntmps80
  go_wp2_with fail
  clear fa ca1 fb nw nw2 hCA
  obtain⟨B,hBe⟩:∃B,B=w.heap.size+1:=⟨_,rfl⟩
  rw[←hBe]
  obtain⟨V,hV⟩:∃V,V=w.setCell ⟨C,11,none⟩ (.map (some B)):=⟨_,rfl⟩
  have hVz:V.heap.size=w.heap.size:=by rw[hV,World.size_setCell]
  have hCV:qd V C 85 (TB.cells ⟨m,⟨ra,rn,rc⟩,rm,⟨ca,cn,cc⟩,(some B),⟨oa,on,oc⟩,om,ag,rs,sv,sr⟩):=by rw[hV];exact hC.set (j:=11) (.map (some B))
  have hSV:qt [85,126] w V:=by rw[hV];exact qt.of_set hC (by simp) 11 (.map (some B))
  have hBV:qF B0 C w V:=by rw[hV];exact(qF.refl B0 C w).set (j:=11) (.map (some B))
  have hrowV:V.ownsRow B0 126 3 (.slice ca cn cc) cn xs:=by rw[hV];exact(qt.of_set (ts:=[85]) hC (by simp) 11 (.map (some B))).row hrow (by decide)
  rw[←hV]
  have hA1:BX V ((V.alloc (.cells #[.slice xa xn xc,.slice ya yn yc,.int .i64 xw] 126)).alloc (.map #[] 0)):=qi.alloc (by simp) _
  have hC2:=hCV.below hA1 hCV.lt
  have hS2:=hSV.trans (qt.of_below (ts:=[85,126]) hA1)
  have hB2:=qF.step hBV hA1 hB
  have hrow2:=qe hrowV hA1
  have hX2:=(qd.new V 126 #[.slice xa xn xc,.slice ya yn yc,.int .i64 xw]).alloc (.map #[] 0)
  rw[hVz] at hX2
  have hown:=World.ownsMap_made (V.alloc (.cells #[.slice xa xn xc,.slice ya yn yc,.int .i64 xw] 126)) prog 9 (plainElem (H:=Unit) prog 3)
  have hz:(V.alloc (.cells #[.slice xa xn xc,.slice ya yn yc,.int .i64 xw] 126)).heap.size=B:=by rw[hBe,←hVz];simp
  rw[hz] at hown
  replace hown:=hown.mono (vO l.length)
  have hrd:QV (.map []) l:=by rw[hl0.out];exact QV.nil
  have hMB:B0<=B:=by omega
  generalize hD:(DataW.map []:DataW Unit)=D at hown hrd
  generalize(V.alloc (.cells #[.slice xa xn xc,.slice ya yn yc,.int .i64 xw] 126)).alloc (.map #[] 0)=W at hC2 hS2 hB2 hrow2 hX2 hown ⊢
  clear hA1 hz hD hBe hV hVz hCV hSV hBV hrowV hC1 hrow1 hB1 hS1 hz1 c0 c1 hX hbx hmm hC hrow
  have d0:=hC2.cell (j:=10) (v:=.slice ca cn cc) rfl
  have d1:=hC2.cell (j:=11) (v:=.map (some B)) rfl
  go_still_tail 10,(by kernel_rfl)
  change wpList _ _ _ _ _ W.drew
  refine wpList_mapUpdate_own _ rfl _ _ _ 72 rfl 9 3 YU underlying72 _ B l.length D rfl hown (by unfold maxLen;omega) _ _ (Zv nm) rfl rfl (WideMaps.keyOf_string_mk underlying9 (by unfold maxLen;omega)) (.lit (.int .i64 cn)) [] (plainElem_int underlying3 (WalkArith.wf_i64 (by omega))) ?_
  intro W2 hown2 hgrow2
  go_wp2_with fail
  have hS3:qt [] W W2:=by
   obtain⟨es,ck,hb,_⟩:=hown
   exact qt.of_map hb (show W.grownBy W2 (some B) from⟨hgrow2.os,hgrow2.tape,hgrow2.output,hgrow2.size,hgrow2.block⟩)
  have hC3:=hS3.block _ _ _ (by simp) hC2
  have hX3:=hS3.block _ _ _ (by simp) hX2
  have hrow3:=hS3.row hrow2 (by simp)
  have hrd3:=hrd.put hno
  rw[hsz] at hrd3
  have hB3:qF B0 C w W2:=hB2.grown (c:=W2) (row:=some B) ⟨hgrow2.os,hgrow2.tape,hgrow2.output,hgrow2.size,hgrow2.block⟩ hB (fun k e=>by cases e;exact hMB)
  have hS4:=hS2.trans (hS3.mono (us:=[85,126]) (by simp))
  clear hS3 hgrow2 hown hB2 hS2 hrow2 hC2 hX2 d0 d1 hrd
  have e0:=hC3.cell (j:=10) (v:=.slice ca cn cc) rfl
  have f0:=hC3.frozen 10
  have ea:=fun o=>qk o e0
  have fa:=fun o=>(hC3.alloc o).frozen 10
  have y0:=hX3.cell (j:=0) (v:=.slice xa xn xc) rfl
  have y1:=hX3.cell (j:=1) (v:=.slice ya yn yc) rfl
  have y2:=hX3.cell (j:=2) (v:=.int .i64 xw) rfl
  have z0:=fun o=>qk o y0
  have z1:=fun o=>qk o y1
  have z2:=fun o=>qk o y2
  have hnr:=hC3.not_row (by decide) hrow3
  have hnC:=World.new_ne W2 _ e0
  have hW2:B0<=W2.heap.size:=vR hB hB3.size
  obtain⟨i0,hi0,hz0,hz1,hz2⟩:=info_parts qeu
  have hC':=vH hC3
  clear hC3 hX3
  go_region_law (go_loud (refine step_append_lies _ (by rfl) _ _ _ (by rfl) B0 126 i0 _ 3 56 underlying75 hi0 hz0 hz1 hz2 rfl (by omega) (.slice ca cn cc) cn xs (by rfl) ((hrow3.alloc _).drew) ⟨W2.heap.size,0,none⟩ 1 1 [.slice xa xn xc,.slice ya yn yc,.int .i64 xw] (by rfl) (by rfl) (World.news_of_block (cs:=#[.slice xa xn xc,.slice ya yn yc,.int .i64 xw]) (t:=126) (fr:=(0,0)) (heap_alloc_new W2 _)) (by simp[Value.oneCell']) (by omega) (by unfold maxLen;omega) (by omega) (by simp;omega) (W2.heap.size+1) (by simp) ?_;intro gg gcap W6 hown1 hgrow hat hlt6;have hT6:=(qd.drewT (hC'.out.alloc _)).kept hgrow hnr;have f6:=hT6.frozen 10;have c6:=hT6.cell (j:=10) (v:=.slice ca cn cc) rfl))
  all_goals
   have hgr:W2.grownBy W6 (Value.slice ca cn cc).ownBlock:=qE (show(W2.alloc (.cells #[.slice xa xn xc,.slice ya yn yc,.int .i64 xw] 126)).grownBy W6 _ from⟨hgrow.os,hgrow.tape,hgrow.output,hgrow.size,hgrow.block⟩)
   have hb7:qF B0 C w (W6.setCell ⟨C,10,none⟩ (.slice (some ⟨gg,0,none⟩) (cn+1) gcap)):=(hB3.grown hgr hB (fun k e=>(qf hrow3 e).1)).set _
   have hs7:qt [85,126] w (W6.setCell ⟨C,10,none⟩ (.slice (some ⟨gg,0,none⟩) (cn+1) gcap)):=(hS4.trans (qt.of_grown hrow3 (by simp) hgr)).trans (qt.of_set hT6 (by simp) _ _)
   have hc7:=hT6.set (j:=10) (.slice (some ⟨gg,0,none⟩) (cn+1) gcap)
   have hr7:(W6.setCell ⟨C,10,none⟩ (.slice (some ⟨gg,0,none⟩) (cn+1) gcap)).ownsRow B0 126 3 (.slice (some ⟨gg,0,none⟩) (cn+1) gcap) (cn+1) (xs++[.slice xa xn xc,.slice ya yn yc,.int .i64 xw]):=
    (qt.of_set (ts:=[85]) hT6 (by simp) 10 (.slice (some ⟨gg,0,none⟩) (cn+1) gcap)).row hown1 (by decide)
   have hm7:xI B0 (W6.setCell ⟨C,10,none⟩ (.slice (some ⟨gg,0,none⟩) (cn+1) gcap)) (some B) (l++[nm]):=by
    refine .inr ⟨B,_,rfl,hMB,?_,hrd3⟩
    rw[kA,List.length_singleton]
    have hne:some B≠(Value.slice ca cn cc).ownBlock:=fun e=>by
     obtain⟨_,cur,hc⟩:=qf hrow3 e.symm
     obtain⟨es,ck,hb,_⟩:=hown2
     rw[show W2.heap[B]?=_ from hc] at hb
     cases hb
    have hneC:some B≠some C:=fun e=>by
     cases e
     obtain⟨es,ck,hb,_⟩:=hown2
     rw[show W2.heap[C]?=_ from hC'.out] at hb
     cases hb
    exact(hown2.kept hgr hne).kept (qZ W6 C 10 _) hneC
   have hfin:Hid (xV 126 3 B0 C (fun s M=>⟨m,⟨ra,rn,rc⟩,rm,s,M,⟨oa,on,oc⟩,om,ag,rs,sv,sr⟩) cn (xs++[.slice xa xn xc,.slice ya yn yc,.int .i64 xw]) (l++[nm]) w (.returned (.tuple #[])) (W6.setCell ⟨C,10,none⟩ (.slice (some ⟨gg,0,none⟩) (cn+1) gcap))):=vH ⟨rfl,hb7,hs7,⟨some ⟨gg,0,none⟩,cn+1,gcap⟩,some B,hc7,hr7,hm7⟩
   clear hb7 hs7 hc7 hr7 hm7 hgr hgrow hat hlt6 hT6 f6 c6 hown1 hown2
   go_end0
   exact hfin.out
 ·go_enter func80,ntmps80
  go_wp2_with fail
  have hC2:=hC1
  have hS2:=hS1
  have hB2:=hB1
  have hrow2:=hrow1
  have hX2:=hX
  generalize w.alloc (.cells #[.slice xa xn xc,.slice ya yn yc,.int .i64 xw] 126)=W at hC2 hS2 hB2 hrow2 hX2 hown ⊢
  clear hC1 hrow1 hB1 hS1 hz1 c0 c1 hX hbx hmm hC hrow
  have d0:=hC2.cell (j:=10) (v:=.slice ca cn cc) rfl
  have d1:=hC2.cell (j:=11) (v:=.map (some B)) rfl
  go_still_tail 10,(by kernel_rfl)
  change wpList _ _ _ _ _ W.drew
  refine wpList_mapUpdate_own _ rfl _ _ _ 72 rfl 9 3 YU underlying72 _ B l.length D rfl hown (by unfold maxLen;omega) _ _ (Zv nm) rfl rfl (WideMaps.keyOf_string_mk underlying9 (by unfold maxLen;omega)) (.lit (.int .i64 cn)) [] (plainElem_int underlying3 (WalkArith.wf_i64 (by omega))) ?_
  intro W2 hown2 hgrow2
  go_wp2_with fail
  have hS3:qt [] W W2:=by
   obtain⟨es,ck,hb,_⟩:=hown
   exact qt.of_map hb (show W.grownBy W2 (some B) from⟨hgrow2.os,hgrow2.tape,hgrow2.output,hgrow2.size,hgrow2.block⟩)
  have hC3:=hS3.block _ _ _ (by simp) hC2
  have hX3:=hS3.block _ _ _ (by simp) hX2
  have hrow3:=hS3.row hrow2 (by simp)
  have hrd3:=hrd.put hno
  rw[hsz] at hrd3
  have hB3:qF B0 C w W2:=hB2.grown (c:=W2) (row:=some B) ⟨hgrow2.os,hgrow2.tape,hgrow2.output,hgrow2.size,hgrow2.block⟩ hB (fun k e=>by cases e;exact hMB)
  have hS4:=hS2.trans (hS3.mono (us:=[85,126]) (by simp))
  clear hS3 hgrow2 hown hB2 hS2 hrow2 hC2 hX2 d0 d1 hrd
  have e0:=hC3.cell (j:=10) (v:=.slice ca cn cc) rfl
  have f0:=hC3.frozen 10
  have ea:=fun o=>qk o e0
  have fa:=fun o=>(hC3.alloc o).frozen 10
  have y0:=hX3.cell (j:=0) (v:=.slice xa xn xc) rfl
  have y1:=hX3.cell (j:=1) (v:=.slice ya yn yc) rfl
  have y2:=hX3.cell (j:=2) (v:=.int .i64 xw) rfl
  have z0:=fun o=>qk o y0
  have z1:=fun o=>qk o y1
  have z2:=fun o=>qk o y2
  have hnr:=hC3.not_row (by decide) hrow3
  have hnC:=World.new_ne W2 _ e0
  have hW2:B0<=W2.heap.size:=vR hB hB3.size
  obtain⟨i0,hi0,hz0,hz1,hz2⟩:=info_parts qeu
  have hC':=vH hC3
  clear hC3 hX3
  go_region_law (go_loud (refine step_append_lies _ (by rfl) _ _ _ (by rfl) B0 126 i0 _ 3 56 underlying75 hi0 hz0 hz1 hz2 rfl (by omega) (.slice ca cn cc) cn xs (by rfl) ((hrow3.alloc _).drew) ⟨W2.heap.size,0,none⟩ 1 1 [.slice xa xn xc,.slice ya yn yc,.int .i64 xw] (by rfl) (by rfl) (World.news_of_block (cs:=#[.slice xa xn xc,.slice ya yn yc,.int .i64 xw]) (t:=126) (fr:=(0,0)) (heap_alloc_new W2 _)) (by simp[Value.oneCell']) (by omega) (by unfold maxLen;omega) (by omega) (by simp;omega) (W2.heap.size+1) (by simp) ?_;intro gg gcap W6 hown1 hgrow hat hlt6;have hT6:=(qd.drewT (hC'.out.alloc _)).kept hgrow hnr;have f6:=hT6.frozen 10;have c6:=hT6.cell (j:=10) (v:=.slice ca cn cc) rfl))
  all_goals
   have hgr:W2.grownBy W6 (Value.slice ca cn cc).ownBlock:=qE (show(W2.alloc (.cells #[.slice xa xn xc,.slice ya yn yc,.int .i64 xw] 126)).grownBy W6 _ from⟨hgrow.os,hgrow.tape,hgrow.output,hgrow.size,hgrow.block⟩)
   have hb7:qF B0 C w (W6.setCell ⟨C,10,none⟩ (.slice (some ⟨gg,0,none⟩) (cn+1) gcap)):=(hB3.grown hgr hB (fun k e=>(qf hrow3 e).1)).set _
   have hs7:qt [85,126] w (W6.setCell ⟨C,10,none⟩ (.slice (some ⟨gg,0,none⟩) (cn+1) gcap)):=(hS4.trans (qt.of_grown hrow3 (by simp) hgr)).trans (qt.of_set hT6 (by simp) _ _)
   have hc7:=hT6.set (j:=10) (.slice (some ⟨gg,0,none⟩) (cn+1) gcap)
   have hr7:(W6.setCell ⟨C,10,none⟩ (.slice (some ⟨gg,0,none⟩) (cn+1) gcap)).ownsRow B0 126 3 (.slice (some ⟨gg,0,none⟩) (cn+1) gcap) (cn+1) (xs++[.slice xa xn xc,.slice ya yn yc,.int .i64 xw]):=
    (qt.of_set (ts:=[85]) hT6 (by simp) 10 (.slice (some ⟨gg,0,none⟩) (cn+1) gcap)).row hown1 (by decide)
   have hm7:xI B0 (W6.setCell ⟨C,10,none⟩ (.slice (some ⟨gg,0,none⟩) (cn+1) gcap)) (some B) (l++[nm]):=by
    refine .inr ⟨B,_,rfl,hMB,?_,hrd3⟩
    rw[kA,List.length_singleton]
    have hne:some B≠(Value.slice ca cn cc).ownBlock:=fun e=>by
     obtain⟨_,cur,hc⟩:=qf hrow3 e.symm
     obtain⟨es,ck,hb,_⟩:=hown2
     rw[show W2.heap[B]?=_ from hc] at hb
     cases hb
    have hneC:some B≠some C:=fun e=>by
     cases e
     obtain⟨es,ck,hb,_⟩:=hown2
     rw[show W2.heap[C]?=_ from hC'.out] at hb
     cases hb
    exact(hown2.kept hgr hne).kept (qZ W6 C 10 _) hneC
   have hfin:Hid (xV 126 3 B0 C (fun s M=>⟨m,⟨ra,rn,rc⟩,rm,s,M,⟨oa,on,oc⟩,om,ag,rs,sv,sr⟩) cn (xs++[.slice xa xn xc,.slice ya yn yc,.int .i64 xw]) (l++[nm]) w (.returned (.tuple #[])) (W6.setCell ⟨C,10,none⟩ (.slice (some ⟨gg,0,none⟩) (cn+1) gcap))):=vH ⟨rfl,hb7,hs7,⟨some ⟨gg,0,none⟩,cn+1,gcap⟩,some B,hc7,hr7,hm7⟩
   clear hb7 hs7 hc7 hr7 hm7 hgr hgrow hat hlt6 hT6 f6 c6 hown1 hown2
   go_end0
   exact hfin.out
theorem qlu(base:Nat)(s:SlV)(mv:Option Nat)(l:List ByteArray)(nm:ByteArray)(w:World)(hM:xI base w mv l)(hnm:nm.size<=281474976710656) :
 Calls prog 174 #[.agg #[.slice s.a s.n s.c,.map mv],.string nm] w fun e w'=>e = .returned (.tuple #[.int .i64 (xG l nm),.bool (qbG l nm)])/\BX w w':=by
 obtain⟨sa,sn,sc⟩:=s
 rcases hM with⟨rfl,rfl⟩|⟨B,D,rfl,hMB,hown,hrd⟩
 ·have hln:∀W,(Instr.lookup 72 (.map none) (.string nm) true).run prog W = .ok (.tuple #[.int .i64 0,.bool false]) W:=fun _=>by kernel_rfl
  go_enter func174,ntmps174
  go_wp2_with fail
  go_ret2
  refine⟨rfl,?_⟩
  first|exact qi|exact qi.drew
 ·obtain⟨h1,h2⟩:=hrd.num nm
  replace h1:=vH h1
  replace h2:=vH h2
  have hownX:=hown.alloc (.cells #[.slice sa sn sc,.map (some B)] 77)
  go_enter func174,ntmps174
  go_wp2_with (at_lookup;refine wpList_lookup_own_ok_int _ rfl _ _ 72 rfl 9 3 .i64 YU underlying72 underlying3 (qgw _) B l.length D rfl hownX _ _ rfl (WideMaps.keyOf_string_mk underlying9 (by unfold maxLen;omega)) ?_;intro c hat hwc)
  have hc:c=xG l nm:=by
   have:=hat.symm.trans h2.out
   injection this with this
   injection this
  have hh:=h1.out
  subst hc
  change has D (.string nm.data.toList)=_ at hh
  try rw[hh]
  go_ret2
  refine⟨by first|rfl|(rw[hh]),?_⟩
  first|exact qi|exact qi.drew
theorem qgA:(prog.info? 133).map (fun i=>(i.zero,i.size,i.bytes))=some (some (.agg #[.slice none 0 0,.int .i64 0,.slice none 0 0]),3,56):=by kernel_rfl
theorem qhM(B0 C:Nat)(tb:TB)(k:Nat)(xs:List Value)(l:List ByteArray)(nm:ByteArray)(x:OpT)(w:World)(hC:qd w C 85 tb.cells)(hB:B0<=w.heap.size)
 (hrow:w.ownsRow B0 133 3 tb.oS.v k xs) (hl:l.length=k) (hk:k<=1000) (hM:xI B0 w tb.oM l) (hno:nm∉l) (hnm:nm.size<=281474976710656) :
 Calls prog 85 #[.pointer (some ⟨C,12,none⟩),.string nm,.agg x.v] w (xV 133 3 B0 C (fun s M=>{ tb with oS:=s,oM:=M }) k (xs++x.v.toList) (l++[nm]) w):=by
 obtain⟨m,⟨ra,rn,rc⟩,rm,⟨ca,cn,cc⟩,cm,⟨oa,on,oc⟩,om,ag,rs,sv,sr⟩:=tb
 obtain⟨⟨xa,xn,xc⟩,xt,⟨ya,yn,yc⟩⟩:=x
 simp only[OpT.v,SlV.v] at *
 obtain⟨rfl,_⟩:on=k/\True:=⟨by obtain⟨_,_,e⟩:=qx hrow;injection e,trivial⟩
 have hbx:BX w (w.alloc (.cells #[.slice xa xn xc,.int .i64 xt,.slice ya yn yc] 133)):=qi
 have hX:=qd.new w 133 #[.slice xa xn xc,.int .i64 xt,.slice ya yn yc]
 have hC1:=hC.below hbx hC.lt
 have hrow1:=qe hrow hbx
 have hM1:=hM.below hbx
 have hB1:qF B0 C w (w.alloc (.cells #[.slice xa xn xc,.int .i64 xt,.slice ya yn yc] 133)):=.of (hbx.mono hB)
 have hS1:qt [85,133] w (w.alloc (.cells #[.slice xa xn xc,.int .i64 xt,.slice ya yn yc] 133)):=.of_below hbx
 have hz1:w.heap.size<(w.alloc (.cells #[.slice xa xn xc,.int .i64 xt,.slice ya yn yc] 133)).heap.size:=by simp
 have hX0:w.heap.size≠C:=by have:=hC.lt;omega
 have hClt:=hC.lt
 have hmm:=@run_makeMap prog
 have heq:∀W,(binOp .eql 72 (.map none) (.map none)).run prog W = .ok (.bool true) W:=fun _=>by kernel_rfl
 have hne:∀B W,(binOp .eql 72 (.map (some B)) (.map none)).run prog W = .ok (.bool false) W:=fun _ _=>by kernel_rfl
 have c0:=hC.cell (j:=12) (v:=.slice oa on oc) rfl
 have c1:=hC.cell (j:=13) (v:=.map om) rfl
 have hlk:=vH hl
 have hsz:l.length=on:=hl
 clear hl
 rcases hM1 with⟨rfl,hl0⟩|⟨B,D,rfl,hMB,hown,hrd⟩
 ·have hl0:=vH hl0
  have hCA:=hC1.alloc (.map #[] 0)
  have fa:=hCA.frozen 13
  have ca1:=hCA.cell (j:=13) (v:=.map none) rfl
  have fb:=hC.frozen 13
  have nw:=World.new_ne w _ c0
  have nw2:C≠w.heap.size+1:=by omega
  go_enter func85,ntmps85
  go_wp2_with fail
  clear fa ca1 fb nw nw2 hCA
  obtain⟨B,hBe⟩:∃B,B=w.heap.size+1:=⟨_,rfl⟩
  rw[←hBe]
  obtain⟨V,hV⟩:∃V,V=w.setCell ⟨C,13,none⟩ (.map (some B)):=⟨_,rfl⟩
  have hVz:V.heap.size=w.heap.size:=by rw[hV,World.size_setCell]
  have hCV:qd V C 85 (TB.cells ⟨m,⟨ra,rn,rc⟩,rm,⟨ca,cn,cc⟩,cm,⟨oa,on,oc⟩,(some B),ag,rs,sv,sr⟩):=by rw[hV];exact hC.set (j:=13) (.map (some B))
  have hSV:qt [85,133] w V:=by rw[hV];exact qt.of_set hC (by simp) 13 (.map (some B))
  have hBV:qF B0 C w V:=by rw[hV];exact(qF.refl B0 C w).set (j:=13) (.map (some B))
  have hrowV:V.ownsRow B0 133 3 (.slice oa on oc) on xs:=by rw[hV];exact(qt.of_set (ts:=[85]) hC (by simp) 13 (.map (some B))).row hrow (by decide)
  rw[←hV]
  have hA1:BX V ((V.alloc (.cells #[.slice xa xn xc,.int .i64 xt,.slice ya yn yc] 133)).alloc (.map #[] 0)):=qi.alloc (by simp) _
  have hC2:=hCV.below hA1 hCV.lt
  have hS2:=hSV.trans (qt.of_below (ts:=[85,133]) hA1)
  have hB2:=qF.step hBV hA1 hB
  have hrow2:=qe hrowV hA1
  have hX2:=(qd.new V 133 #[.slice xa xn xc,.int .i64 xt,.slice ya yn yc]).alloc (.map #[] 0)
  rw[hVz] at hX2
  have hown:=World.ownsMap_made (V.alloc (.cells #[.slice xa xn xc,.int .i64 xt,.slice ya yn yc] 133)) prog 9 (plainElem (H:=Unit) prog 3)
  have hz:(V.alloc (.cells #[.slice xa xn xc,.int .i64 xt,.slice ya yn yc] 133)).heap.size=B:=by rw[hBe,←hVz];simp
  rw[hz] at hown
  replace hown:=hown.mono (vO l.length)
  have hrd:QV (.map []) l:=by rw[hl0.out];exact QV.nil
  have hMB:B0<=B:=by omega
  generalize hD:(DataW.map []:DataW Unit)=D at hown hrd
  generalize(V.alloc (.cells #[.slice xa xn xc,.int .i64 xt,.slice ya yn yc] 133)).alloc (.map #[] 0)=W at hC2 hS2 hB2 hrow2 hX2 hown ⊢
  clear hA1 hz hD hBe hV hVz hCV hSV hBV hrowV hC1 hrow1 hB1 hS1 hz1 c0 c1 hX hbx hmm hC hrow
  have d0:=hC2.cell (j:=12) (v:=.slice oa on oc) rfl
  have d1:=hC2.cell (j:=13) (v:=.map (some B)) rfl
  go_still_tail 10,(by kernel_rfl)
  change wpList _ _ _ _ _ W.drew
  refine wpList_mapUpdate_own _ rfl _ _ _ 72 rfl 9 3 YU underlying72 _ B l.length D rfl hown (by unfold maxLen;omega) _ _ (Zv nm) rfl rfl (WideMaps.keyOf_string_mk underlying9 (by unfold maxLen;omega)) (.lit (.int .i64 on)) [] (plainElem_int underlying3 (WalkArith.wf_i64 (by omega))) ?_
  intro W2 hown2 hgrow2
  go_wp2_with fail
  have hS3:qt [] W W2:=by
   obtain⟨es,ck,hb,_⟩:=hown
   exact qt.of_map hb (show W.grownBy W2 (some B) from⟨hgrow2.os,hgrow2.tape,hgrow2.output,hgrow2.size,hgrow2.block⟩)
  have hC3:=hS3.block _ _ _ (by simp) hC2
  have hX3:=hS3.block _ _ _ (by simp) hX2
  have hrow3:=hS3.row hrow2 (by simp)
  have hrd3:=hrd.put hno
  rw[hsz] at hrd3
  have hB3:qF B0 C w W2:=hB2.grown (c:=W2) (row:=some B) ⟨hgrow2.os,hgrow2.tape,hgrow2.output,hgrow2.size,hgrow2.block⟩ hB (fun k e=>by cases e;exact hMB)
  have hS4:=hS2.trans (hS3.mono (us:=[85,133]) (by simp))
  clear hS3 hgrow2 hown hB2 hS2 hrow2 hC2 hX2 d0 d1 hrd
  have e0:=hC3.cell (j:=12) (v:=.slice oa on oc) rfl
  have f0:=hC3.frozen 12
  have ea:=fun o=>qk o e0
  have fa:=fun o=>(hC3.alloc o).frozen 12
  have y0:=hX3.cell (j:=0) (v:=.slice xa xn xc) rfl
  have y1:=hX3.cell (j:=1) (v:=.int .i64 xt) rfl
  have y2:=hX3.cell (j:=2) (v:=.slice ya yn yc) rfl
  have z0:=fun o=>qk o y0
  have z1:=fun o=>qk o y1
  have z2:=fun o=>qk o y2
  have hnr:=hC3.not_row (by decide) hrow3
  have hnC:=World.new_ne W2 _ e0
  have hW2:B0<=W2.heap.size:=vR hB hB3.size
  obtain⟨i0,hi0,hz0,hz1,hz2⟩:=info_parts qgA
  have hC':=vH hC3
  clear hC3 hX3
  go_region_law (go_loud (refine step_append_lies _ (by rfl) _ _ _ (by rfl) B0 133 i0 _ 3 56 underlying78 hi0 hz0 hz1 hz2 rfl (by omega) (.slice oa on oc) on xs (by rfl) ((hrow3.alloc _).drew) ⟨W2.heap.size,0,none⟩ 1 1 [.slice xa xn xc,.int .i64 xt,.slice ya yn yc] (by rfl) (by rfl) (World.news_of_block (cs:=#[.slice xa xn xc,.int .i64 xt,.slice ya yn yc]) (t:=133) (fr:=(0,0)) (heap_alloc_new W2 _)) (by simp[Value.oneCell']) (by omega) (by unfold maxLen;omega) (by omega) (by simp;omega) (W2.heap.size+1) (by simp) ?_;intro gg gcap W6 hown1 hgrow hat hlt6;have hT6:=(qd.drewT (hC'.out.alloc _)).kept hgrow hnr;have f6:=hT6.frozen 12;have c6:=hT6.cell (j:=12) (v:=.slice oa on oc) rfl))
  all_goals
   have hgr:W2.grownBy W6 (Value.slice oa on oc).ownBlock:=qE (show(W2.alloc (.cells #[.slice xa xn xc,.int .i64 xt,.slice ya yn yc] 133)).grownBy W6 _ from⟨hgrow.os,hgrow.tape,hgrow.output,hgrow.size,hgrow.block⟩)
   have hb7:qF B0 C w (W6.setCell ⟨C,12,none⟩ (.slice (some ⟨gg,0,none⟩) (on+1) gcap)):=(hB3.grown hgr hB (fun k e=>(qf hrow3 e).1)).set _
   have hs7:qt [85,133] w (W6.setCell ⟨C,12,none⟩ (.slice (some ⟨gg,0,none⟩) (on+1) gcap)):=(hS4.trans (qt.of_grown hrow3 (by simp) hgr)).trans (qt.of_set hT6 (by simp) _ _)
   have hc7:=hT6.set (j:=12) (.slice (some ⟨gg,0,none⟩) (on+1) gcap)
   have hr7:(W6.setCell ⟨C,12,none⟩ (.slice (some ⟨gg,0,none⟩) (on+1) gcap)).ownsRow B0 133 3 (.slice (some ⟨gg,0,none⟩) (on+1) gcap) (on+1) (xs++[.slice xa xn xc,.int .i64 xt,.slice ya yn yc]):=
    (qt.of_set (ts:=[85]) hT6 (by simp) 12 (.slice (some ⟨gg,0,none⟩) (on+1) gcap)).row hown1 (by decide)
   have hm7:xI B0 (W6.setCell ⟨C,12,none⟩ (.slice (some ⟨gg,0,none⟩) (on+1) gcap)) (some B) (l++[nm]):=by
    refine .inr ⟨B,_,rfl,hMB,?_,hrd3⟩
    rw[kA,List.length_singleton]
    have hne:some B≠(Value.slice oa on oc).ownBlock:=fun e=>by
     obtain⟨_,cur,hc⟩:=qf hrow3 e.symm
     obtain⟨es,ck,hb,_⟩:=hown2
     rw[show W2.heap[B]?=_ from hc] at hb
     cases hb
    have hneC:some B≠some C:=fun e=>by
     cases e
     obtain⟨es,ck,hb,_⟩:=hown2
     rw[show W2.heap[C]?=_ from hC'.out] at hb
     cases hb
    exact(hown2.kept hgr hne).kept (qZ W6 C 12 _) hneC
   have hfin:Hid (xV 133 3 B0 C (fun s M=>⟨m,⟨ra,rn,rc⟩,rm,⟨ca,cn,cc⟩,cm,s,M,ag,rs,sv,sr⟩) on (xs++[.slice xa xn xc,.int .i64 xt,.slice ya yn yc]) (l++[nm]) w (.returned (.tuple #[])) (W6.setCell ⟨C,12,none⟩ (.slice (some ⟨gg,0,none⟩) (on+1) gcap))):=vH ⟨rfl,hb7,hs7,⟨some ⟨gg,0,none⟩,on+1,gcap⟩,some B,hc7,hr7,hm7⟩
   clear hb7 hs7 hc7 hr7 hm7 hgr hgrow hat hlt6 hT6 f6 c6 hown1 hown2
   go_end0
   exact hfin.out
 ·go_enter func85,ntmps85
  go_wp2_with fail
  have hC2:=hC1
  have hS2:=hS1
  have hB2:=hB1
  have hrow2:=hrow1
  have hX2:=hX
  generalize w.alloc (.cells #[.slice xa xn xc,.int .i64 xt,.slice ya yn yc] 133)=W at hC2 hS2 hB2 hrow2 hX2 hown ⊢
  clear hC1 hrow1 hB1 hS1 hz1 c0 c1 hX hbx hmm hC hrow
  have d0:=hC2.cell (j:=12) (v:=.slice oa on oc) rfl
  have d1:=hC2.cell (j:=13) (v:=.map (some B)) rfl
  go_still_tail 10,(by kernel_rfl)
  change wpList _ _ _ _ _ W.drew
  refine wpList_mapUpdate_own _ rfl _ _ _ 72 rfl 9 3 YU underlying72 _ B l.length D rfl hown (by unfold maxLen;omega) _ _ (Zv nm) rfl rfl (WideMaps.keyOf_string_mk underlying9 (by unfold maxLen;omega)) (.lit (.int .i64 on)) [] (plainElem_int underlying3 (WalkArith.wf_i64 (by omega))) ?_
  intro W2 hown2 hgrow2
  go_wp2_with fail
  have hS3:qt [] W W2:=by
   obtain⟨es,ck,hb,_⟩:=hown
   exact qt.of_map hb (show W.grownBy W2 (some B) from⟨hgrow2.os,hgrow2.tape,hgrow2.output,hgrow2.size,hgrow2.block⟩)
  have hC3:=hS3.block _ _ _ (by simp) hC2
  have hX3:=hS3.block _ _ _ (by simp) hX2
  have hrow3:=hS3.row hrow2 (by simp)
  have hrd3:=hrd.put hno
  rw[hsz] at hrd3
  have hB3:qF B0 C w W2:=hB2.grown (c:=W2) (row:=some B) ⟨hgrow2.os,hgrow2.tape,hgrow2.output,hgrow2.size,hgrow2.block⟩ hB (fun k e=>by cases e;exact hMB)
  have hS4:=hS2.trans (hS3.mono (us:=[85,133]) (by simp))
  clear hS3 hgrow2 hown hB2 hS2 hrow2 hC2 hX2 d0 d1 hrd
  have e0:=hC3.cell (j:=12) (v:=.slice oa on oc) rfl
  have f0:=hC3.frozen 12
  have ea:=fun o=>qk o e0
  have fa:=fun o=>(hC3.alloc o).frozen 12
  have y0:=hX3.cell (j:=0) (v:=.slice xa xn xc) rfl
  have y1:=hX3.cell (j:=1) (v:=.int .i64 xt) rfl
  have y2:=hX3.cell (j:=2) (v:=.slice ya yn yc) rfl
  have z0:=fun o=>qk o y0
  have z1:=fun o=>qk o y1
  have z2:=fun o=>qk o y2
  have hnr:=hC3.not_row (by decide) hrow3
  have hnC:=World.new_ne W2 _ e0
  have hW2:B0<=W2.heap.size:=vR hB hB3.size
  obtain⟨i0,hi0,hz0,hz1,hz2⟩:=info_parts qgA
  have hC':=vH hC3
  clear hC3 hX3
  go_region_law (go_loud (refine step_append_lies _ (by rfl) _ _ _ (by rfl) B0 133 i0 _ 3 56 underlying78 hi0 hz0 hz1 hz2 rfl (by omega) (.slice oa on oc) on xs (by rfl) ((hrow3.alloc _).drew) ⟨W2.heap.size,0,none⟩ 1 1 [.slice xa xn xc,.int .i64 xt,.slice ya yn yc] (by rfl) (by rfl) (World.news_of_block (cs:=#[.slice xa xn xc,.int .i64 xt,.slice ya yn yc]) (t:=133) (fr:=(0,0)) (heap_alloc_new W2 _)) (by simp[Value.oneCell']) (by omega) (by unfold maxLen;omega) (by omega) (by simp;omega) (W2.heap.size+1) (by simp) ?_;intro gg gcap W6 hown1 hgrow hat hlt6;have hT6:=(qd.drewT (hC'.out.alloc _)).kept hgrow hnr;have f6:=hT6.frozen 12;have c6:=hT6.cell (j:=12) (v:=.slice oa on oc) rfl))
  all_goals
   have hgr:W2.grownBy W6 (Value.slice oa on oc).ownBlock:=qE (show(W2.alloc (.cells #[.slice xa xn xc,.int .i64 xt,.slice ya yn yc] 133)).grownBy W6 _ from⟨hgrow.os,hgrow.tape,hgrow.output,hgrow.size,hgrow.block⟩)
   have hb7:qF B0 C w (W6.setCell ⟨C,12,none⟩ (.slice (some ⟨gg,0,none⟩) (on+1) gcap)):=(hB3.grown hgr hB (fun k e=>(qf hrow3 e).1)).set _
   have hs7:qt [85,133] w (W6.setCell ⟨C,12,none⟩ (.slice (some ⟨gg,0,none⟩) (on+1) gcap)):=(hS4.trans (qt.of_grown hrow3 (by simp) hgr)).trans (qt.of_set hT6 (by simp) _ _)
   have hc7:=hT6.set (j:=12) (.slice (some ⟨gg,0,none⟩) (on+1) gcap)
   have hr7:(W6.setCell ⟨C,12,none⟩ (.slice (some ⟨gg,0,none⟩) (on+1) gcap)).ownsRow B0 133 3 (.slice (some ⟨gg,0,none⟩) (on+1) gcap) (on+1) (xs++[.slice xa xn xc,.int .i64 xt,.slice ya yn yc]):=
    (qt.of_set (ts:=[85]) hT6 (by simp) 12 (.slice (some ⟨gg,0,none⟩) (on+1) gcap)).row hown1 (by decide)
   have hm7:xI B0 (W6.setCell ⟨C,12,none⟩ (.slice (some ⟨gg,0,none⟩) (on+1) gcap)) (some B) (l++[nm]):=by
    refine .inr ⟨B,_,rfl,hMB,?_,hrd3⟩
    rw[kA,List.length_singleton]
    have hne:some B≠(Value.slice oa on oc).ownBlock:=fun e=>by
     obtain⟨_,cur,hc⟩:=qf hrow3 e.symm
     obtain⟨es,ck,hb,_⟩:=hown2
     rw[show W2.heap[B]?=_ from hc] at hb
     cases hb
    have hneC:some B≠some C:=fun e=>by
     cases e
     obtain⟨es,ck,hb,_⟩:=hown2
     rw[show W2.heap[C]?=_ from hC'.out] at hb
     cases hb
    exact(hown2.kept hgr hne).kept (qZ W6 C 12 _) hneC
   have hfin:Hid (xV 133 3 B0 C (fun s M=>⟨m,⟨ra,rn,rc⟩,rm,⟨ca,cn,cc⟩,cm,s,M,ag,rs,sv,sr⟩) on (xs++[.slice xa xn xc,.int .i64 xt,.slice ya yn yc]) (l++[nm]) w (.returned (.tuple #[])) (W6.setCell ⟨C,12,none⟩ (.slice (some ⟨gg,0,none⟩) (on+1) gcap))):=vH ⟨rfl,hb7,hs7,⟨some ⟨gg,0,none⟩,on+1,gcap⟩,some B,hc7,hr7,hm7⟩
   clear hb7 hs7 hc7 hr7 hm7 hgr hgrow hat hlt6 hT6 f6 c6 hown1 hown2
   go_end0
   exact hfin.out
end Go.Proofs.YtomlgdnafeeeiaaGreatDoor
