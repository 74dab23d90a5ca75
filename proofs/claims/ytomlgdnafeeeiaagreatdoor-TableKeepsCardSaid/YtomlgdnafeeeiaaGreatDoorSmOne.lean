
import Derived.Test.YtomlgdnafeeeiaaGreatDoorMdFour
import Derived.Deep.CutBlock
set_option maxHeartbeats 8000000
set_option maxRecDepth 100000
/-
 Small: a machine of n registers is made. And what follows: see the heads within.
-/
namespace Go.Proofs.YtomlgdnafeeeiaaGreatDoor
open Proofs.Tryz
open Go.RowKit
theorem qdR:(prog.info? 40).map (fun i=>(i.zero,i.size,i.bytes))=some (some (.agg #[.string ⟨#[]⟩,.int .i64 0,.int .i64 0,.slice none 0 0]),4,56):=by kernel_rfl
theorem JP:(prog.info? 9).map (fun i=>(i.zero,i.size,i.bytes))=some (some (.string ⟨#[]⟩),1,16):=by kernel_rfl
def qiR:ByteArray:=⟨#[48,49,50,51,52,53,54,55,56,57]⟩
def Xe(k:Nat):ByteArray:=(⟨#[114]⟩++qiR.extract (k/10) (k/10+1))++qiR.extract (k%10) (k%10+1)
def qgs(k:Nat):List Value:=[.string (Xe k),.int .i64 8,.int .i64 0,.slice none 0 0]
def yJ(k:Nat):List Value:=(List.range k).flatMap qgs
def jB(k:Nat):List ByteArray:=(List.range k).map Xe
theorem qdS(k:Nat):yJ (k+1)=yJ k++qgs k:=by simp[yJ,List.range_succ]
theorem qdT(k:Nat):jB (k+1)=jB k++[Xe k]:=by simp[jB,List.range_succ]
structure qbX(w:World)(k:Nat)(v u:SlV)(wr:World):Prop where
 below:BX w wr
 res:qd wr w.heap.size 27 #[.string ⟨#[]⟩,.slice none 0 0,.slice none 0 0,.slice none 0 0,.slice none 0 0,.string ⟨#[]⟩,.slice none 0 0,.int .i64 0]
 m:qd wr (w.heap.size+1) 27 #[.string ⟨#[109]⟩,.slice v.a v.n v.c,.slice none 0 0,.slice none 0 0,.slice none 0 0,.string ⟨#[]⟩,.slice none 0 0,.int .i64 100]
 c:qd wr (w.heap.size+1+1) 42 #[.string ⟨#[103]⟩,.slice u.a u.n u.c]
 regs:wr.ownsRow w.heap.size 40 4 (.slice v.a v.n v.c) k (yJ k)
 names:wr.ownsRow w.heap.size 9 1 (.slice u.a u.n u.c) k ((jB k).map Value.string)
theorem qbX.step{w:World}{k:Nat}{v u:SlV}{A B:World}(h:qbX w k v u A)(hb:BX A B):qbX w k v u B:=
 ⟨h.below.trans (hb.mono h.below.size),h.res.below hb h.res.lt,h.m.below hb h.m.lt,h.c.below hb h.c.lt,qe h.regs hb,qe h.names hb⟩
def qbw:Obj:=.cells #[.string ⟨#[103]⟩,.string ⟨#[]⟩] 44
def qdU:Obj:=.cells #[.string ⟨#[103]⟩,.string ⟨#[]⟩,.string ⟨#[103]⟩,.string ⟨#[]⟩] 44
def Zm(N:Nat):Array Value:=#[.string ⟨#[97,100,100]⟩,.string ⟨#[103]⟩,.string ⟨#[]⟩,.slice (some ⟨N+1+1,0,none⟩) 2 2,.int .i64 (-1),.slice none 0 0,
 .string ⟨#[110,111,116]⟩,.string ⟨#[103]⟩,.string ⟨#[]⟩,.slice (some ⟨N+1+1+1,0,none⟩) 1 1,.int .i64 (-1),.slice none 0 0,
 .string ⟨#[100,105,118]⟩,.string ⟨#[103]⟩,.string ⟨#[]⟩,.slice (some ⟨N+1+1+1+1,0,none⟩) 2 2,.int .i64 (-1),.slice none 0 0]
def qad(v:SlV)(ks os av:Value)(res:ByteArray):Array Value:=#[.string ⟨#[109]⟩,.slice v.a v.n v.c,ks,os,av,.string res,.slice none 0 0,.int .i64 100]
def qcP:Array Value:=#[.string ⟨#[]⟩,.slice none 0 0,.slice none 0 0,.slice none 0 0,.slice none 0 0,.string ⟨#[]⟩,.slice none 0 0,.int .i64 0]
structure Sm1(w:World)(k N:Nat)(v u:SlV)(W:World):Prop where
 below:BX w W
 size:W.heap.size=N+1
 base:w.heap.size+1+1<N
 res:qd W w.heap.size 27 qcP
 m:qd W (w.heap.size+1) 27 (qad v (.slice (some ⟨N,0,none⟩) 1 1) (.slice none 0 0) (.slice none 0 0) ⟨#[]⟩)
 c:qd W N 42 #[.string ⟨#[103]⟩,.slice u.a u.n u.c]
 regs:W.ownsRow w.heap.size 40 4 (.slice v.a v.n v.c) k (yJ k)
 names:W.ownsRow w.heap.size 9 1 (.slice u.a u.n u.c) k ((jB k).map Value.string)
 regsB:∀b,(Value.slice v.a v.n v.c).ownBlock=some b->b<N
 namesB:∀b,(Value.slice u.a u.n u.c).ownBlock=some b->b<N
structure Sm2(w:World)(k N:Nat)(v u:SlV)(W:World):Prop where
 below:BX w W
 size:W.heap.size=N+1+1+1+1+1+1
 base:w.heap.size+1+1<N
 res:qd W w.heap.size 27 qcP
 m:qd W (w.heap.size+1) 27 (qad v (.slice (some ⟨N,0,none⟩) 1 1) (.slice (some ⟨N+1+1+1+1+1,0,none⟩) 3 3) (.slice none 0 0) ⟨#[]⟩)
 c:qd W N 42 #[.string ⟨#[103]⟩,.slice u.a u.n u.c]
 regs:W.ownsRow w.heap.size 40 4 (.slice v.a v.n v.c) k (yJ k)
 names:W.ownsRow w.heap.size 9 1 (.slice u.a u.n u.c) k ((jB k).map Value.string)
 regsB:∀b,(Value.slice v.a v.n v.c).ownBlock=some b->b<N
 namesB:∀b,(Value.slice u.a u.n u.c).ownBlock=some b->b<N
 u0:qd W (N+1+1) 44 #[.string ⟨#[103]⟩,.string ⟨#[]⟩,.string ⟨#[103]⟩,.string ⟨#[]⟩]
 u1:qd W (N+1+1+1) 44 #[.string ⟨#[103]⟩,.string ⟨#[]⟩]
 u2:qd W (N+1+1+1+1) 44 #[.string ⟨#[103]⟩,.string ⟨#[]⟩,.string ⟨#[103]⟩,.string ⟨#[]⟩]
 o:qd W (N+1+1+1+1+1) 47 (Zm N)
def qdc(W:World)(B N:Nat)(u:SlV):World:=(W.setCell ⟨B,2,none⟩ (.slice (some ⟨N,0,none⟩) 1 1)).alloc (.cells #[.string ⟨#[103]⟩,.slice u.a u.n u.c] 42)
def qdd(W:World)(B N:Nat):World:=(((((W.alloc qbw).alloc qdU).alloc qbw).alloc qdU).alloc (.cells (Zm N) 47)).setCell ⟨B,3,none⟩ (.slice (some ⟨N+1+1+1+1+1,0,none⟩) 3 3)
theorem qbX.next{w W:World}{k:Nat}{v u:SlV}(h:qbX w k v u W):Sm1 w k W.heap.size v u (qdc W (w.heap.size+1) W.heap.size u):=by
 have hbs:=h.below.size
 have hclt:=h.c.lt
 have hk1:=qd.new (W.setCell ⟨w.heap.size+1,2,none⟩ (.slice (some ⟨W.heap.size,0,none⟩) 1 1)) 42 #[.string ⟨#[103]⟩,.slice u.a u.n u.c]
 rw[World.size_setCell] at hk1
 exact {
  below:=(h.below.setCell (p:=⟨w.heap.size+1,2,none⟩) (by simp) _).alloc (by simp;omega) _
  size:=by unfold qdc;simp
  base:=hclt
  res:=(h.res.other (show w.heap.size≠w.heap.size+1 by omega) (j:=2) _).alloc _
  m:=(h.m.set (.slice (some ⟨W.heap.size,0,none⟩) 1 1) (j:=2)).alloc _
  c:=hk1
  regs:=(zq h.m h.regs (by decide) 2 _).alloc _
  names:=(zq h.m h.names (by decide) 2 _).alloc _
  regsB:=fun b hb=>by
   obtain⟨_,cur,hc⟩:=qf h.regs hb
   exact hc.lt
  namesB:=fun b hb=>by
   obtain⟨_,cur,hc⟩:=qf h.names hb
   exact hc.lt }
theorem Sm1.next{w W:World}{k N:Nat}{v u:SlV}(h:Sm1 w k N v u W):Sm2 w k N v u (qdd W (w.heap.size+1) N):=by
 have hbs:=h.below.size
 have hsz:=h.size
 have hba:=h.base
 have hu0:=qd.new (W.alloc qbw) 44 #[.string ⟨#[103]⟩,.string ⟨#[]⟩,.string ⟨#[103]⟩,.string ⟨#[]⟩]
 rw[vZ,hsz] at hu0
 have hu1:=qd.new ((W.alloc qbw).alloc qdU) 44 #[.string ⟨#[103]⟩,.string ⟨#[]⟩]
 rw[vZ,vZ,hsz] at hu1
 have hu2:=qd.new (((W.alloc qbw).alloc qdU).alloc qbw) 44 #[.string ⟨#[103]⟩,.string ⟨#[]⟩,.string ⟨#[103]⟩,.string ⟨#[]⟩]
 rw[vZ,vZ,vZ,hsz] at hu2
 have ho:=qd.new ((((W.alloc qbw).alloc qdU).alloc qbw).alloc qdU) 47 (Zm N)
 rw[vZ,vZ,vZ,vZ,hsz] at ho
 have hm5:=((((h.m.alloc qbw).alloc qdU).alloc qbw).alloc qdU).alloc (.cells (Zm N) 47)
 exact {
  below:=(((((h.below.alloc hbs _).alloc (by simp;omega) _).alloc (by simp;omega) _).alloc (by simp;omega) _).alloc (by simp;omega) _).setCell (p:=⟨w.heap.size+1,3,none⟩) (by simp) _
  size:=by unfold qdd;simp[hsz]
  base:=hba
  res:=(((((h.res.alloc _).alloc _).alloc _).alloc _).alloc _).other (by omega) _
  m:=hm5.set _ (j:=3)
  c:=(((((h.c.alloc _).alloc _).alloc _).alloc _).alloc _).other (by omega) _
  regs:=zq hm5 (((((h.regs.alloc _).alloc _).alloc _).alloc _).alloc _) (by decide) 3 _
  names:=zq hm5 (((((h.names.alloc _).alloc _).alloc _).alloc _).alloc _) (by decide) 3 _
  regsB:=h.regsB
  namesB:=h.namesB
  u0:=(((hu0.alloc _).alloc _).alloc _).other (by omega) _
  u1:=((hu1.alloc _).alloc _).other (by omega) _
  u2:=(hu2.alloc _).other (by omega) _
  o:=ho.other (by omega) _ }
structure Sm3(w:World)(k N:Nat)(v u:SlV)(W:World):Prop where
 below:BX w W
 size:W.heap.size=N+1+1+1+1+1+1+1
 base:w.heap.size+1+1<N
 res:qd W w.heap.size 27 qcP
 m:qd W (w.heap.size+1) 27 (qad v (.slice (some ⟨N,0,none⟩) 1 1) (.slice (some ⟨N+1+1+1+1+1,0,none⟩) 3 3) (.slice (some ⟨N+1+1+1+1+1+1,0,none⟩) 1 1) ⟨#[114,48,48]⟩)
 c:qd W N 42 #[.string ⟨#[103]⟩,.slice u.a u.n u.c]
 regs:W.ownsRow w.heap.size 40 4 (.slice v.a v.n v.c) k (yJ k)
 names:W.ownsRow w.heap.size 9 1 (.slice u.a u.n u.c) k ((jB k).map Value.string)
 regsB:∀b,(Value.slice v.a v.n v.c).ownBlock=some b->b<N
 namesB:∀b,(Value.slice u.a u.n u.c).ownBlock=some b->b<N
 u0:qd W (N+1+1) 44 #[.string ⟨#[103]⟩,.string ⟨#[]⟩,.string ⟨#[103]⟩,.string ⟨#[]⟩]
 u1:qd W (N+1+1+1) 44 #[.string ⟨#[103]⟩,.string ⟨#[]⟩]
 u2:qd W (N+1+1+1+1) 44 #[.string ⟨#[103]⟩,.string ⟨#[]⟩,.string ⟨#[103]⟩,.string ⟨#[]⟩]
 o:qd W (N+1+1+1+1+1) 47 (Zm N)
 a:qd W (N+1+1+1+1+1+1) 9 #[.string ⟨#[114,48,48]⟩]
def qde(W:World)(B N:Nat):World:=((W.alloc (.cells #[.string ⟨#[114,48,48]⟩] 9)).setCell ⟨B,4,none⟩ (.slice (some ⟨N+1+1+1+1+1+1,0,none⟩) 1 1)).setCell ⟨B,5,none⟩ (.string ⟨#[114,48,48]⟩)
theorem Sm2.next{w W:World}{k N:Nat}{v u:SlV}(h:Sm2 w k N v u W):Sm3 w k N v u (qde W (w.heap.size+1) N):=by
 have hbs:=h.below.size
 have hsz:=h.size
 have hba:=h.base
 have ha:=qd.new W 9 #[.string ⟨#[114,48,48]⟩]
 rw[hsz] at ha
 have hm1:=h.m.alloc (.cells #[.string ⟨#[114,48,48]⟩] 9)
 have hm2:=hm1.set (.slice (some ⟨N+1+1+1+1+1+1,0,none⟩) 1 1) (j:=4)
 exact {
  below:=((h.below.alloc hbs _).setCell (p:=⟨w.heap.size+1,4,none⟩) (by simp) _).setCell (p:=⟨w.heap.size+1,5,none⟩) (by simp) _
  size:=by unfold qde;simp[hsz]
  base:=hba
  res:=((h.res.alloc _).other (by omega) _).other (by omega) _
  m:=hm2.set _ (j:=5)
  c:=((h.c.alloc _).other (by omega) _).other (by omega) _
  regs:=zq hm2 (zq hm1 (h.regs.alloc _) (by decide) 4 _) (by decide) 5 _
  names:=zq hm2 (zq hm1 (h.names.alloc _) (by decide) 4 _) (by decide) 5 _
  regsB:=h.regsB
  namesB:=h.namesB
  u0:=((h.u0.alloc _).other (by omega) _).other (by omega) _
  u1:=((h.u1.alloc _).other (by omega) _).other (by omega) _
  u2:=((h.u2.alloc _).other (by omega) _).other (by omega) _
  o:=((h.o.alloc _).other (by omega) _).other (by omega) _
  a:=(ha.other (by omega) _).other (by omega) _ }
def qln(v:SlV)(N:Nat):MV:=⟨⟨#[109]⟩,v,⟨some ⟨N,0,none⟩,1,1⟩,⟨some ⟨N+1+1+1+1+1,0,none⟩,3,3⟩,⟨some ⟨N+1+1+1+1+1+1,0,none⟩,1,1⟩,⟨#[114,48,48]⟩,⟨none,0,0⟩,100⟩
structure JQ(w:World)(k N:Nat)(v u:SlV)(W:World):Prop where
 below:BX w W
 size:W.heap.size=N+1+1+1+1+1+1+1
 base:w.heap.size+1+1<N
 c:qd W N 42 #[.string ⟨#[103]⟩,.slice u.a u.n u.c]
 regs:W.ownsRow w.heap.size 40 4 (.slice v.a v.n v.c) k (yJ k)
 names:W.ownsRow w.heap.size 9 1 (.slice u.a u.n u.c) k ((jB k).map Value.string)
 regsB:∀b,(Value.slice v.a v.n v.c).ownBlock=some b->b<N
 namesB:∀b,(Value.slice u.a u.n u.c).ownBlock=some b->b<N
 u0:qd W (N+1+1) 44 #[.string ⟨#[103]⟩,.string ⟨#[]⟩,.string ⟨#[103]⟩,.string ⟨#[]⟩]
 u1:qd W (N+1+1+1) 44 #[.string ⟨#[103]⟩,.string ⟨#[]⟩]
 u2:qd W (N+1+1+1+1) 44 #[.string ⟨#[103]⟩,.string ⟨#[]⟩,.string ⟨#[103]⟩,.string ⟨#[]⟩]
 o:qd W (N+1+1+1+1+1) 47 (Zm N)
 a:qd W (N+1+1+1+1+1+1) 9 #[.string ⟨#[114,48,48]⟩]
def qhq(w:World)(k:Nat)(e:Ending)(W:World):Prop:=∃ (N:Nat) (v u:SlV),e = .returned (qln v N).val/\JQ w k N v u W
def JC(W:World)(B N:Nat)(v:SlV):World:=
 (((((((W.setCell ⟨B,0,none⟩ (.string ⟨#[109]⟩)).setCell ⟨B,1,none⟩ (.slice v.a v.n v.c)).setCell ⟨B,2,none⟩ (.slice (some ⟨N,0,none⟩) 1 1)).setCell ⟨B,3,none⟩ (.slice (some ⟨N+1+1+1+1+1,0,none⟩) 3 3)).setCell ⟨B,4,none⟩ (.slice (some ⟨N+1+1+1+1+1+1,0,none⟩) 1 1)).setCell ⟨B,5,none⟩ (.string ⟨#[114,48,48]⟩)).setCell ⟨B,6,none⟩ (.slice none 0 0)).setCell ⟨B,7,none⟩ (.int .i64 100)
theorem Sm3.next{w W:World}{k N:Nat}{v u:SlV}(h:Sm3 w k N v u W):JQ w k N v u (JC W w.heap.size N v)/\qd (JC W w.heap.size N v) w.heap.size 27 (qad v (.slice (some ⟨N,0,none⟩) 1 1) (.slice (some ⟨N+1+1+1+1+1,0,none⟩) 3 3) (.slice (some ⟨N+1+1+1+1+1+1,0,none⟩) 1 1) ⟨#[114,48,48]⟩):=by
 have hba:=h.base
 have hkb:xi w.heap.size W (JC W w.heap.size N v):=(((((((xi.set (fun _ _ _=>rfl)).set).set).set).set).set).set).set
 have hk:∀ {b:Nat} {t:TypeId} {cs:Array Value},qd W b t cs->b≠w.heap.size->qd (JC W w.heap.size N v) b t cs:=fun hc hne=>(hkb _ hc.lt hne).trans hc
 refine⟨{
  below:=(((((((h.below.setCell (p:=⟨w.heap.size,0,none⟩) (by simp) _).setCell (p:=⟨w.heap.size,1,none⟩) (by simp) _).setCell (p:=⟨w.heap.size,2,none⟩) (by simp) _).setCell (p:=⟨w.heap.size,3,none⟩) (by simp) _).setCell (p:=⟨w.heap.size,4,none⟩) (by simp) _).setCell (p:=⟨w.heap.size,5,none⟩) (by simp) _).setCell (p:=⟨w.heap.size,6,none⟩) (by simp) _).setCell (p:=⟨w.heap.size,7,none⟩) (by simp) _
  size:=by unfold JC;simp[h.size]
  base:=hba
  c:=hk h.c (by omega)
  regs:=hkb.row h.res h.regs (by decide)
  names:=hkb.row h.res h.names (by decide)
  regsB:=h.regsB
  namesB:=h.namesB
  u0:=hk h.u0 (by omega)
  u1:=hk h.u1 (by omega)
  u2:=hk h.u2 (by omega)
  o:=hk h.o (by omega)
  a:=hk h.a (by omega) },?_⟩
 exact(((((((h.res.set (.string ⟨#[109]⟩) (j:=0)).set (.slice v.a v.n v.c) (j:=1)).set (.slice (some ⟨N,0,none⟩) 1 1) (j:=2)).set (.slice (some ⟨N+1+1+1+1+1,0,none⟩) 3 3) (j:=3)).set (.slice (some ⟨N+1+1+1+1+1+1,0,none⟩) 1 1) (j:=4)).set (.string ⟨#[114,48,48]⟩) (j:=5)).set (.slice none 0 0) (j:=6)).set (.int .i64 100) (j:=7)
theorem qhr(n:Nat)(w:World)(hn:n<=100) :
 Calls prog 13 #[.int .i64 n] w (qhq w n):=by
 obtain⟨i0,hi,hz0,hz1,hz2⟩:=info_parts qdR
 obtain⟨j0,hj,hj0,hj1,hj2⟩:=info_parts JP
 go_enter func13,ntmps13
 go_wp2_with fail
 go_loopw [5] (fun i wr=>∃ (k:Nat) (v u:SlV),i = .int .i64 k/\k<=n/\qbX w k v u wr) (fun i _=>n-(intOf i).toNat)
 case atStart=>
  refine⟨0,⟨none,0,0⟩,⟨none,0,0⟩,rfl,vO _,?_⟩
  exact {
   below:=(qi.alloc (by simp) _).alloc (by simp;omega) _
   res:=((qd.new _ _ _).alloc _).alloc _
   m:=by
    have:=(qd.new (w.alloc (.cells #[.string ⟨#[]⟩,.slice none 0 0,.slice none 0 0,.slice none 0 0,.slice none 0 0,.string ⟨#[]⟩,.slice none 0 0,.int .i64 0] 27)) 27 #[.string ⟨#[109]⟩,.slice none 0 0,.slice none 0 0,.slice none 0 0,.slice none 0 0,.string ⟨#[]⟩,.slice none 0 0,.int .i64 100]).alloc (.cells #[.string ⟨#[103]⟩,.slice none 0 0] 42)
    rw[vZ] at this;exact this
   c:=by
    have:=qd.new ((w.alloc (.cells #[.string ⟨#[]⟩,.slice none 0 0,.slice none 0 0,.slice none 0 0,.slice none 0 0,.string ⟨#[]⟩,.slice none 0 0,.int .i64 0] 27)).alloc (.cells #[.string ⟨#[109]⟩,.slice none 0 0,.slice none 0 0,.slice none 0 0,.slice none 0 0,.string ⟨#[]⟩,.slice none 0 0,.int .i64 100] 27)) 42 #[.string ⟨#[103]⟩,.slice none 0 0]
    rw[vZ,vZ] at this;exact this
   regs:=kO _ _ _ _
   names:=kO _ _ _ _ }
 case round=>
  obtain⟨k,v,u,rfl,hk,inv⟩:=hrel
  have k0:(0:Int)<=k:=vN _
  by_cases hlt:k<n
  ·have k1:(k:Int)<n:=by omega
   obtain⟨d1,hd1⟩:∃d,d=k/10:=⟨_,rfl⟩
   obtain⟨d2,hd2⟩:∃d,d=k%10:=⟨_,rfl⟩
   have q1:IntKind.i64.wrap ((k:Int)/10)=d1:=by rw[vI _ (by omega)];omega
   have m2:(k:Int).tmod 10=d2:=by rw[IntWalk.rem_in _ _ (by omega)];omega
   have s1:IntKind.i64.wrap ((d1:Int)+1)=d1+1:=vI _ (by omega)
   have s2:IntKind.i64.wrap ((d2:Int)+1)=d2+1:=vI _ (by omega)
   have n1:(0:Int)<=(d1:Int):=vN _
   have n2:(0:Int)<=(d2:Int):=vN _
   have u1:(d1:Int)+1<=10:=by omega
   have u2:(d2:Int)+1<=10:=by omega
   have p1:(d1:Int)<=(d1:Int)+1:=by omega
   have p2:(d2:Int)<=(d2:Int)+1:=by omega
   have z1:(0:Int)<=(d1:Int)+1:=by omega
   have z2:(0:Int)<=(d2:Int)+1:=by omega
   have t1:((d1:Int)+1).toNat=d1+1:=by omega
   have t2:((d2:Int)+1).toNat=d2+1:=by omega
   have hcat1:¬ 9223372036854775807<1+(min (d1+1) 10-d1):=by omega
   have hcat2:¬ 9223372036854775807<1+(min (d1+1) 10-d1)+(min (d2+1) 10-d2):=by omega
   have hname:Hid (Xe k=((⟨#[114]⟩:ByteArray)++(⟨#[48,49,50,51,52,53,54,55,56,57]⟩:ByteArray).extract d1 (d1+1))++(⟨#[48,49,50,51,52,53,54,55,56,57]⟩:ByteArray).extract d2 (d2+1)):=vH (by subst hd1 hd2;rfl)
   replace hd1:=vH hd1
   replace hd2:=vH hd2
   have inv2:=vH inv
   clear inv
   go_wp2_with fail
   go_quiet (fail)
   have inv3:=inv2.out.step (below_drewN (kB _ _) nq)
   generalize wr.drewN nq=wq at inv3
   rw[←hname.out]
   have hbs:=inv3.below.size
   have c1:=inv3.m.cell (j:=1) (v:=.slice v.a v.n v.c) rfl
   have hnr:=inv3.m.not_row (by decide) inv3.regs
   clear inv2 q1 m2 s1 s2 n1 n2 u1 u2 p1 p2 z1 z2 t1 t2 hcat1 hcat2 hname hd1 hd2
   have hk1:IntKind.i64.wrap ((k:Int)+1)=k+1:=vI _ (by omega)
   have hnl:(jB k).length=k:=by simp[jB]
   go_wp2_with (first
    |(at_builtin;refine wpList_append_own_at _ rfl _ _ 22 rfl w.heap.size 40 i0 _ 4 56 underlying22 hi hz0 hz1 hz2 rfl (by decide) _ k (yJ k) rfl (inv3.regs.alloc _) ⟨wq.heap.size,0,none⟩ 1 1 (qgs k) rfl rfl (zo _ _ _ _ rfl) (by simp[Value.oneCell',qgs]) (by unfold maxLen;omega) (by omega) (by simp;omega) ?_;intro v' W7 hown7 hgrow _ hblk;obtain⟨g',cap',rfl⟩:=ownsRow_succ hown7;have hT7:=(inv3.m.alloc (.cells #[.string (Xe k),.int .i64 8,.int .i64 0,.slice none 0 0] 40)).kept hgrow hnr;have f7:=hT7.frozen 1;have c7:=hT7.cell (j:=1) (v:=.slice v.a v.n v.c) rfl;have hG:=jc (v:=.slice v.a v.n v.c) inv3.m (j:=1) rfl (by decide) (by omega) (kB _ _) inv3.regs hown7 hgrow hblk;have hC8:=hG.block _ _ _ inv3.c (by omega) (by decide);have c8:=hC8.cell (j:=1) (v:=.slice u.a u.n u.c) rfl;have hn8:=hG.rows _ _ _ _ _ inv3.names (by decide) (by decide);have hR8:=hG.block _ _ _ inv3.res (by omega) (by decide);have hnr8:=hC8.not_row (by decide) hn8;have hs8:=hG.below.size;rw[World.size_setCell] at hs8)
    |(at_builtin;go_loud (refine wpList_append_own_at _ rfl _ _ 25 rfl w.heap.size 9 j0 _ 1 16 underlying25 hj hj0 hj1 hj2 rfl (by decide) _ k ((jB k).map Value.string) rfl (hn8.alloc _) ⟨W7.heap.size,0,none⟩ 1 1 [.string (Xe k)] rfl rfl (by have hnc:=zo (W7.setCell ⟨w.heap.size+1,1,none⟩ (.slice (some ⟨g',0,none⟩) (k+1) cap')) #[.string (Xe k)] 9 [.string (Xe k)] rfl;rw[World.size_setCell] at hnc;exact hnc) (by simp[Value.oneCell']) (by unfold maxLen;omega) (by omega) (by simp;omega) ?_;intro v2 W9 hown9 hgrow9 _ hblk9;obtain⟨g2,cap2,rfl⟩:=ownsRow_succ hown9;have hT9:=(hC8.alloc (.cells #[.string (Xe k)] 9)).kept hgrow9 hnr8;have f9:=hT9.frozen 1;have c9:=hT9.cell (j:=1) (v:=.slice u.a u.n u.c) rfl;have hG2:=jc (v:=.slice u.a u.n u.c) hC8 (j:=1) rfl (by decide) (by omega) (kB _ _) hn8 hown9 hgrow9 hblk9)))
   refine⟨⟨k+1,⟨some ⟨g',0,none⟩,k+1,cap'⟩,⟨some ⟨g2,0,none⟩,k+1,cap2⟩,by go_num,by omega,?_⟩,by simp[intOf];omega⟩
   exact {
    below:=inv3.below.trans ((hG.below.trans hG2.below).mono (vL _))
    res:=hG2.block _ _ _ hR8 (by omega) (by decide)
    m:=hG2.block _ _ _ hG.cells (by omega) (by decide)
    c:=hG2.cells
    regs:=by
     rw[qdS]
     exact hG2.rows _ _ _ _ _ hG.row (by decide) (by decide)
    names:=by
     rw[qdT,kM]
     exact hG2.row }
  ·obtain rfl:k=n:=by omega
   have hbs:=inv.below.size
   have hclt:=inv.c.lt
   have hmlt:=inv.m.lt
   have f2:=inv.m.frozen 2
   have r2:=inv.m.cell (j:=2) (v:=.slice none 0 0) rfl
   have c0:=inv.c.cell (j:=0) (v:=.string ⟨#[103]⟩) rfl
   have c1:=inv.c.cell (j:=1) (v:=.slice u.a u.n u.c) rfl
   have h1:=inv.next
   clear inv
   replace h1:=vH h1
   go_upto_region 10 with(fail)
   change Code.wp _ _ _ _ (qdc wr (w.heap.size+1) wr.heap.size u)
   clear f2 r2 c0 c1 hclt hmlt hbs hi hj hz0 hz2 hj0 hj1 hj2
   generalize wr.heap.size=N at h1 ⊢
   generalize qdc wr (w.heap.size+1) N u=W1 at h1 ⊢
   have f3:=fun o1 o2 o3 o4 o5=>(((((h1.out.m.alloc o1).alloc o2).alloc o3).alloc o4).alloc o5).frozen 3
   have r3:=fun o1 o2 o3 o4 o5=>(((((h1.out.m.alloc o1).alloc o2).alloc o3).alloc o4).alloc o5).cell (j:=3) (v:=.slice none 0 0) rfl
   go_upto_region 12 with(fail)
   rw[h1.out.size]
   change Code.wp _ _ _ _ (qdd W1 (w.heap.size+1) N)
   have h2:=vH h1.out.next
   clear h1 f3 r3
   generalize qdd W1 (w.heap.size+1) N=W2 at h2 ⊢
   have f4:=fun o=>(h2.out.m.alloc o).frozen 4
   have r4:=fun o=>(h2.out.m.alloc o).cell (j:=4) (v:=.slice none 0 0) rfl
   have f5:=fun o v=>((h2.out.m.alloc o).set v (j:=4)).frozen 5
   have r5:=fun o v=>((h2.out.m.alloc o).set v (j:=4)).cell (j:=5) (v:=.string ⟨#[]⟩) rfl
   go_upto_region 14 with(fail)
   rw[h2.out.size]
   change Code.wp _ _ _ _ (qde W2 (w.heap.size+1) N)
   have h3:=vH h2.out.next
   clear h2 f4 r4 f5 r5
   generalize qde W2 (w.heap.size+1) N=W3 at h3 ⊢
   have m0:=h3.out.m.cell (j:=0) (v:=.string ⟨#[109]⟩) rfl
   have m1:=h3.out.m.cell (j:=1) (v:=.slice v.a v.n v.c) rfl
   have m2:=h3.out.m.cell (j:=2) (v:=.slice (some ⟨N,0,none⟩) 1 1) rfl
   have m3:=h3.out.m.cell (j:=3) (v:=.slice (some ⟨N+1+1+1+1+1,0,none⟩) 3 3) rfl
   have m4:=h3.out.m.cell (j:=4) (v:=.slice (some ⟨N+1+1+1+1+1+1,0,none⟩) 1 1) rfl
   have m5:=h3.out.m.cell (j:=5) (v:=.string ⟨#[114,48,48]⟩) rfl
   have m6:=h3.out.m.cell (j:=6) (v:=.slice none 0 0) rfl
   have m7:=h3.out.m.cell (j:=7) (v:=.int .i64 100) rfl
   have e0:=h3.out.res.cell (j:=0) (v:=.string ⟨#[]⟩) rfl
   have e1:=h3.out.res.cell (j:=1) (v:=.slice none 0 0) rfl
   have e2:=h3.out.res.cell (j:=2) (v:=.slice none 0 0) rfl
   have e3:=h3.out.res.cell (j:=3) (v:=.slice none 0 0) rfl
   have e4:=h3.out.res.cell (j:=4) (v:=.slice none 0 0) rfl
   have e5:=h3.out.res.cell (j:=5) (v:=.string ⟨#[]⟩) rfl
   have e6:=h3.out.res.cell (j:=6) (v:=.slice none 0 0) rfl
   have e7:=h3.out.res.cell (j:=7) (v:=.int .i64 0) rfl
   have g0:=h3.out.res.frozen 0
   have g1:=h3.out.res.frozen 1
   have g2:=h3.out.res.frozen 2
   have g3:=h3.out.res.frozen 3
   have g4:=h3.out.res.frozen 4
   have g5:=h3.out.res.frozen 5
   have g6:=h3.out.res.frozen 6
   have g7:=h3.out.res.frozen 7
   go_wp2_with fail
   change bodyPost _ _ _ _ _ (JC W3 w.heap.size N v)
   obtain⟨h4,hr4⟩:=h3.out.next
   generalize JC W3 w.heap.size N v=W4 at h4 hr4 ⊢
   have z0:=hr4.cell (j:=0) (v:=.string ⟨#[109]⟩) rfl
   have z1:=hr4.cell (j:=1) (v:=.slice v.a v.n v.c) rfl
   have z2:=hr4.cell (j:=2) (v:=.slice (some ⟨N,0,none⟩) 1 1) rfl
   have z3:=hr4.cell (j:=3) (v:=.slice (some ⟨N+1+1+1+1+1,0,none⟩) 3 3) rfl
   have z4:=hr4.cell (j:=4) (v:=.slice (some ⟨N+1+1+1+1+1+1,0,none⟩) 1 1) rfl
   have z5:=hr4.cell (j:=5) (v:=.string ⟨#[114,48,48]⟩) rfl
   have z6:=hr4.cell (j:=6) (v:=.slice none 0 0) rfl
   have z7:=hr4.cell (j:=7) (v:=.int .i64 100) rfl
   exact bodyPost_ret (v:=(qln v N).val) (by simp[results,results13,go_sem,qln,MV.val,z0,z1,z2,z3,z4,z5,z6,z7]) rfl ⟨N,v,u,rfl,h4⟩
theorem qbx(n:Nat):(jB n).length=n:=by simp[jB]
def nmG:ByteArray:=⟨#[103]⟩
def nmR:ByteArray:=⟨#[114,48,48]⟩
def opG:zL:=⟨nmG,⟨#[]⟩⟩
def clG(n:Nat):qp:=⟨nmG,jB n⟩
def qiS(c:Nat):OpD:=⟨⟨#[97,100,100]⟩,opG,[opG,opG],-1,jB c⟩
def qiT:OpD:=⟨⟨#[110,111,116]⟩,opG,[opG],-1,[]⟩
def qkb:OpD:=⟨⟨#[100,105,118]⟩,opG,[opG,opG],-1,[]⟩
def smD(n c:Nat):qz:=⟨⟨#[109]⟩,[clG n],[qiS c,qiT,qkb],[nmR],nmR,[],100⟩
theorem qdV{W:World}{b:Nat}(h:qd W b 44 #[.string ⟨#[103]⟩,.string ⟨#[]⟩,.string ⟨#[103]⟩,.string ⟨#[]⟩]):zY W ⟨some ⟨b,0,none⟩,2,2⟩ [opG,opG]:=
 ⟨rfl,vL _,fun j x hj=>⟨b,0,rfl,by
  match j,hj with
  | 0,hj=>cases hj;exact⟨h.cell (j:=0) rfl,h.cell (j:=1) rfl⟩
  | 1,hj=>cases hj;exact⟨h.cell (j:=2) rfl,h.cell (j:=3) rfl⟩
  | j+2,hj=>simp at hj⟩⟩
theorem qiU{W:World}{b:Nat}(h:qd W b 44 #[.string ⟨#[103]⟩,.string ⟨#[]⟩]):zY W ⟨some ⟨b,0,none⟩,1,1⟩ [opG]:=
 ⟨rfl,vL _,fun j x hj=>⟨b,0,rfl,by
  match j,hj with
  | 0,hj=>cases hj;exact⟨h.cell (j:=0) rfl,h.cell (j:=1) rfl⟩
  | j+1,hj=>simp at hj⟩⟩
theorem qae(W:World):qG W ⟨none,0,0⟩ []:=⟨rfl,vL _,fun j x hj=>by simp at hj⟩
end Go.Proofs.YtomlgdnafeeeiaaGreatDoor
