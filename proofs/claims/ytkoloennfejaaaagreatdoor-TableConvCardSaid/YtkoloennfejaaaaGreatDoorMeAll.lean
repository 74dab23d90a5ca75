/-
  Check, Fits and Pair of any machine that lies in memory, whatever is wrong with it.
-/
import Derived.Test.YtkoloennfejaaaaGreatDoorMdZ
import Derived.Deep.RegionLaw
import Derived.Deep.RegionHeld3
namespace Go.Proofs.YtkoloennfejaaaaGreatDoor
open Go.RowKit
theorem ql.below{W W':World}(hb:Below W.heap.size W W'):∀ {L:RegL} {b o:Nat},ql W.heap.size W b o L->ql W'.heap.size W' b o L
 | .nil,_,_,_=>trivial
 | .cons _ _ _ _ _ _,_,_,⟨h1,h2,h3,h4⟩=>⟨Nat.lt_of_lt_of_le h1 hb.size,yT h2 (fun _ _ hv=>cell_below hb hv),ql.below hb h3,
    h4.imp id fun⟨b',o',c',e1,e2,e3,e4⟩=>⟨b',o',c',e1,e2,e3,ql.below hb e4⟩⟩
def jm(w:World)(s:SlV)(L:RegL):Prop:=
 (s=⟨none,0,0⟩/\L = .nil)∨∃b o c,s=⟨some ⟨b,o,none⟩,L.length,c⟩/\ql w.heap.size w b o L/\L.length<=4611686018427387904
structure MachAt(w:World)(m:MV)(d:MachD)(L:RegL):Prop where
 env:Env w
 envA:Zd w
 same:m.name=d.name
 result:m.result=d.result
 slots:m.slots=d.slots
 regs:jm w m.regs L
 classes:ClassesAt w m.classes d.classes
 ops:OpsAt w m.ops d.ops
 oub:∀o:OpD,o∈d.ops->o.uses.length<=100000
 args:StrsAt w m.args d.args
 saved:StrsAt w m.saved d.saved
def regsE(L:RegL):Int:=placesErr nameB [] (spotsOutA 0 L)
theorem MachAt.places{w:World}{m:MV}{d:MachD}{L:RegL}(h:MachAt w m d L)(W:World)(hb:Below w.heap.size w W) :
 Calls Tryz.prog 104 #[.slice m.regs.a m.regs.n m.regs.c] W fun e w'=>(regsE L=0->PlacesPost W (spotsOut 0 L) e w')/\(regsE L≠0->jj W (regsE L) e w'):=by
 rcases h.regs with⟨hs,rfl⟩|⟨b,o,c,hs,hL,hl⟩
 ·rw[hs]
  exact(KQ W (h.env.below hb)).mono fun e w' hp=>⟨fun _=>hp,fun hn=>absurd rfl hn⟩
 ·rw[hs]
  exact qbP b o c L W (h.env.below hb) (h.envA.below hb) (fun s V hs hV=>by
   have:=XQ s V ((h.env.below hb).below hV)
   rw[hs] at this;exact this) (hL.below hb) hl
theorem ZY{w:World}{b o:Nat}{L:RegL}(hL:ql w.heap.size w b o L)(h0:regsE L=0):(spotsOut 0 L).length<=200/\∀p,p∈(spotsOut 0 L).map Spot.place->PlcOk p:=by
 rcases placesErr_cases nameB (spotsOutA 0 L) [] with⟨_,hgood⟩|⟨pre,p,post,hcut,hgood,hbad,he⟩
 ·have hRall:∀q,q∈spotsOutA 0 L->Right q:=qbO fun pre p post h hq=>Right.of (jx L b o 0 hL pre p post h hq) (hgood pre p post h)
  have hfew:=ZG (nm:=nameB) (l:=spotsOutA 0 L) (fun pre q post h=>by simpa using hgood pre q post h)
  refine⟨by rw[←qJ];simpa using hfew,fun x hx=>?_⟩
  obtain⟨s,hs,rfl⟩:=List.mem_map.1 hx
  rw[←qJ] at hs
  obtain⟨q,hq,rfl⟩:=List.mem_map.1 hs
  obtain⟨pre,post,h⟩:=List.append_of_mem hq
  have hc:=jx L b o 0 hL pre q post h (fun r hr=>hRall r (by rw[h];exact List.mem_append_left _ hr))
  obtain⟨q1,q2,q3,q4,q5⟩:=hRall q hq
  have:=hc.a1;have:=hc.a2;have:=hc.d1
  exact⟨show 0<=q.1.aAt+q.1.at_ by omega,show q.1.aAt+q.1.at_<=1000 by omega,show 1<=q.1.wd by omega,show q.1.wd<=1000 by omega⟩
 ·exfalso
  exact hbad (by rw[←he];exact h0)
theorem MachAt.read{w:World}{m:MV}{d:MachD}{L:RegL}(h:MachAt w m d L)(hn:nameB d.name=true)(he:regsE L=0)(hne:spotsOut 0 L ≠ []):qcN w m d (spotsOut 0 L):=by
 have hr:(spotsOut 0 L).length<=200/\∀p,p∈(spotsOut 0 L).map Spot.place->PlcOk p:=by
  rcases h.regs with⟨_,rfl⟩|⟨b,o,c,_,hL,_⟩
  ·exact absurd rfl hne
  ·exact ZY hL he
 exact {
  env:=h.env
  result:=h.result
  slots:=h.slots
  name:=hn
  same:=h.same
  ne:=hne
  few:=hr.1
  ok:=hr.2
  places:=fun W hb=>(h.places W hb).mono fun e w' hp=>hp.1 he
  classes:=h.classes
  ops:=h.ops
  oub:=h.oub
  args:=h.args
  saved:=h.saved }
def zN(d:MachD)(L:RegL):Int:=if nameB d.name=false then 5 else if regsE L≠0 then regsE L else if spotsOut 0 L = [] then 1 else 0
theorem MachAt.falls{w:World}{m:MV}{d:MachD}{L:RegL}(h:MachAt w m d L)(hx:zN d L≠0)(hn:nameB d.name=true)(W:World)(hb:Below w.heap.size w W)(hC:ChkAt W (w.heap.size+1) m.fresh) :
 Calls Tryz.prog 98 #[.pointer (some ⟨w.heap.size+1,0,none⟩)] W fun e w'=>e = .returned (.int .i64 (zN d L))/\Below w.heap.size w w':=by
 unfold zN at hx ⊢
 rw[if_neg (by simp[hn])] at hx ⊢
 by_cases h1:regsE L≠0
 ·rw[if_pos h1] at hx ⊢
  exact JB (w.heap.size+1) _ _ w W hb (by omega) hC h1 ((h.places W hb).mono fun e w' hp=>hp.2 h1)
 ·have h1:=Classical.not_not.1 h1
  rw[if_neg (by simp[h1])] at hx ⊢
  by_cases h2:spotsOut 0 L = []
  ·rw[if_pos h2]
   exact JF (w.heap.size+1) m w W hb (by omega) hC ((h.places W hb).mono fun e w' hp=>by have:=hp.1 h1;rw[h2] at this;exact this)
  ·rw[if_neg h2] at hx;exact absurd rfl hx
theorem qdG{w:World}{m:MV}{d:MachD}{L:RegL}(h:MachAt w m d L) :
 Calls Tryz.prog 65 #[m.val] w fun e w'=>e = .returned (.int .i64 (qL nameB d (regsE L) ((spotsOut 0 L).map (·.name)) ((spotsOut 0 L).map Spot.place)))/\Below w.heap.size w w':=by
 by_cases hx:zN d L=0
 ·have hx':=hx
  unfold zN at hx'
  have hn:nameB d.name=true:=by
   cases hn:nameB d.name
   ·rw[if_pos hn] at hx';cases hx'
   ·rfl
  rw[if_neg (by simp[hn])] at hx'
  have he:regsE L=0:=by
   by_cases he:regsE L=0
   ·exact he
   ·rw[if_pos he] at hx';exact hx'
  rw[if_neg (by simp[he])] at hx'
  have hne:spotsOut 0 L ≠ []:=fun h2=>by rw[if_pos h2] at hx';cases hx'
  have:=qbW (h.read hn he hne)
  rw[he];exact this
 ·have hX:qL nameB d (regsE L) ((spotsOut 0 L).map (·.name)) ((spotsOut 0 L).map Spot.place)=zN d L:=by
   have hx':=hx
   unfold zN at hx' ⊢
   unfold qL
   by_cases hn:nameB d.name=false
   ·rw[if_pos hn,if_pos hn]
   ·rw[if_neg hn] at hx' ⊢
    rw[if_neg hn]
    by_cases he:regsE L≠0
    ·rw[if_pos he,if_pos he]
    ·rw[if_neg he] at hx' ⊢
     rw[if_neg he]
     by_cases h2:spotsOut 0 L = []
     ·rw[if_pos h2,if_pos (by rw[h2];rfl)]
     ·rw[if_neg h2] at hx';exact absurd rfl hx'
  rw[hX]
  refine qdF (nameB d.name) (zN d L) hx (fun W hb=>by have:=yk d.name W (h.env.below hb);rw[h.same];exact this) (fun hn=>?_) (fun hn W hb hC=>h.falls hx hn W hb hC)
  unfold zN
  rw[if_pos hn]
def nmsL(L:RegL):List ByteArray:=(spotsOut 0 L).map fun x:Spot=>x.name
def plsL(L:RegL):List Plc:=(spotsOut 0 L).map Spot.place
end Go.Proofs.YtkoloennfejaaaaGreatDoor
