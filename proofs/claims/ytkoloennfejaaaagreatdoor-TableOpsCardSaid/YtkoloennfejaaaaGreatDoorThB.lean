/-
  The reference's clear, Clob and May of any numbers.
-/
import Derived.Test.YtkoloennfejaaaaGreatDoorRefThree
set_option maxHeartbeats 6400000
set_option maxRecDepth 100000
namespace Go.Proofs.YtkoloennfejaaaaGreatDoor
open Go.RowKit
def clearA(ps:List Plc)(L:List Int)(r:Int):Bool:=L.all fun c=>!xC ps c r
theorem qbm{ps:List Plc}{L:List Int}{r c:Int}{j:Nat}(h:clearA ps (L.take j) r=true)(hj:L[j]?=some c)(hc:xC ps c r=false):clearA ps (L.take (j+1)) r=true:=by
 unfold clearA at h ⊢
 rw[List.take_add_one,hj,List.all_append,h]
 simp[hc]
theorem qcC{ps:List Plc}{L:List Int}{r c:Int}{j:Nat}(hj:L[j]?=some c)(hc:xC ps c r=true):clearA ps L r=false:=by
 unfold clearA
 rw[Bool.eq_false_iff]
 intro h
 have:=List.all_eq_true.1 h c (List.mem_of_getElem? hj)
 rw[hc] at this;cases this
theorem qei(T:Nat)(t:TV)(d:MachD)(ns:List ByteArray)(ps:List Plc)(cls:List (List Int))(k:Nat)(x:OpD)(r:Int)(w:World)(h:TabOk w T t d ns ps cls)(hx:d.ops[k]?=some x)(hk:∀y,y∈x.clob->0<=regN ns y) :
 Calls Tryz.prog 53 #[.pointer (some ⟨T,0,none⟩),.int .i64 k,.int .i64 r] w fun e w'=>e = .returned (.bool (clearA ps (regsL ns x.clob) r))/\Below w.heap.size w w':=by
 have K:=YP T t d ns ps cls k x w h hx
 have hcb:=h.cb x (List.mem_of_getElem? hx)
 rw[je hk] at K
 have hLl:(regsL ns x.clob).length<=100000:=by simp[regsL];exact hcb
 generalize regsL ns x.clob=L at *
 have h2:=Lib.hid h
 clear h hx hk hcb
 go_enter Tryz.func53,Tryz.ntmps53
 go_wp2_with (go_at_call 24;refine K.mono ?_;clear K;rintro e W1 hpost;obtain⟨⟨sa,sn,sc⟩,rfl,hI,hb1⟩:=hpost.ints;clear hpost)
 have hsn:=hI.len
 dsimp only at hsn
 subst hsn
 replace hI:=Lib.hid hI
 go_loopw [8] (fun i wr=>∃j:Nat,j<=L.length/\i = .int .i64 j/\Hid (clearA ps (L.take j) r=true)/\Below W1.heap.size W1 wr) (fun i _=>L.length-(intOf i).toNat)
 case atStart=>exact⟨0,Nat.zero_le _,rfl,Lib.hid rfl,Below.refl _ _⟩
 case round=>
  obtain⟨j,hj,rfl,hA,hB⟩:=hrel
  have j0:(0:Int)<=j:=Int.natCast_nonneg _
  by_cases hlt:j<L.length
  ·obtain⟨c,hc⟩:∃c,L[j]?=some c:=⟨L[j],by rw[List.getElem?_eq_getElem hlt]⟩
   obtain⟨b,o,rfl,hcell⟩:=hI.out.at_.2.2 j c hc
   replace hcell:=cell_below hB hcell
   have hAll:=hb1.trans (hB.mono hb1.size)
   have h3:=h2.out.below hAll
   have K:=XX T t ps c r wr h3.tab h3.places
   have j1:(j:Int)<L.length:=by omega
   clear h3
   cases hl:xC ps c r with
   |true=>
    have hres:Hid (clearA ps L r=false):=Lib.hid (qcC hc hl)
    rw[hl] at K
    clear hl hc hA
    go_wp2_with fail
    go_at_call 61
    refine K.mono ?_
    clear K
    rintro e W3 ⟨rfl,hb3⟩
    go_wp2_with fail
    go_ret
    exact⟨qg hres.out.symm,hAll.trans (hb3.mono hAll.size)⟩
   |false=>
    have hA2:=Lib.hid (qbm hA.out hc hl)
    rw[hl] at K
    clear hl hc hA
    go_wp2_with fail
    go_at_call 61
    refine K.mono ?_
    clear K
    rintro e W3 ⟨rfl,hb3⟩
    go_wp2_with fail
    exact⟨⟨j+1,by omega,by go_num,hA2,hB.trans (hb3.mono hB.size)⟩,by simp[intOf];omega⟩
  ·have hres:Hid (clearA ps L r=true):=Lib.hid (by
    have:=hA.out
    rw[List.take_of_length_le (by omega)] at this;exact this)
   clear hA
   go_wp2_with fail
   go_ret
   exact⟨qg hres.out.symm,hb1.trans (hB.mono hb1.size)⟩
theorem qbn(T:Nat)(t:TV)(d:MachD)(ns:List ByteArray)(ps:List Plc)(cls:List (List Int))(k:Int)(w:World)(h:TabOk w T t d ns ps cls)(hk:k<0∨(d.ops.length:Int)<=k) :
 Calls Tryz.prog 24 #[.pointer (some ⟨T,0,none⟩),.int .i64 k] w (zS w []):=by
 have c3:=Cells.cell h.tab (j:=3) (v:=.slice t.m.ops.a t.m.ops.n t.m.ops.c) rfl
 have hn:=h.ops.1
 have hfin:Hid (zS w [] (.returned (.slice none 0 0)) w):=Lib.hid ⟨⟨none,0,0⟩,rfl,World.ownsRow_nil _ _ _ _,Below.refl _ _⟩
 by_cases h0:k<0
 ·clear h hk hn
  go_enter Tryz.func24,Tryz.ntmps24
  go_wp2_with fail
  go_ret
  exact hfin.out
 ·have h1:(t.m.ops.n:Int)<=k:=by omega
  clear h hk hn
  go_enter Tryz.func24,Tryz.ntmps24
  go_wp2_with fail
  go_ret
  exact hfin.out
def JQ(ns:List ByteArray)(ps:List Plc)(cs:List ClassD)(x:OpD)(p r:Int):Bool:=
 if p<0 then false else if p=0 then(choiceS ns cs x.d).contains r&&clearA ps (regsL ns x.clob) r else(x.uses[(p-1).toNat]?).elim false fun u=>(choiceS ns cs u).contains r
theorem qcD(T:Nat)(t:TV)(d:MachD)(ns:List ByteArray)(ps:List Plc)(cls:List (List Int))(k p r:Int)(w:World)(h:TabOk w T t d ns ps cls)(hk:k<0∨(d.ops.length:Int)<=k) :
 Calls Tryz.prog 21 #[.pointer (some ⟨T,0,none⟩),.int .i64 k,.int .i64 p,.int .i64 r] w fun e w'=>e = .returned (.bool false)/\Below w.heap.size w w':=by
 have c3:=Cells.cell h.tab (j:=3) (v:=.slice t.m.ops.a t.m.ops.n t.m.ops.c) rfl
 have hn:=h.ops.1
 by_cases h0:k<0
 ·clear h hk hn
  go_enter Tryz.func21,Tryz.ntmps21
  go_wp2_with fail
  go_ret
  exact⟨rfl,Below.refl _ _⟩
 ·have h1:(t.m.ops.n:Int)<=k:=by omega
  clear h hk hn
  go_enter Tryz.func21,Tryz.ntmps21
  go_wp2_with fail
  go_ret
  exact⟨rfl,Below.refl _ _⟩
theorem qgR(T:Nat)(t:TV)(d:MachD)(ns:List ByteArray)(ps:List Plc)(k:Nat)(x:OpD)(p r:Int)(w:World)(h:TabOk w T t d ns ps (clsOf ns d.classes))(hx:d.ops[k]?=some x)(ho:OpOk ns ps d.classes x) :
 Calls Tryz.prog 21 #[.pointer (some ⟨T,0,none⟩),.int .i64 k,.int .i64 p,.int .i64 r] w fun e w'=>e = .returned (.bool (JQ ns ps d.classes x p r))/\Below w.heap.size w w':=by
 obtain⟨b,o,ha,u,kk,hc0,hc1,hc2,hc3,hc4,hc5,hcu,hck⟩:=h.ops.2.2 k x hx
 have hlt:=(List.getElem?_eq_some_iff.1 hx).1
 have K1:=fun W (hb:Below w.heap.size w W)=>xB T t d ns ps x.d W (h.below hb) ho.good.d (fun r hr=>(ho.dn r hr).1)
 have K2:=fun W (hb:Below w.heap.size w W)=>qei T t d ns ps _ k x r W (h.below hb) hx ho.clob
 have K4:=fun v (hv:v∈x.uses) W (hb:Below w.heap.size w W)=>xB T t d ns ps v W (h.below hb) (ho.good.u v hv) (fun r hr=>(ho.un v hv r hr).1)
 have c3:=Cells.cell h.tab (j:=3) (v:=.slice t.m.ops.a t.m.ops.n t.m.ops.c) rfl
 have hn:=h.ops.1
 have hcap:=h.ops.2.1
 have hun:=hcu.1
 have hub:=h.ub x (List.mem_of_getElem? hx)
 rw[ha] at c3
 have k0:(0:Int)<=k:=Int.natCast_nonneg _
 have i1:k<t.m.ops.n:=by omega
 have i2:(k:Int)<t.m.ops.n:=by omega
 generalize t.m.ops.n=pn at *
 generalize t.m.ops.c=pc at *
 rcases(by omega:p<0∨p=0∨0<p) with hp|rfl|hp
 ·have hv:JQ ns ps d.classes x p r=false:=by unfold JQ;rw[if_pos hp]
  rw[hv]
  clear h hx hlt ha hn hcu hck hun K1 K2 K4 hv ho hub
  go_enter Tryz.func21,Tryz.ntmps21
  go_wp2_with fail
  go_ret
  exact⟨rfl,Below.refl _ _⟩
 ·have hv:JQ ns ps d.classes x 0 r=((choiceS ns d.classes x.d).contains r&&clearA ps (regsL ns x.clob) r):=by unfold JQ;rw[if_neg (by omega),if_pos rfl]
  rw[hv]
  have u0:¬ (u.n:Int)<0:=by omega
  have hdl:=ho.dl
  generalize clearA ps (regsL ns x.clob) r=q at *
  generalize choiceS ns d.classes x.d=L at *
  obtain⟨xn,⟨xc,xf⟩,xu,xt,xk⟩:=x
  dsimp only at hc0 hc1 hc2 hc3 hc4 hc5 K1
  obtain⟨cq,hcq⟩:∃cq,cq=L.contains r:=⟨_,rfl⟩
  rw[←hcq]
  replace hcq:=Lib.hid hcq
  clear h hx hlt ha hn hcu hck hun K4 hv ho hub
  go_enter Tryz.func21,Tryz.ntmps21
  go_wp2_with fail
  go_at_call 52
  refine(K1 _ (Below.refl _ _)).mono ?_
  rintro e W1 ⟨s,rfl,hI,hb1⟩
  have K3:=qaB s L r W1 hI.at_ (by have:=hI.len;omega)
  replace hI:=Lib.hid hI
  rw[←hcq.out] at K3
  clear hcq
  cases cq
  all_goals
   go_wp2_with (first
    |(go_at_call 49;refine K3.mono ?_;clear K3;rintro e W2 ⟨rfl,rfl⟩)
    |(go_at_call 53;refine(K2 _ hb1).mono ?_;clear K2;rintro e W3 ⟨rfl,hb3⟩))
   go_ret
   exact⟨qg (by rfl),hb1.trans (hb3.mono hb1.size)⟩
 ·obtain⟨j,rfl⟩:∃j:Nat,p=(j:Int)+1:=⟨(p-1).toNat,by omega⟩
  have hv:JQ ns ps d.classes x ((j:Int)+1) r=(x.uses[j]?).elim false fun u=>(choiceS ns d.classes u).contains r:=by
   unfold JQ;rw[if_neg (by omega),if_neg (by omega),show((j:Int)+1-1).toNat=j by omega]
  rw[hv]
  by_cases hj:j<x.uses.length
  ·obtain⟨v,hjv⟩:∃v,x.uses[j]?=some v:=⟨x.uses[j],List.getElem?_eq_getElem hj⟩
   rw[hjv]
   have hvm:=List.mem_of_getElem? hjv
   obtain⟨ub,uo,hua,v0,v1⟩:=hcu.2.2 j v hjv
   have K5:=K4 v hvm
   have hul:=ho.ul v hvm
   have hucap:=hcu.2.1
   show Calls _ _ _ _ fun e w'=>e = .returned (.bool ((choiceS ns d.classes v).contains r))/\_
   generalize choiceS ns d.classes v=L at *
   obtain⟨cq,hcq⟩:∃cq,cq=L.contains r:=⟨_,rfl⟩
   rw[←hcq]
   replace hcq:=Lib.hid hcq
   have j1:¬ (u.n:Int)<(j:Int)+1:=by omega
   have j2:¬ (j:Int)+1<0:=by omega
   have j3:(0:Int)<(j:Int)+1:=by omega
   have j4:IntKind.i64.wrap ((j:Int)+1-1)=j:=by rw[IntWalk.i64_in _ (by omega)];omega
   have j7:IntKind.i64.wrap (j:Int)=j:=IntWalk.i64_in _ (by omega)
   have j8:(j:Int)+1-1=j:=by omega
   have j5:(j:Int)<u.n:=by omega
   have j6:j<u.n:=by omega
   rw[hua] at hc3
   obtain⟨vc,vf⟩:=v
   dsimp only at v0 v1 K5
   clear h hx hlt ha hn hcu hck hun K1 K2 K4 hv ho hub hvm hjv hj hua
   go_enter Tryz.func21,Tryz.ntmps21
   go_wp2_with fail
   go_at_call 52
   refine(K5 _ (Below.refl _ _)).mono ?_
   rintro e W1 ⟨s,rfl,hI,hb1⟩
   have K3:=qaB s L r W1 hI.at_ (by have:=hI.len;omega)
   replace hI:=Lib.hid hI
   rw[←hcq.out] at K3
   clear hcq
   go_wp2_with (go_at_call 49;refine K3.mono ?_;clear K3;rintro e W2 ⟨rfl,rfl⟩)
   go_ret
   exact⟨rfl,hb1⟩
  ·rw[List.getElem?_eq_none (by omega)]
   show Calls _ _ _ _ fun e w'=>e = .returned (.bool false)/\_
   have j1:(u.n:Int)<(j:Int)+1:=by omega
   have j2:¬ (j:Int)+1<0:=by omega
   clear h hx hlt ha hn hcu hck hun K1 K2 K4 hv ho hub hj
   go_enter Tryz.func21,Tryz.ntmps21
   go_wp2_with fail
   go_ret
   exact⟨rfl,Below.refl _ _⟩
end Go.Proofs.YtkoloennfejaaaaGreatDoor
