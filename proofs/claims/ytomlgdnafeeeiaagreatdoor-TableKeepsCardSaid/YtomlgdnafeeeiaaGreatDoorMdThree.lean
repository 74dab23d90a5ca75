
import Derived.Test.YtomlgdnafeeeiaaGreatDoorMdOne
set_option maxHeartbeats 8000000
set_option maxRecDepth 100000
/-
 What stands while a machine is checked: the block of 'checked',its names and places,in arrays of their own;what a step keeps of it. And what follows: see the heads within.
-/
namespace Go.Proofs.YtomlgdnafeeeiaaGreatDoor
open Proofs.Tryz
open Go.RowKit
structure zH where
 b:Nat
 cs:Array Value
structure St[Inhabited zH](w0 w:World)(C:Nat)(c:CV)(ns:List ByteArray)(ps:List Plc):Prop where
 below:BX w0 w
 base:w0.heap.size<=C
 chk:jq w C c
 names:w.ownsRow w0.heap.size 9 1 c.names.v ns.length (ns.map Value.string)
 places:w.ownsRow w0.heap.size 87 3 c.places.v ps.length (qK ps)
 few:ns.length<=200
 same:ps.length=ns.length
 ok:∀p,p∈ps->xT p
 fns:qd w (default:zH).b 110 (default:zH).cs
theorem St.step[Inhabited zH]{w0 w w':World}{C:Nat}{c:CV}{ns:List ByteArray}{ps:List Plc}(h:St w0 w C c ns ps)(hb:BX w w'):St w0 w' C c ns ps:=
 ⟨h.below.trans (hb.mono h.below.size),h.base,h.chk.below hb h.chk.lt,qe h.names hb,qe h.places hb,h.few,h.same,h.ok,h.fns.below hb h.fns.lt⟩
theorem St.fns_ne[Inhabited zH]{w0 W:World}{C:Nat}{c:CV}{ns:List ByteArray}{ps:List Plc}(h:St w0 W C c ns ps):(default:zH).b≠C:=fun eb=>by
 have h1:=h.fns
 rw[eb] at h1
 have h2:=Option.some.inj ((show W.heap[C]?=_ from h1).symm.trans (show W.heap[C]?=_ from h.chk))
 injection h2 with _ ht _
 exact absurd ht (by decide)
theorem St.namesAt[Inhabited zH]{w0 w:World}{C:Nat}{c:CV}{ns:List ByteArray}{ps:List Plc}(h:St w0 w C c ns ps):ZB w c ns:=by
 have:=qG.of_row h.names rfl
 exact⟨this,by have:=this.1;have:=h.few;omega⟩
theorem St.placesAt[Inhabited zH]{w0 w:World}{C:Nat}{c:CV}{ns:List ByteArray}{ps:List Plc}(h:St w0 w C c ns ps):xg w c ps:=by
 have hf:=h.few
 have hs:=h.same
 have hrow:=h.places
 rcases hrow.2 with⟨h1,h2⟩|⟨g,cap,cur,h1,h2,h3,h4,_⟩
 ·unfold SlV.v at h1
  injection h1 with e1 e2 e3
  have hl:ps = []:=vJ.1 (by omega)
  subst hl
  exact⟨h.ok,by simp;omega,by omega,by omega,fun i p hp=>by simp at hp⟩
 ·unfold SlV.v at h1
  injection h1 with e1 e2 e3
  refine⟨h.ok,by omega,by omega,by omega,fun i p hp=>⟨g,0,e1,?_⟩⟩
  rw[Nat.zero_add]
  have hv:c.places.v = .slice (some ⟨g,0,none⟩) c.places.n c.places.c:=by unfold SlV.v;rw[e1]
  rw[hv] at hrow
  obtain⟨q0,q1,q2⟩:=jH hp
  exact⟨qu hrow q0,qu hrow q1,qu hrow q2⟩
theorem yH{base T j:Nat}{t e:TypeId}{size:Nat}{cs:Array Value}{v':Value}{m:Nat}{ys:List Value}{W W7:World}(h:ZZ base T j t e size cs v' m ys W W7)(hT:qd W T t cs)
 {base':Nat} {e':TypeId} {size':Nat} {v2:Value} {k2:Nat} {xs2:List Value} (h2:W.ownsRow base' e' size' v2 k2 xs2) (he:e'≠e) (ht:e'≠t):W7.ownsRow base' e' size' v2 k2 xs2:=by
 refine⟨h2.1,?_⟩
 rcases h2.2 with h3|⟨g,cap,cur,e1,e2,e3,e4⟩
 ·exact .inl h3
 ·refine .inr ⟨g,cap,cur,e1,e2,h.block g e' cur e3 (fun eg=>?_) he,e4⟩
  subst eg
  have:=(show W.heap[g]?=_ from e3).symm.trans (show W.heap[g]?=_ from hT)
  cases this;exact ht rfl
theorem qN.grown{base T j:Nat}{t e:TypeId}{size:Nat}{cs:Array Value}{v':Value}{m:Nat}{ys:List Value}{W W7:World}(h:ZZ base T j t e size cs v' m ys W W7)(hT:qd W T t cs){s:SlV}{l:List Int}(hs:qN W s l)(he:3≠e)(ht:3≠t):qN W7 s l:=yH h hT hs he ht
def zC(w0 W:World)(s:SlV)(ls:List (List Int)):Prop:=
 ∃vs:List SlV,vs.length=ls.length/\W.ownsRow w0.heap.size 55 1 s.v ls.length (vs.map SlV.v)/\∀ (i:Nat) v l,vs[i]?=some v->ls[i]?=some l->qN W v l/\l.length<=1000/\(v.a=none->v.c=0)
theorem zC.lists{w0 W:World}{s:SlV}{ls:List (List Int)}(h:zC w0 W s ls):zW W s ls:=by
 obtain⟨vs,h1,h2,h3⟩:=h
 exact⟨vs,h1,qm h2 (vO _),h3⟩
theorem zC.below{w0 W W':World}{s:SlV}{ls:List (List Int)}(h:zC w0 W s ls)(hb:BX W W'):zC w0 W' s ls:=by
 obtain⟨vs,h1,h2,h3⟩:=h
 exact⟨vs,h1,qe h2 hb,fun i v l hv hl=>⟨(h3 i v l hv hl).1.below hb,(h3 i v l hv hl).2⟩⟩
theorem zC.nil(w0 W:World):zC w0 W ⟨none,0,0⟩ []:=⟨[],rfl,kO _ _ _ _,fun i v l hv _=>by simp at hv⟩
theorem St.grown[Inhabited zH]{w0 W W7:World}{C j:Nat}{c c':CV}{ns:List ByteArray}{ps:List Plc}{e:TypeId}{size m:Nat}{v':Value}{ys:List Value}(h:St w0 W C c ns ps)(hG:ZZ w0.heap.size C j 108 e size c.cells v' m ys W W7)
 (hc:c'.cells=c.cells.setIfInBounds j v') (hn:c'.names=c.names) (hp:c'.places=c.places) (e1:9≠e) (e2:87≠e) (e3:110≠e):St w0 W7 C c' ns ps:=by
 refine⟨h.below.trans hG.below,h.base,?_,?_,?_,h.few,h.same,h.ok,hG.block _ _ _ h.fns h.fns_ne e3⟩
 ·show qd W7 C 108 c'.cells
  rw[hc];exact hG.cells
 ·rw[hn];exact yH hG h.chk h.names e1 (by decide)
 ·rw[hp];exact yH hG h.chk h.places e2 (by decide)
theorem Jf(nm:ByteArray->Bool)(ns:List ByteArray)(ps:List Plc)(cs:List qp)(k:Nat)(x:qp)(hx:cs[k]?=some x) :
 zA nm ns ps (cs.take k) (cs.drop k)=if zT nm ns ps (cs.take k) x=0 then zA nm ns ps (cs.take (k+1)) (cs.drop (k+1)) else zT nm ns ps (cs.take k) x:=by
 have hlt:k<cs.length:=(vS.1 hx).1
 rw[List.drop_eq_getElem_cons hlt,vX,hx]
 have:cs[k]=x:=(vS.1 hx).2
 rw[this];rfl
theorem Qu{ns:List ByteArray}{ps:List Plc}{l:List ByteArray}(hs:ps.length=ns.length)(h:(qh ns l).contains (-1)=false):∀x,x∈qh ns l->Num ps x:=fun x hx=>by
 unfold qh at hx
 obtain⟨s,hs2,rfl⟩:=List.mem_map.1 hx
 have hr:=zO ns s
 refine⟨?_,by omega⟩
 by_cases h0:0<=qv ns s
 ·exact h0
 ·have:qv ns s = -1:=by omega
  have hc:(qh ns l).contains (-1)=true:=by
   rw[List.contains_iff_mem];exact List.mem_map.2 ⟨s,hs2,this⟩
  rw[hc] at h;cases h
theorem yg{W W':World}{base base2:Nat}{e e2:TypeId}{size size2 k k2:Nat}{v v2:Value}{xs xs2:List Value}(h:W.ownsRow base e size v k xs)(h2:W.ownsRow base2 e2 size2 v2 k2 xs2)(hg:W.grownBy W' v2.ownBlock)(he:e≠e2):W'.ownsRow base e size v k xs:=by
 refine h.kept hg ?_
 cases hv:v.ownBlock with
 | none=>exact .inl rfl
 |some b=>
  refine .inr fun e1=>?_
  obtain⟨_,c1,hc1⟩:=qf h hv
  obtain⟨_,c2,hc2⟩:=qf h2 e1.symm
  have:=(show W.heap[b]?=_ from hc1).symm.trans (show W.heap[b]?=_ from hc2)
  cases this;exact he rfl
def jY(v u:SlV):Prop:=∀b,v.v.ownBlock=some b->u.v.ownBlock≠some b
theorem qN.kept{W W':World}{s u:SlV}{l:List Int}(h:qN W s l)(hg:W.grownBy W' u.v.ownBlock)(ha:jY s u):qN W' s l:=by
 refine World.ownsRow.kept h hg ?_
 cases hv:s.v.ownBlock with
 | none=>exact .inl rfl
 | some b=>exact .inr fun e1=>ha b hv e1.symm
theorem qN.lt{W:World}{s:SlV}{l:List Int}(h:qN W s l){b:Nat}(hb:s.v.ownBlock=some b):b<W.heap.size:=by
 obtain⟨_,cur,hc⟩:=qf h hb
 exact hc.lt
theorem jY.fresh{W:World}{s u:SlV}{l:List Int}(h:qN W s l)(hu:∀b,u.v.ownBlock=some b->W.heap.size<=b):jY s u:=fun b hb e=>by
 have:=h.lt hb
 have:=hu b e
 omega
theorem qd.drew{W:World}{b:Nat}{t:TypeId}{cs:Array Value}(h:qd W b t cs):qd W.drew b t cs:=h
theorem qd.kept_row{W W':World}{b:Nat}{t:TypeId}{cs:Array Value}{base:Nat}{e:TypeId}{size k:Nat}{v:Value}{xs:List Value}(h:qd W b t cs)(h2:W.ownsRow base e size v k xs)(hg:W.grownBy W' v.ownBlock)(hte:t≠e):qd W' b t cs:=h.kept hg (h.not_row hte h2)
theorem zq{W:World}{b:Nat}{t:TypeId}{cs:Array Value}{base:Nat}{e:TypeId}{size k:Nat}{v:Value}{xs:List Value}(hC:qd W b t cs)(h:W.ownsRow base e size v k xs)(he:e≠t)(j:Nat)(x:Value):(W.setCell ⟨b,j,none⟩ x).ownsRow base e size v k xs:=
 h.kept (qZ W b j x) (.inr fun e1=>hC.not_row (Ne.symm he) h e1.symm)
theorem ZG{W:World}{R:Nat}{t:TypeId}{a b c d:Value}(h:qd W R t #[a,b,c,d])(x y z u:Value):qd ((((W.setCell ⟨R,0,none⟩ x).setCell ⟨R,1,none⟩ y).setCell ⟨R,2,none⟩ z).setCell ⟨R,3,none⟩ u) R t #[x,y,z,u]:=by
 simpa using(((h.set (j:=0) x).set (j:=1) y).set (j:=2) z).set (j:=3) u
theorem jo{W:World}{R:Nat}{t:TypeId}{a b c d:Value}(h:qd W R t #[a,b,c,d])(x y z u:Value){base:Nat}{e:TypeId}{size k:Nat}{v:Value}{xs:List Value}(hr:W.ownsRow base e size v k xs)(he:e≠t) :
 ((((W.setCell ⟨R,0,none⟩ x).setCell ⟨R,1,none⟩ y).setCell ⟨R,2,none⟩ z).setCell ⟨R,3,none⟩ u).ownsRow base e size v k xs:=
 zq (((h.set (j:=0) x).set (j:=1) y).set (j:=2) z) (zq ((h.set (j:=0) x).set (j:=1) y) (zq (h.set (j:=0) x) (zq h hr he 0 x) he 1 y) he 2 z) he 3 u
theorem yN{W:World}{R b':Nat}{t:TypeId}{cs:Array Value}(h:qd W b' t cs)(hne:b'≠R)(x y z u:Value):qd ((((W.setCell ⟨R,0,none⟩ x).setCell ⟨R,1,none⟩ y).setCell ⟨R,2,none⟩ z).setCell ⟨R,3,none⟩ u) b' t cs:=
 (((h.other hne x).other hne y).other hne z).other hne u
theorem xQ{B R:Nat}{w W:World}(h:Below B w W)(hR:B<=R)(x y z u:Value):Below B w ((((W.setCell ⟨R,0,none⟩ x).setCell ⟨R,1,none⟩ y).setCell ⟨R,2,none⟩ z).setCell ⟨R,3,none⟩ u):=
 (((h.setCell (p:=⟨R,0,none⟩) hR x).setCell (p:=⟨R,1,none⟩) hR y).setCell (p:=⟨R,2,none⟩) hR z).setCell (p:=⟨R,3,none⟩) hR u
structure Kx(w W:World)(R:Nat)(bx:Array Value)(dv uv kv:SlV)(tie:Int)(d k:List Int):Prop where
 below:BX w W
 far:w.heap.size+2<=R
 box:qd W w.heap.size 47 bx
 res:qd W (w.heap.size+1) 155 #[.slice none 0 0,.slice none 0 0,.int .i64 0,.slice none 0 0]
 read:qd W R 155 #[.slice dv.a dv.n dv.c,.slice uv.a uv.n uv.c,.int .i64 tie,.slice kv.a kv.n kv.c]
 d:qN W dv d
 k:qN W kv k
theorem Kx.step{w W W':World}{R:Nat}{bx:Array Value}{dv uv kv:SlV}{tie:Int}{d k:List Int}(h:Kx w W R bx dv uv kv tie d k)(hb:BX W W'):Kx w W' R bx dv uv kv tie d k:=
 ⟨h.below.trans (hb.mono h.below.size),h.far,h.box.below hb h.box.lt,h.res.below hb h.res.lt,h.read.below hb h.read.lt,h.d.below hb,h.k.below hb⟩
structure yi(w W:World)(uv wd dv kv:SlV)(ls:List (List Int))(wl:List Int)(vs:List SlV):Prop where
 len:vs.length=ls.length
 urow:W.ownsRow w.heap.size 55 1 uv.v ls.length (vs.map SlV.v)
 each:∀ (i:Nat) v l,vs[i]?=some v->ls[i]?=some l->qN W v l/\l.length<=1000/\(v.a=none->v.c=0)/\jY v wd
 wrow:W.ownsRow w.heap.size 3 1 wd.v wl.length (wl.map (Value.int .i64))
 da:jY dv wd
 ka:jY kv wd
theorem yi.step{w W W':World}{uv wd dv kv:SlV}{ls:List (List Int)}{wl:List Int}{vs:List SlV}(h:yi w W uv wd dv kv ls wl vs)(hb:BX W W'):yi w W' uv wd dv kv ls wl vs:=
 ⟨h.len,qe h.urow hb,fun i v l hv hl=>⟨(h.each i v l hv hl).1.below hb,(h.each i v l hv hl).2⟩,qe h.wrow hb,h.da,h.ka⟩
theorem YP:∀ {ls:List (List Int)},(∀l,l∈ls->l.length<=1000)->ls.flatten.length<=1000*ls.length
 | [],_=>by simp
 |l::ls,h=>by
  have h1:=h l (by simp)
  have h2:=YP (ls:=ls) (fun x hx=>h x (by simp[hx]))
  simp only[List.flatten_cons,kA,List.length_cons];omega
theorem yi.flat{w W:World}{uv wd dv kv:SlV}{ls:List (List Int)}{wl:List Int}{vs:List SlV}(h:yi w W uv wd dv kv ls wl vs):ls.flatten.length<=1000*ls.length:=
 YP fun l hl=>by
  obtain⟨i,hi⟩:=List.getElem?_of_mem hl
  have hi2:i<vs.length:=by rw[h.len];exact(vS.1 hi).1
  exact(h.each i vs[i] l (vE hi2) hi).2.1
theorem qbT{w W12 W14 W15:World}{R:Nat}{bx:Array Value}{dv uv uv' kv wd wd' s:SlV}{tie:Int}{d k l wl:List Int}{ls:List (List Int)}{vs:List SlV}{tmp:Obj}
 (hF:Kx w W12 R bx dv uv kv tie d k) (hU:yi w W12 uv wd dv kv ls wl vs) (hs:qN W12 s l) (hl:l.length<=1000) (hz:s.a=none->s.c=0) (ha:jY s wd)
 (hg1:(W12.alloc tmp).grownBy W14 uv.v.ownBlock) (ho1:W14.ownsRow w.heap.size 55 1 uv'.v (ls.length+1) (vs.map SlV.v++[s.v]))
 (hg2:W14.grownBy W15 wd.v.ownBlock) (ho2:W15.ownsRow w.heap.size 3 1 wd'.v (wl.length+l.length) (wl.map (Value.int .i64)++l.map (Value.int .i64))) (hb2:wd'.v.ownBlock=wd.v.ownBlock∨wd'.v.ownBlock=some W14.heap.size) :
 Kx w (W15.setCell ⟨R,1,none⟩ uv'.v) R bx dv uv' kv tie d k/\yi w (W15.setCell ⟨R,1,none⟩ uv'.v) uv' wd' dv kv (ls++[l]) (wl++l) (vs++[s]):=by
 have hu13:=hU.urow.alloc tmp
 have hw14:=yg (hU.wrow.alloc tmp) hu13 hg1 (by decide)
 have hz12:W12.heap.size<=W14.heap.size:=vR (by simp) hg1.size
 have hR:w.heap.size<=R:=by have:=hF.far;omega
 have kept:∀ {b:Nat} {t:TypeId} {cs:Array Value},qd W12 b t cs->t≠55->t≠3->qd W15 b t cs:=fun h h1 h2=>((h.alloc tmp).kept_row hu13 hg1 h1).kept_row hw14 hg2 h2
 have hrd:=kept hF.read (by decide) (by decide)
 have ints:∀ {v:SlV} {li:List Int},qN W12 v li->jY v wd->qN (W15.setCell ⟨R,1,none⟩ uv'.v) v li:=fun h hap=>by
  have h13:qN (W12.alloc tmp) _ _:=World.ownsRow.alloc h tmp
  have h14:qN W14 _ _:=yg h13 hu13 hg1 (by decide)
  exact zq hrd (h14.kept hg2 hap) (by decide) 1 uv'.v
 have apart:∀ {v:SlV} {li:List Int},qN W12 v li->jY v wd->jY v wd':=fun h hap b hb e=>by
  rcases hb2 with h2|h2
  ·rw[h2] at e;exact hap b hb e
  ·rw[h2] at e
   have:=h.lt hb
   cases e;omega
 have hB:BX w (W15.setCell ⟨R,1,none⟩ uv'.v):=by
  have hw:=hF.below.size
  have b14:BX w W14:=(hF.below.alloc hw tmp).grown hg1 (by simp;omega) (fun i e=>(qf hU.urow e).1)
  have b15:BX w W15:=b14.grown hg2 (by omega) (fun i e=>(qf hU.wrow e).1)
  exact b15.setCell (p:=⟨R,1,none⟩) hR uv'.v
 have hne0:w.heap.size≠R:=by have:=hF.far;omega
 have hne1:w.heap.size+1≠R:=by have:=hF.far;omega
 refine⟨⟨hB,hF.far,(kept hF.box (by decide) (by decide)).other hne0 _,(kept hF.res (by decide) (by decide)).other hne1 _,?_,ints hF.d hU.da,ints hF.k hU.ka⟩,⟨?_,?_,?_,?_,apart hF.d hU.da,apart hF.k hU.ka⟩⟩
 ·have:=hrd.set (j:=1) uv'.v
  simpa[SlV.v] using this
 ·rw[kA,kA,hU.len];rfl
 ·rw[kA,kM]
  exact zq hrd (yg ho1 hw14 hg2 (by decide)) (by decide) 1 uv'.v
 ·intro i v li hv hli
  by_cases hi:i<ls.length
  ·rw[List.getElem?_append_left (by rw[hU.len];exact hi)] at hv
   rw[List.getElem?_append_left hi] at hli
   obtain⟨h1,h2,h3,h4⟩:=hU.each i v li hv hli
   exact⟨ints h1 h4,h2,h3,apart h1 h4⟩
  ·rw[kR (by rw[hU.len];omega),hU.len] at hv
   rw[kR (by omega)] at hli
   have hi0:i-ls.length=0:=by
    have:=(vS.1 hli).1
    simp at this;omega
   rw[hi0] at hv hli
   cases hv
   cases hli
   exact⟨ints hs ha,hl,hz,apart hs ha⟩
 ·rw[kA,kM]
  exact zq hrd ho2 (by decide) 1 uv'.v
structure Ky(W:World)(dv uv kv:SlV)(o:OpR):Prop where
 d:qN W dv o.d
 dn:o.d.length<=1000
 dz:dv.a=none->dv.c=0
 uses:zW W uv o.uses
 clob:qN W kv o.clob
 cn:o.clob.length<=1000
theorem yI{ns:List ByteArray}{cs:List qp}{o:zL}{x:Int}(hx:x∈ql ns cs o):∃l,l∈qr ns cs/\x∈l:=by
 unfold ql at hx
 cases hf:cs.findIdx? (fun x=>eqB x.name o.cls) with
 | none=>rw[hf] at hx;cases hx
 |some k=>
  rw[hf] at hx
  have hk:k<(qr ns cs).length:=by unfold qr;rw[vP];exact(List.findIdx?_eq_some_iff_getElem.1 hf).1
  have hg:(qr ns cs).getD k []=(qr ns cs)[k]:=by rw[vG,vE hk];rfl
  simp only[hg] at hx
  refine⟨(qr ns cs)[k],List.getElem_mem hk,?_⟩
  split at hx
  ·exact hx
  ·split at hx
   ·rename_i _ h
    have:x=qv ns o.fix:=by simpa using hx
    rw[this];simpa using h
   ·cases hx
def Jt(w:World)(o:OpR)(e:Ending)(w':World):Prop:=
 ∃dv uv kv:SlV,e = .returned (.tuple #[.agg #[.slice dv.a dv.n dv.c,.slice uv.a uv.n uv.c,.int .i64 o.tie,.slice kv.a kv.n kv.c],.bool true])/\BX w w'/\Ky w' dv uv kv o
theorem qhm[Inhabited zH](C:Nat)(c:CV)(ns:List ByteArray)(ps:List Plc)(cs:List qp)(o:OpD)(u kk:SlV)(w0 w:World)(hS:St w0 w C c ns ps)(hK:qS w0 c.m.classes cs)(hkb:c.m.classes.n<=64)(hL:zC w0 w c.classes (qr ns cs))(hnum:∀l,l∈qr ns cs->∀x,x∈l->Num ps x)
 (hu:zY w u o.uses) (hkk:qG w kk o.clob) (hf:jm ns ps cs o=true) (hub:o.uses.length<=2) :
 Calls prog 116 #[.pointer (some ⟨C,0,none⟩),.agg #[.string o.name,.string o.d.cls,.string o.d.fix,.slice u.a u.n u.c,.int .i64 o.tie,.slice kk.a kk.n kk.c]] w (Jt w (opR ns cs o)):=by
 obtain⟨nm,⟨dc,df⟩,us,tie,cl⟩:=o
 obtain⟨ua,un,uc⟩:=u
 obtain⟨ka,kn,kc⟩:=kk
 unfold jm at hf
 simp only[Bool.and_eq_true,decide_eq_true_eq] at hf
 obtain⟨⟨⟨⟨⟨⟨hf1,hf2⟩,hf3⟩,hf4⟩,hf5⟩,hf6⟩,hf7⟩:=hf
 have hun:=hu.1
 have huc:=hu.2.1
 dsimp only at hun huc hf1 hf2 hf3 hf4 hf5 hf6 hf7 hu hub ⊢
 have hb0:BX w (w.alloc (.cells #[.string nm,.string dc,.string df,.slice ua un uc,.int .i64 tie,.slice ka kn kc] 47)):=qi
 have hb1:BX w ((w.alloc (.cells #[.string nm,.string dc,.string df,.slice ua un uc,.int .i64 tie,.slice ka kn kc] 47)).alloc (.cells #[.slice none 0 0,.slice none 0 0,.int .i64 0,.slice none 0 0] 155)):=hb0.alloc (by simp) _
 have Ka:∀W,Calls prog 113 #[.string nm] W fun e w'=>e = .returned (.int .i64 un)/\W=w':=fun W=>(Qs nm W).mono fun e w' ⟨he,hw⟩=>⟨by rw[he];exact qI (by omega),hw⟩
 have Kt:∀W,BX w W->Calls prog 153 #[.agg #[.string nm,.string dc,.string df,.slice ua un uc,.int .i64 tie,.slice ka kn kc]] W fun e w'=>e = .returned (.bool true)/\BX W w':=fun W hb=>by
  have:=Qj ⟨nm,⟨dc,df⟩,us,tie,cl⟩ ⟨ua,un,uc⟩ ⟨ka,kn,kc⟩ W (hu.below hb) (by show un<_;omega)
  rw[hf2] at this;exact this
 have hok2:cl.length<=64/\(qh ns cl).contains (-1)=false:=by unfold zx at hf3;simpa using hf3
 have Kg:∀W,BX w W->Calls prog 110 #[.pointer (some ⟨C,0,none⟩),.slice ka kn kc,.int .i64 64] W fun e w'=>∃s:SlV,e = .returned (.tuple #[.slice s.a s.n s.c,.bool true])/\BX W w'/\qN w' s (qh ns cl):=fun W hb=>
  (Zj C _ ns ⟨ka,kn,kc⟩ cl 64 W (by decide) (by decide) (hS.step hb).chk (hS.step hb).namesAt (hkk.below hb)).mono fun e w' ⟨s,he,hbl,hown⟩=>by
    refine⟨s,by rw[he,show(64:Int).toNat=64 from rfl,hf3],hbl,?_⟩
    have:=hown (by have:=hok2.1;omega)
    have el:cl.length=(qh ns cl).length:=by simp[qh]
    rw[el] at this
    exact qm this (vO _)
 have Kw:∀W s,qN W s (qh ns cl)->Calls prog 111 #[.slice s.a s.n s.c] W fun e w'=>e = .returned (.bool false)/\W=w':=fun W s hI=>by
  have:=XL s _ W hI.at_ (by have:=hI.len;have:=hok2.1;simp[qh] at *;omega)
  rw[show qW [] (qh ns cl)=false by simpa using hf4] at this;exact this
 have Kc:∀ (oo:zL) W,BX w W->Calls prog 154 #[.pointer (some ⟨C,0,none⟩),.agg #[.string oo.cls,.string oo.fix]] W (Js w W (ql ns cs oo)):=fun oo W hb=>
  qaz C c ns cs oo w W (hS.step hb).chk (hS.step hb).namesAt (hK.below (hS.step hb).below) hkb hL.lists hb
 have hS':=vH hS
 replace hun:=vH hun
 clear hS hK hL hf1 hf2 hf3 hf4 hkk
 go_enter func116,ntmps116
 go_wp2_with fail
 go_region_held3 (fun w'=>w'.cell? ⟨w.heap.size,0,none⟩=some (.string nm)/\w'.cell? ⟨w.heap.size,1,none⟩=some (.string dc)/\w'.cell? ⟨w.heap.size,2,none⟩=some (.string df)/\w'.cell? ⟨w.heap.size,3,none⟩=some (.slice ua un uc)/\w'.cell? ⟨w.heap.size,4,none⟩=some (.int .i64 tie)/\w'.cell? ⟨w.heap.size,5,none⟩=some (.slice ka kn kc))
  (go_keep)
  ((first
    |(go_at_call 113;refine(Ka _).mono ?_;clear Ka;rintro e W1 ⟨rfl,rfl⟩)
    |(go_at_call 153;refine(Kt _ hb1.drew).mono ?_;clear Kt;rintro e W1 ⟨rfl,hbt⟩;have hA1:=hb1.drew.trans (hbt.mono (by simp;omega));have k0:W1.cell? ⟨w.heap.size,0,none⟩=some (.string nm):=qs hbt;have k1:W1.cell? ⟨w.heap.size,1,none⟩=some (.string dc):=qs hbt;have k2:W1.cell? ⟨w.heap.size,2,none⟩=some (.string df):=qs hbt;have k3:W1.cell? ⟨w.heap.size,3,none⟩=some (.slice ua un uc):=qs hbt;have k4:W1.cell? ⟨w.heap.size,4,none⟩=some (.int .i64 tie):=qs hbt;have k5:W1.cell? ⟨w.heap.size,5,none⟩=some (.slice ka kn kc):=qs hbt)))
 go_wp2_with (first
  |(go_at_call 110;refine(Kg _ hA1).mono ?_;clear Kg;rintro e W2 ⟨kv,rfl,hb2,hI2⟩;have hA2:=hA1.trans (hb2.mono hA1.size);have m0:=qb hb2 k0;have m1:=qb hb2 k1;have m2:=qb hb2 k2;have m3:=qb hb2 k3;have m4:=qb hb2 k4;clear k0 k1 k2 k3 k4 k5;have Kw':=Kw _ _ hI2)
  |(go_at_call 111;refine Kw'.mono ?_;clear Kw';rintro e W3 ⟨rfl,rfl⟩))
 have hsz2:w.heap.size+2<=W2.heap.size:=by
  have h1:=hbt.size
  have h2:=hb2.size
  simp at h1;omega
 have hBx2:qd W2 w.heap.size 47 #[.string nm,.string dc,.string df,.slice ua un uc,.int .i64 tie,.slice ka kn kc]:=by
  have h0:=(qd.new w 47 #[.string nm,.string dc,.string df,.slice ua un uc,.int .i64 tie,.slice ka kn kc]).alloc (.cells #[.slice none 0 0,.slice none 0 0,.int .i64 0,.slice none 0 0] 155)
  exact(((qd.drew h0).below hbt (by simp;omega)).below hb2 (by have:=hbt.size;simp at this;omega))
 have hRs2:qd W2 (w.heap.size+1) 155 #[.slice none 0 0,.slice none 0 0,.int .i64 0,.slice none 0 0]:=by
  have h0:=qd.new (w.alloc (.cells #[.string nm,.string dc,.string df,.slice ua un uc,.int .i64 tie,.slice ka kn kc] 47)) 155 #[.slice none 0 0,.slice none 0 0,.int .i64 0,.slice none 0 0]
  rw[vZ] at h0
  exact(((qd.drew h0).below hbt (by simp)).below hb2 (by have:=hbt.size;simp at this;omega))
 have nb:W2.heap.size≠w.heap.size:=by omega
 have nb1:W2.heap.size≠w.heap.size+1:=by omega
 go_region_held3 (fun w'=>w'.cell? ⟨w.heap.size,1,none⟩=some (.string dc)/\w'.cell? ⟨w.heap.size,2,none⟩=some (.string df)/\w'.cell? ⟨w.heap.size,4,none⟩=some (.int .i64 tie))
  (go_keep)
  ((go_at_call 154;refine(Kc ⟨dc,df⟩ _ (by first|exact hA2.drew|exact(hA2.drew).alloc (by have:=hA2.size;simp;omega) _)).mono ?_;rintro e W4 ⟨dv,rfl,hb4,hI4,hd4,hz4,ha4⟩;obtain⟨hc4,hf4⟩:=yR hb4;have hs4:=hb4.size;have k1:W4.cell? ⟨w.heap.size,1,none⟩=some (.string dc):=qs hb4;have k2:W4.cell? ⟨w.heap.size,2,none⟩=some (.string df):=qs hb4;have k4:W4.cell? ⟨w.heap.size,4,none⟩=some (.int .i64 tie):=qs hb4))
 all_goals
  first
   |(have hFr:Kx w (W4.alloc (.cells #[.slice dv.a dv.n dv.c,.slice none 0 0,.int .i64 tie,.slice kv.a kv.n kv.c] 155)) W4.heap.size #[.string nm,.string dc,.string df,.slice ua un uc,.int .i64 tie,.slice ka kn kc] dv ⟨none,0,0⟩ kv tie (ql ns cs ⟨dc,df⟩) (qh ns cl):=by
      have hbA:BX W2 W4:=((kB W2.heap.size W2).drew).trans hb4
      have hal:BX W4 (W4.alloc (.cells #[.slice dv.a dv.n dv.c,.slice none 0 0,.int .i64 tie,.slice kv.a kv.n kv.c] 155)):=qi
      exact⟨(hA2.trans (hbA.mono hA2.size)).trans (hal.mono (vR hA2.size hbA.size)),vR hsz2 hbA.size,(hBx2.below hbA hBx2.lt).below hal (vW hBx2.lt hbA.size),(hRs2.below hbA hRs2.lt).below hal (vW hRs2.lt hbA.size),qd.new W4 _ _,hI4.below hal,(hI2.below hbA).below hal⟩
     clear hb4 hI4 ha4 k1 k2 k4 hc4 hf4 hs4
     generalize W4.alloc (.cells #[.slice dv.a dv.n dv.c,.slice none 0 0,.int .i64 tie,.slice kv.a kv.n kv.c] 155)=W5 at hFr ⊢
     generalize W4.heap.size=R at hFr ⊢)
   |(have hFr:Kx w ((((W4.setCell ⟨W2.heap.size,0,none⟩ (.slice dv.a dv.n dv.c)).setCell ⟨W2.heap.size,1,none⟩ (.slice none 0 0)).setCell ⟨W2.heap.size,2,none⟩ (.int .i64 tie)).setCell ⟨W2.heap.size,3,none⟩ (.slice kv.a kv.n kv.c)) W2.heap.size #[.string nm,.string dc,.string df,.slice ua un uc,.int .i64 tie,.slice ka kn kc] dv ⟨none,0,0⟩ kv tie (ql ns cs ⟨dc,df⟩) (qh ns cl):=by
      have hbB:BX W2 W4:=(((kB W2.heap.size W2).drew).alloc (vL _) _).trans (hb4.mono (by simp))
      have hn:=(qd.new W2.drew 155 #[.slice none 0 0,.slice none 0 0,.int .i64 0,.slice none 0 0]).below hb4 (by simp)
      exact⟨xQ (hA2.trans (hbB.mono hA2.size)) hA2.size _ _ _ _,hsz2,yN (hBx2.below hbB hBx2.lt) nb.symm _ _ _ _,yN (hRs2.below hbB hRs2.lt) nb1.symm _ _ _ _,ZG hn _ _ _ _,jo hn _ _ _ _ hI4 (by decide),jo hn _ _ _ _ (hI2.below hbB) (by decide)⟩
     clear hb4 hI4 ha4 k1 k2 k4 hc4 hf4 hs4
     generalize((((W4.setCell ⟨W2.heap.size,0,none⟩ (.slice dv.a dv.n dv.c)).setCell ⟨W2.heap.size,1,none⟩ (.slice none 0 0)).setCell ⟨W2.heap.size,2,none⟩ (.int .i64 tie)).setCell ⟨W2.heap.size,3,none⟩ (.slice kv.a kv.n kv.c))=W5 at hFr ⊢
     generalize W2.heap.size=R at hFr ⊢)
  have Kcl:=Ys dv _ W5 hFr.d.at_ (by have:=hFr.d.len;omega) hz4
  have d0:=hFr.read.cell (j:=0) (v:=.slice dv.a dv.n dv.c) rfl
  clear nb nb1 hsz2 hBx2 hRs2 hA1 hA2 hbt hb2 hI2 m0 m1 m2 m3 m4 Kw hb0 hb1
  go_wp2_with (go_at_call 155;refine Kcl.mono ?_;clear Kcl;rintro e W6 ⟨wd,rfl,hwd,hb6⟩;have hF6:=hFr.step hb6;have bx3:=hF6.box.cell (j:=3) (v:=.slice ua un uc) rfl)
  have hU6:yi w W6 ⟨none,0,0⟩ wd dv kv [] (ql ns cs ⟨dc,df⟩) []:=⟨rfl,kO _ _ _ _,fun i v l hv _=>by simp at hv,qm hwd hFr.below.size,jY.fresh hFr.d (fun b hb=>(qf hwd hb).1),jY.fresh hFr.k (fun b hb=>(qf hwd hb).1)⟩
  clear hwd d0 hb6 bx3
  have hFr2:=vH hF6
  replace hU6:=vH hU6
  clear hFr hF6
  have un0:(0:Int)<=un:=vN _
  go_loopw [54,9,7] (fun i s9 s7 wr=>∃ (k:Nat) (uv wd:SlV) (vs:List SlV),k<=un/\i = .int .i64 k/\s9 = .slice wd.a wd.n wd.c/\s7 = .bool true/\Kx w wr R #[.string nm,.string dc,.string df,.slice ua un uc,.int .i64 tie,.slice ka kn kc] dv uv kv tie (ql ns cs ⟨dc,df⟩) (qh ns cl) /\
   yi w wr uv wd dv kv ((us.take k).map (ql ns cs)) (ql ns cs ⟨dc,df⟩++((us.take k).map (ql ns cs)).flatten) vs) (fun i _ _ _=>un-(intOf i).toNat)
  case atStart=>exact⟨0,⟨none,0,0⟩,wd,[],vO _,rfl,rfl,rfl,hFr2.out,by simpa using hU6.out⟩
  case round=>
   clear hFr2 hU6
   obtain⟨k,uv,wd',vs,hk,rfl,rfl,rfl,hF,hU⟩:=hrel
   have k0:(0:Int)<=k:=vN _
   by_cases hlt:k<un
   ·have hku:k<us.length:=by have:=hun.out;omega
    obtain⟨x,hx⟩:∃x,us[k]?=some x:=⟨us[k],vE hku⟩
    obtain⟨b,of,rfl,x0,x1⟩:=hu.2.2 k x hx
    replace x0:=qb hF.below x0
    replace x1:=qb hF.below x1
    have k1:(k:Int)<un:=by omega
    have hi:IntKind.i64.wrap ((k:Int)+1)=k+1:=vI _ (by omega)
    have hne:ql ns cs x ≠ []:=by
     have:=vV.1 hf5 x (vM hx)
     simpa using this
    have hbal:BX wr (wr.alloc (.cells #[.string x.cls,.string x.fix] 44)):=qi
    have K:=Kc x (wr.alloc (.cells #[.string x.cls,.string x.fix] 44)) (hF.below.trans (hbal.mono hF.below.size))
    have htake:Hid ((us.take (k+1)).map (ql ns cs)=(us.take k).map (ql ns cs)++[ql ns cs x]):=vH (by rw[vX,hx,kM];rfl)
    have hlen:Hid (((us.take k).map (ql ns cs)).length=k):=vH (by rw[vP,List.length_take];omega)
    obtain⟨xc,xf⟩:=x
    dsimp only at x0 x1 K hbal
    generalize ql ns cs ⟨xc,xf⟩=l at K hne htake
    have hF':=vH hF
    have hU':=vH hU
    replace hne:=vH hne
    clear hx hF hU
    obtain⟨i0,hi0,hz0,hz1,hz2⟩:=info_parts qax
    obtain⟨j0,hj0,hj1,hj2,hj3⟩:=info_parts ji
    go_wp2_with fail
    go_at_call 154
    refine K.mono ?_
    clear K
    rintro e W12 ⟨s,rfl,hbc,hIs,hls,hzs,has⟩
    have hbW:BX wr W12:=hbal.trans (hbc.mono (by simp))
    have hF12:=hF'.out.step hbW
    have hU12:=hU'.out.step hbW
    have hap:jY s wd':=fun b' hb' e'=>by
     obtain⟨h1,cur,h2⟩:=qf hU'.out.wrow e'
     have h3:=h2.lt
     rcases has b' hb' with h|h
     ·omega
     ·simp at h;omega
    obtain⟨g,hsa⟩:∃g,s.a=some ⟨g,0,none⟩:=by
     rcases hIs.2 with⟨_,h2⟩|⟨g,cap,cur,h1,_⟩
     ·exact absurd (vJ.1 h2) hne.out
     ·unfold SlV.v at h1;injection h1 with ea;exact⟨g,ea⟩
    have hsn:=hIs.len
    obtain⟨sa,sn,sc⟩:=s
    dsimp only at hsa hsn
    subst hsa hsn
    have hur:=hU12.urow
    rw[hlen.out] at hur
    have hwr:=hU12.wrow
    have hwl1:(ql ns cs ⟨dc,df⟩++((us.take k).map (ql ns cs)).flatten).length<=100000:=by
     have h1:=hU12.flat
     have h2:=hlen.out
     rw[kA];omega
    generalize hwl:ql ns cs ⟨dc,df⟩++((us.take k).map (ql ns cs)).flatten=wl at hU12 hwr hwl1
    have hwlen:=(qJ.of_row hwr rfl).1
    have r1:=hF12.read.cell (j:=1) (v:=.slice uv.a uv.n uv.c) rfl
    have hbs:=hF12.below.size
    have hlpos:0<l.length:=List.length_pos_iff.2 hne.out
    have hlpos2:(0:Int)<l.length:=by omega
    replace hF12:=vH hF12
    replace hU12:=vH hU12
    replace hwl:=vH hwl
    replace hIs:=vH hIs
    replace hap:=vH hap
    clear hF' hU' hwlen has hbc hbW hbal x0 x1
    go_wp2_with (first
     |(at_builtin;refine wpList_append_own_at _ rfl _ _ 65 rfl w.heap.size 55 i0 _ 1 24 underlying65 hi0 hz0 hz1 hz2 rfl (by decide) _ k (vs.map SlV.v) rfl (hur.alloc _) ⟨W12.heap.size,0,none⟩ 1 1 [.slice (some ⟨g,0,none⟩) l.length sc] rfl rfl (zo _ _ _ _ rfl) (by simp[Value.oneCell']) (by unfold maxLen;omega) (by omega) (by simp;omega) ?_;intro v1 W14 hown1 hgrow1 _ hblk1;obtain⟨g1,cap1,rfl⟩:=ownsRow_succ hown1;have hwr14:=yg (hwr.alloc (.cells #[.slice (some ⟨g,0,none⟩) l.length sc] 55)) (hur.alloc (.cells #[.slice (some ⟨g,0,none⟩) l.length sc] 55)) hgrow1 (by decide);have hI14:qN W14 ⟨some ⟨g,0,none⟩,l.length,sc⟩ l:=yg (World.ownsRow.alloc hIs.out (.cells #[.slice (some ⟨g,0,none⟩) l.length sc] 55)) (hur.alloc (.cells #[.slice (some ⟨g,0,none⟩) l.length sc] 55)) hgrow1 (by decide);have hz14:=hgrow1.size)
     |(at_builtin;refine wpList_append_own_at _ rfl _ _ 55 rfl w.heap.size 3 j0 _ 1 8 underlying55 hj0 hj1 hj2 hj3 rfl (by decide) wd'.v wl.length (wl.map (Value.int .i64)) rfl hwr14 ⟨g,0,none⟩ l.length sc (l.map (Value.int .i64)) rfl (by simp) (World.ownsRow.cells hI14 rfl) (fun u hu=>by obtain⟨y,_,rfl⟩:=List.mem_map.1 hu;rfl) (by unfold maxLen;omega) (by omega) (by simp at hz14;omega) ?_;intro v2 W15 hown2 hgrow2 _ hblk2;obtain⟨a2,c2,rfl⟩:=qx hown2;have hR15:=((hF12.out.read.alloc (.cells #[.slice (some ⟨g,0,none⟩) l.length sc] 55)).kept_row (hur.alloc (.cells #[.slice (some ⟨g,0,none⟩) l.length sc] 55)) hgrow1 (by decide)).kept_row hwr14 hgrow2 (by decide);have r15:=hR15.cell (j:=1) (v:=.slice uv.a uv.n uv.c) rfl;have f15:=hR15.frozen 1))
    have hst:=qbT (uv':=⟨some ⟨g1,0,none⟩,k+1,cap1⟩) (wd':=⟨a2,wl.length+l.length,c2⟩) (s:=⟨some ⟨g,0,none⟩,l.length,sc⟩) hF12.out hU12.out hIs.out hls hzs hap.out hgrow1 (by rw[hlen.out];exact hown1) hgrow2 hown2 hblk2
    refine⟨⟨k+1,⟨some ⟨g1,0,none⟩,k+1,cap1⟩,⟨a2,wl.length+l.length,c2⟩,vs++[⟨some ⟨g,0,none⟩,l.length,sc⟩],by omega,by go_num,rfl,rfl,hst.1,?_⟩,by simp[intOf];omega⟩
    have h:=hst.2
    rw[htake.out,List.flatten_append,←List.append_assoc,hwl.out,List.flatten_cons,List.flatten_nil,List.append_nil]
    exact h
   ·obtain rfl:k=un:=by omega
    have hus:us.take k=us:=List.take_of_length_le (by have:=hun.out;omega)
    rw[hus] at hU
    have Ko:∀W,BX wr W->Calls prog 112 #[.pointer (some ⟨C,0,none⟩),.slice wd'.a wd'.n wd'.c] W fun e w'=>e = .returned (.bool true)/\BX W w':=fun W hb=>by
     have hSW:=hS'.out.step (hF.below.trans (hb.mono hF.below.size))
     have hI:=qJ.of_row (qe hU.wrow hb) rfl
     have hfl:=hU.flat
     have h1:=hI.1
     have h2:=hun.out
     have:=ZC C c ps wd' _ W hSW.chk hSW.placesAt hI (by rw[h1,kA];rw[vP] at hfl;omega) (fun x hx=>by
      rcases vC.1 hx with hx|hx
      ·obtain⟨l,h1,h2⟩:=yI hx
       exact hnum l h1 x h2
      ·obtain⟨l0,h1,h2⟩:=List.mem_flatten.1 hx
       obtain⟨oo,_,rfl⟩:=List.mem_map.1 h1
       obtain⟨l,h3,h4⟩:=yI h2
       exact hnum l h3 x h4)
     rw[hf7] at this;exact this
    have r0:=hF.read.cell (j:=0) (v:=.slice dv.a dv.n dv.c) rfl
    have r1:=hF.read.cell (j:=1) (v:=.slice uv.a uv.n uv.c) rfl
    have r2:=hF.read.cell (j:=2) (v:=.int .i64 tie) rfl
    have r3:=hF.read.cell (j:=3) (v:=.slice kv.a kv.n kv.c) rfl
    have q0:=hF.res.cell (j:=0) (v:=.slice none 0 0) rfl
    have q1:=hF.res.cell (j:=1) (v:=.slice none 0 0) rfl
    have q2:=hF.res.cell (j:=2) (v:=.int .i64 0) rfl
    have q3:=hF.res.cell (j:=3) (v:=.slice none 0 0) rfl
    have g0:=hF.res.frozen 0
    have g1:=hF.res.frozen 1
    have g2:=hF.res.frozen 2
    have g3:=hF.res.frozen 3
    have nR:w.heap.size+1≠R:=by have:=hF.far;omega
    have hlt1:=hF.res.lt
    have hdl:0<dv.n:=by
     have h1:=hF.d.len
     have h2:ql ns cs ⟨dc,df⟩ ≠ []:=by simpa using hf6
     have:=List.length_pos_iff.2 h2
     omega
    have hdl2:(0:Int)<dv.n:=by omega
    have hF':=vH hF
    have hU':=vH hU
    clear hF hU hus
    go_wp2_with fail
    go_region_held3 (fun w'=>w'.cell? ⟨R,0,none⟩=some (.slice dv.a dv.n dv.c)/\w'.cell? ⟨R,1,none⟩=some (.slice uv.a uv.n uv.c)/\w'.cell? ⟨R,2,none⟩=some (.int .i64 tie)/\w'.cell? ⟨R,3,none⟩=some (.slice kv.a kv.n kv.c))
     (go_keep)
     ((go_at_call 112;refine(Ko _ ((kB _ _).drew)).mono ?_;clear Ko;rintro e W20 ⟨rfl,hb20⟩;have p0:W20.cell? ⟨w.heap.size+1,0,none⟩=some (.slice none 0 0):=qs hb20;have y0:W20.frozen? ⟨w.heap.size+1,0,none⟩=false:=(hb20.frozen (p:=⟨w.heap.size+1,0,none⟩) hlt1).trans g0;have p1:W20.cell? ⟨w.heap.size+1,1,none⟩=some (.slice none 0 0):=qs hb20;have y1:W20.frozen? ⟨w.heap.size+1,1,none⟩=false:=(hb20.frozen (p:=⟨w.heap.size+1,1,none⟩) hlt1).trans g1;have p2:W20.cell? ⟨w.heap.size+1,2,none⟩=some (.int .i64 0):=qs hb20;have y2:W20.frozen? ⟨w.heap.size+1,2,none⟩=false:=(hb20.frozen (p:=⟨w.heap.size+1,2,none⟩) hlt1).trans g2;have p3:W20.cell? ⟨w.heap.size+1,3,none⟩=some (.slice none 0 0):=qs hb20;have y3:W20.frozen? ⟨w.heap.size+1,3,none⟩=false:=(hb20.frozen (p:=⟨w.heap.size+1,3,none⟩) hlt1).trans g3;have k0:W20.cell? ⟨R,0,none⟩=some (.slice dv.a dv.n dv.c):=qs hb20;have k1:W20.cell? ⟨R,1,none⟩=some (.slice uv.a uv.n uv.c):=qs hb20;have k2:W20.cell? ⟨R,2,none⟩=some (.int .i64 tie):=qs hb20;have k3:W20.cell? ⟨R,3,none⟩=some (.slice kv.a kv.n kv.c):=qs hb20))
    have hbF:BX wr W20:=((kB wr.heap.size wr).drew).trans hb20
    have hF20:=hF'.out.step hbF
    have hU20:=hU'.out.step hbF
    have hfin:qd ((((W20.setCell ⟨w.heap.size+1,0,none⟩ (.slice dv.a dv.n dv.c)).setCell ⟨w.heap.size+1,1,none⟩ (.slice uv.a uv.n uv.c)).setCell ⟨w.heap.size+1,2,none⟩ (.int .i64 tie)).setCell ⟨w.heap.size+1,3,none⟩ (.slice kv.a kv.n kv.c)) (w.heap.size+1) 155 #[.slice dv.a dv.n dv.c,.slice uv.a uv.n uv.c,.int .i64 tie,.slice kv.a kv.n kv.c]/\BX w ((((W20.setCell ⟨w.heap.size+1,0,none⟩ (.slice dv.a dv.n dv.c)).setCell ⟨w.heap.size+1,1,none⟩ (.slice uv.a uv.n uv.c)).setCell ⟨w.heap.size+1,2,none⟩ (.int .i64 tie)).setCell ⟨w.heap.size+1,3,none⟩ (.slice kv.a kv.n kv.c)) /\
     Ky ((((W20.setCell ⟨w.heap.size+1,0,none⟩ (.slice dv.a dv.n dv.c)).setCell ⟨w.heap.size+1,1,none⟩ (.slice uv.a uv.n uv.c)).setCell ⟨w.heap.size+1,2,none⟩ (.int .i64 tie)).setCell ⟨w.heap.size+1,3,none⟩ (.slice kv.a kv.n kv.c)) dv uv kv (opR ns cs ⟨nm,⟨dc,df⟩,us,tie,cl⟩):=by
     refine⟨ZG hF20.res _ _ _ _,xQ hF20.below (by omega) _ _ _ _,jo hF20.res _ _ _ _ hF20.d (by decide),hd4,hz4,⟨vs,hU20.len,?_,fun i v l hv hl=>?_⟩,jo hF20.res _ _ _ _ hF20.k (by decide),by have:=hok2.1;simp[opR,qh];omega⟩
     ·exact jo hF20.res _ _ _ _ (qm hU20.urow (vO _)) (by decide)
     ·obtain⟨h1,h2,h3,_⟩:=hU20.each i v l hv hl
      exact⟨jo hF20.res _ _ _ _ h1 (by decide),h2,h3⟩
    clear k0 k1 k2 k3 p0 p1 p2 p3 y0 y1 y2 y3 hbF hF20 hU20 hb20
    generalize((((W20.setCell ⟨w.heap.size+1,0,none⟩ (.slice dv.a dv.n dv.c)).setCell ⟨w.heap.size+1,1,none⟩ (.slice uv.a uv.n uv.c)).setCell ⟨w.heap.size+1,2,none⟩ (.int .i64 tie)).setCell ⟨w.heap.size+1,3,none⟩ (.slice kv.a kv.n kv.c))=Wf at hfin ⊢
    obtain⟨hCf,hBf,hVf⟩:=hfin
    have z0:=hCf.cell (j:=0) (v:=.slice dv.a dv.n dv.c) rfl
    have z1:=hCf.cell (j:=1) (v:=.slice uv.a uv.n uv.c) rfl
    have z2:=hCf.cell (j:=2) (v:=.int .i64 tie) rfl
    have z3:=hCf.cell (j:=3) (v:=.slice kv.a kv.n kv.c) rfl
    have hP:Jt w (opR ns cs ⟨nm,⟨dc,df⟩,us,tie,cl⟩) (.returned (.tuple #[.agg #[.slice dv.a dv.n dv.c,.slice uv.a uv.n uv.c,.int .i64 tie,.slice kv.a kv.n kv.c],.bool true])) Wf:=⟨dv,uv,kv,rfl,hBf,hVf⟩
    replace hP:=vH hP
    clear r0 r1 r2 r3 q0 q1 q2 q3 g0 g1 g2 g3 hCf hBf hVf hF' hU'
    go_wp2_with fail
    exact bodyPost_ret (v:=.tuple #[.agg #[.slice dv.a dv.n dv.c,.slice uv.a uv.n uv.c,.int .i64 tie,.slice kv.a kv.n kv.c],.bool true]) (by simp[results,results116,go_sem,z0,z1,z2,z3]) rfl hP.out
def yz(w:World)(e:Ending)(w':World):Prop:=e = .returned (.tuple #[.agg #[.slice none 0 0,.slice none 0 0,.int .i64 0,.slice none 0 0],.bool false])/\BX w w'
theorem qfw(C:Nat)(o:OpD)(u kk:SlV)(w:World)(hu:u.n=o.uses.length)(hf:o.uses.length≠zk o.name) :
 Calls prog 116 #[.pointer (some ⟨C,0,none⟩),.agg #[.string o.name,.string o.d.cls,.string o.d.fix,.slice u.a u.n u.c,.int .i64 o.tie,.slice kk.a kk.n kk.c]] w (yz w):=by
 have hne:((u.n:Int) !=(zk o.name:Int))=true:=by simp;omega
 have Ka:=Qs o.name
 generalize(zk o.name:Int)=an at hne Ka
 have hne2:¬ (u.n:Int)=an:=by simpa using hne
 have hP:∀W,BX w W->yz w (.returned (.tuple #[.agg #[.slice none 0 0,.slice none 0 0,.int .i64 0,.slice none 0 0],.bool false])) W:=fun W hb=>⟨rfl,hb⟩
 replace hP:=vH hP
 clear hu hf
 go_enter func116,ntmps116
 go_wp2_with fail
 go_quiet ((go_at_call 113;exact Calls.quiet_of_same ((Ka _).mono fun _ _ ⟨he,hw⟩=>⟨he,hw.symm⟩)))
 go_wp2_with fail
 exact bodyPost_ret (v:=.tuple #[.agg #[.slice none 0 0,.slice none 0 0,.int .i64 0,.slice none 0 0],.bool false]) (by simp[results,results116,go_sem]) rfl (hP.out _ (xQ (below_drewN (qi.alloc (by simp) _) _) (by simp) _ _ _ _))
theorem qbr(C:Nat)(o:OpD)(u kk:SlV)(w:World)(hu:zY w u o.uses)(hub:u.n<4611686018427387904)(hf:o.uses.length=zk o.name)(ht:jd o=false) :
 Calls prog 116 #[.pointer (some ⟨C,0,none⟩),.agg #[.string o.name,.string o.d.cls,.string o.d.fix,.slice u.a u.n u.c,.int .i64 o.tie,.slice kk.a kk.n kk.c]] w (yz w):=by
 obtain⟨nm,⟨dc,df⟩,us,tie,cl⟩:=o
 obtain⟨ua,un,uc⟩:=u
 obtain⟨ka,kn,kc⟩:=kk
 have hun:=hu.1
 dsimp only at hun hf hu hub ⊢
 have hb0:BX w (w.alloc (.cells #[.string nm,.string dc,.string df,.slice ua un uc,.int .i64 tie,.slice ka kn kc] 47)):=qi
 have hb1:BX w ((w.alloc (.cells #[.string nm,.string dc,.string df,.slice ua un uc,.int .i64 tie,.slice ka kn kc] 47)).alloc (.cells #[.slice none 0 0,.slice none 0 0,.int .i64 0,.slice none 0 0] 155)):=hb0.alloc (by simp) _
 have Ka:∀W,Calls prog 113 #[.string nm] W fun e w'=>e = .returned (.int .i64 un)/\W=w':=fun W=>(Qs nm W).mono fun e w' ⟨he,hw⟩=>⟨by rw[he];exact qI (by omega),hw⟩
 have Kt:∀W,BX w W->Calls prog 153 #[.agg #[.string nm,.string dc,.string df,.slice ua un uc,.int .i64 tie,.slice ka kn kc]] W fun e w'=>e = .returned (.bool false)/\BX W w':=fun W hb=>by
  have:=Qj ⟨nm,⟨dc,df⟩,us,tie,cl⟩ ⟨ua,un,uc⟩ ⟨ka,kn,kc⟩ W (hu.below hb) hub
  rw[ht] at this;exact this
 have hR0:qd ((w.alloc (.cells #[.string nm,.string dc,.string df,.slice ua un uc,.int .i64 tie,.slice ka kn kc] 47)).alloc (.cells #[.slice none 0 0,.slice none 0 0,.int .i64 0,.slice none 0 0] 155)) (w.heap.size+1) 155 #[.slice none 0 0,.slice none 0 0,.int .i64 0,.slice none 0 0]:=by
  have h0:=qd.new (w.alloc (.cells #[.string nm,.string dc,.string df,.slice ua un uc,.int .i64 tie,.slice ka kn kc] 47)) 155 #[.slice none 0 0,.slice none 0 0,.int .i64 0,.slice none 0 0]
  rw[vZ] at h0;exact h0
 replace hR0:=vH hR0
 clear hun hf ht hu
 go_enter func116,ntmps116
 go_wp2_with fail
 go_region_held3 (fun w'=>w'.cell? ⟨w.heap.size,0,none⟩=some (.string nm)/\w'.cell? ⟨w.heap.size,1,none⟩=some (.string dc)/\w'.cell? ⟨w.heap.size,2,none⟩=some (.string df)/\w'.cell? ⟨w.heap.size,3,none⟩=some (.slice ua un uc)/\w'.cell? ⟨w.heap.size,4,none⟩=some (.int .i64 tie)/\w'.cell? ⟨w.heap.size,5,none⟩=some (.slice ka kn kc))
  (go_keep)
  ((first
    |(go_at_call 113;refine(Ka _).mono ?_;clear Ka;rintro e W1 ⟨rfl,rfl⟩)
    |(go_at_call 153;refine(Kt _ hb1.drew).mono ?_;clear Kt;rintro e W1 ⟨rfl,hbt⟩;have hA1:=hb1.drew.trans (hbt.mono (by simp;omega));have k0:W1.cell? ⟨w.heap.size,0,none⟩=some (.string nm):=qs hbt;have k1:W1.cell? ⟨w.heap.size,1,none⟩=some (.string dc):=qs hbt;have k2:W1.cell? ⟨w.heap.size,2,none⟩=some (.string df):=qs hbt;have k3:W1.cell? ⟨w.heap.size,3,none⟩=some (.slice ua un uc):=qs hbt;have k4:W1.cell? ⟨w.heap.size,4,none⟩=some (.int .i64 tie):=qs hbt;have k5:W1.cell? ⟨w.heap.size,5,none⟩=some (.slice ka kn kc):=qs hbt)))
 have hR1:qd W1 (w.heap.size+1) 155 #[.slice none 0 0,.slice none 0 0,.int .i64 0,.slice none 0 0]:=(qd.drew hR0.out).below hbt (by simp)
 have q0:=hR1.cell (j:=0) (v:=.slice none 0 0) rfl
 have q1:=hR1.cell (j:=1) (v:=.slice none 0 0) rfl
 have q2:=hR1.cell (j:=2) (v:=.int .i64 0) rfl
 have q3:=hR1.cell (j:=3) (v:=.slice none 0 0) rfl
 have g0:=hR1.frozen 0
 have g1:=hR1.frozen 1
 have g2:=hR1.frozen 2
 have g3:=hR1.frozen 3
 have hP:yz w (.returned (.tuple #[.agg #[.slice none 0 0,.slice none 0 0,.int .i64 0,.slice none 0 0],.bool false])) ((((W1.setCell ⟨w.heap.size+1,0,none⟩ (.slice none 0 0)).setCell ⟨w.heap.size+1,1,none⟩ (.slice none 0 0)).setCell ⟨w.heap.size+1,2,none⟩ (.int .i64 0)).setCell ⟨w.heap.size+1,3,none⟩ (.slice none 0 0)):=⟨rfl,xQ hA1 (by omega) _ _ _ _⟩
 have hC:=ZG hR1 (.slice none 0 0) (.slice none 0 0) (.int .i64 0) (.slice none 0 0)
 replace hC:=vH hC
 replace hP:=vH hP
 go_wp2_with fail
 generalize((((W1.setCell ⟨w.heap.size+1,0,none⟩ (.slice none 0 0)).setCell ⟨w.heap.size+1,1,none⟩ (.slice none 0 0)).setCell ⟨w.heap.size+1,2,none⟩ (.int .i64 0)).setCell ⟨w.heap.size+1,3,none⟩ (.slice none 0 0))=Wf at hP hC ⊢
 have z0:=hC.out.cell (j:=0) (v:=.slice none 0 0) rfl
 have z1:=hC.out.cell (j:=1) (v:=.slice none 0 0) rfl
 have z2:=hC.out.cell (j:=2) (v:=.int .i64 0) rfl
 have z3:=hC.out.cell (j:=3) (v:=.slice none 0 0) rfl
 exact bodyPost_ret (v:=.tuple #[.agg #[.slice none 0 0,.slice none 0 0,.int .i64 0,.slice none 0 0],.bool false]) (by simp[results,results116,go_sem,z0,z1,z2,z3]) rfl hP.out
def ZH(v:SlV×SlV×SlV×Int):List Value:=[.slice v.1.a v.1.n v.1.c,.slice v.2.1.a v.2.1.n v.2.1.c,.int .i64 v.2.2.2,.slice v.2.2.1.a v.2.2.1.n v.2.2.1.c]
def XG(w0 W:World)(s:SlV)(os:List OpR):Prop:=
 ∃vs:List (SlV×SlV×SlV×Int),vs.length=os.length/\W.ownsRow w0.heap.size 155 4 s.v os.length (vs.flatMap ZH)/\∀ (i:Nat) v o,vs[i]?=some v->os[i]?=some o->v.2.2.2=o.tie/\Ky W v.1 v.2.1 v.2.2.1 o
theorem Ky.below{W W':World}{dv uv kv:SlV}{o:OpR}(h:Ky W dv uv kv o)(hb:BX W W'):Ky W' dv uv kv o:=⟨h.d.below hb,h.dn,h.dz,h.uses.below hb,h.clob.below hb,h.cn⟩
theorem XG.below{w0 W W':World}{s:SlV}{os:List OpR}(h:XG w0 W s os)(hb:BX W W'):XG w0 W' s os:=by
 obtain⟨vs,h1,h2,h3⟩:=h
 exact⟨vs,h1,qe h2 hb,fun i v o hv ho=>⟨(h3 i v o hv ho).1,(h3 i v o hv ho).2.below hb⟩⟩
theorem XG.nil(w0 W:World):XG w0 W ⟨none,0,0⟩ []:=⟨[],rfl,kO _ _ _ _,fun i v o hv _=>by simp at hv⟩
theorem zW.grown{base T j:Nat}{t e:TypeId}{size:Nat}{cs:Array Value}{v':Value}{m:Nat}{ys:List Value}{W W7:World}(h:ZZ base T j t e size cs v' m ys W W7)(hT:qd W T t cs){s:SlV}{ls:List (List Int)}(hs:zW W s ls)(he:3≠e)(ht:3≠t)(he2:55≠e)(ht2:55≠t):zW W7 s ls:=by
 obtain⟨vs,h1,h2,h3⟩:=hs
 exact⟨vs,h1,yH h hT h2 he2 ht2,fun i v l hv hl=>⟨(h3 i v l hv hl).1.grown h hT he ht,(h3 i v l hv hl).2⟩⟩
theorem zC.grown{w0:World}{base T j:Nat}{t e:TypeId}{size:Nat}{cs:Array Value}{v':Value}{m:Nat}{ys:List Value}{W W7:World}(h:ZZ base T j t e size cs v' m ys W W7)(hT:qd W T t cs){s:SlV}{ls:List (List Int)}(hs:zC w0 W s ls)(he:3≠e)(ht:3≠t)(he2:55≠e)(ht2:55≠t):zC w0 W7 s ls:=by
 obtain⟨vs,h1,h2,h3⟩:=hs
 exact⟨vs,h1,yH h hT h2 he2 ht2,fun i v l hv hl=>⟨(h3 i v l hv hl).1.grown h hT he ht,(h3 i v l hv hl).2⟩⟩
theorem Ky.grown{base T j:Nat}{t e:TypeId}{size:Nat}{cs:Array Value}{v':Value}{m:Nat}{ys:List Value}{W W7:World}(h:ZZ base T j t e size cs v' m ys W W7)(hT:qd W T t cs){dv uv kv:SlV}{o:OpR}(hs:Ky W dv uv kv o)(he:3≠e)(ht:3≠t)(he2:55≠e)(ht2:55≠t):Ky W7 dv uv kv o:=
 ⟨hs.d.grown h hT he ht,hs.dn,hs.dz,hs.uses.grown h hT he ht he2 ht2,hs.clob.grown h hT he ht,hs.cn⟩
theorem qbU(ns:List ByteArray)(ps:List Plc)(cs:List qp)(os:List OpD)(k:Nat)(x:OpD)(hx:os[k]?=some x) :
 jj ns ps cs (os.take k) (os.drop k)=if jI ns ps cs (os.take k) x=0 then jj ns ps cs (os.take (k+1)) (os.drop (k+1)) else jI ns ps cs (os.take k) x:=by
 have hlt:k<os.length:=(vS.1 hx).1
 rw[List.drop_eq_getElem_cons hlt,vX,hx]
 have:os[k]=x:=(vS.1 hx).2
 rw[this];rfl
theorem JO(s:ByteArray):zk s<=2:=by
 unfold zk;split
 ·exact vL _
 ·split <;> omega
def qcN[Inhabited zH](w0:World)(C:Nat)(cV:SlV)(cc:SlV->CV)(ns:List ByteArray)(ps:List Plc)(cs:List qp)(os:List OpD)(e:Ending)(w':World):Prop:=
 e = .returned (.int .i64 (jf ns ps cs os))/\BX w0 w'/\(jf ns ps cs os=0->∃oV,St w0 w' C (cc oV) ns ps/\zC w0 w' cV (qr ns cs)/\XG w0 w' oV (os.map (opR ns cs)))
theorem qki:(prog.info? 155).map (fun i=>(i.zero,i.size,i.bytes))=some (some (.agg #[.slice none 0 0,.slice none 0 0,.int .i64 0,.slice none 0 0]),4,80):=by kernel_rfl
theorem St.set[Inhabited zH]{w0 W:World}{C j:Nat}{c c':CV}{ns:List ByteArray}{ps:List Plc}{v:Value}(h:St w0 W C c ns ps)(hc:c'.cells=c.cells.setIfInBounds j v)(hn:c'.names=c.names)(hp:c'.places=c.places):St w0 (W.setCell ⟨C,j,none⟩ v) C c' ns ps:=by
 refine⟨h.below.setCell (p:=⟨C,j,none⟩) h.base v,h.base,?_,?_,?_,h.few,h.same,h.ok,(Below.heap_setCell W ⟨C,j,none⟩ v _ (h.fns_ne)).trans h.fns⟩
 ·show qd _ C 108 c'.cells
  rw[hc];exact qd.set h.chk v
 ·rw[hn];exact zq h.chk h.names (by decide) j v
 ·rw[hp];exact zq h.chk h.places (by decide) j v
theorem zW.set{W:World}{b:Nat}{t:TypeId}{cs:Array Value}(hC:qd W b t cs){s:SlV}{ls:List (List Int)}(h:zW W s ls)(h1:3≠t)(h2:55≠t)(j:Nat)(v:Value):zW (W.setCell ⟨b,j,none⟩ v) s ls:=by
 obtain⟨vs,a,b',c⟩:=h
 exact⟨vs,a,zq hC b' h2 j v,fun i v' l hv hl=>⟨zq hC (c i v' l hv hl).1 h1 j v,(c i v' l hv hl).2⟩⟩
theorem zC.set{w0 W:World}{b:Nat}{t:TypeId}{cs:Array Value}(hC:qd W b t cs){s:SlV}{ls:List (List Int)}(h:zC w0 W s ls)(h1:3≠t)(h2:55≠t)(j:Nat)(v:Value):zC w0 (W.setCell ⟨b,j,none⟩ v) s ls:=by
 obtain⟨vs,a,b',c⟩:=h
 exact⟨vs,a,zq hC b' h2 j v,fun i v' l hv hl=>⟨zq hC (c i v' l hv hl).1 h1 j v,(c i v' l hv hl).2⟩⟩
theorem XG.set{w0 W:World}{b:Nat}{t:TypeId}{cs:Array Value}(hC:qd W b t cs){s:SlV}{os:List OpR}(h:XG w0 W s os)(h1:3≠t)(h2:55≠t)(h3:155≠t)(j:Nat)(v:Value):XG w0 (W.setCell ⟨b,j,none⟩ v) s os:=by
 obtain⟨vs,a,b',c⟩:=h
 exact⟨vs,a,zq hC b' h3 j v,fun i v' l hv hl=>⟨(c i v' l hv hl).1,by
  obtain⟨d,dn,dz,u,k,kn⟩:=(c i v' l hv hl).2
  exact⟨zq hC d h1 j v,dn,dz,u.set hC h1 h2 j v,zq hC k h1 j v,kn⟩⟩⟩
structure Rd[Inhabited zH](w0 w:World)(C:Nat)(c:CV)(ns:List ByteArray)(ps:List Plc)(cls:List (List Int))(os:List OpR):Prop where
 st:St w0 w C c ns ps
 cls:zC w0 w c.classes cls
 ops:XG w0 w c.ops os
theorem Rd.step[Inhabited zH]{w0 w w':World}{C:Nat}{c:CV}{ns:List ByteArray}{ps:List Plc}{cls:List (List Int)}{os:List OpR}(h:Rd w0 w C c ns ps cls os)(hb:BX w w'):Rd w0 w' C c ns ps cls os:=⟨h.st.step hb,h.cls.below hb,h.ops.below hb⟩
theorem Rd.set[Inhabited zH]{w0 W:World}{C j:Nat}{c c':CV}{ns:List ByteArray}{ps:List Plc}{cls:List (List Int)}{os:List OpR}{v:Value}(h:Rd w0 W C c ns ps cls os)(hc:c'.cells=c.cells.setIfInBounds j v)(hn:c'.names=c.names)(hp:c'.places=c.places)(hk:c'.classes=c.classes)(ho:c'.ops=c.ops):Rd w0 (W.setCell ⟨C,j,none⟩ v) C c' ns ps cls os:=
 ⟨h.st.set hc hn hp,by rw[hk];exact h.cls.set h.st.chk (by decide) (by decide) j v,by rw[ho];exact h.ops.set h.st.chk (by decide) (by decide) (by decide) j v⟩
def xi(C:Nat)(W W':World):Prop:=∀b,b<W.heap.size->b≠C->W'.heap[b]?=W.heap[b]?
theorem xi.row{C:Nat}{W W':World}{t:TypeId}{cs:Array Value}(h:xi C W W')(hC:qd W C t cs){base:Nat}{e:TypeId}{size k:Nat}{v:Value}{xs:List Value}(hr:W.ownsRow base e size v k xs)(he:e≠t):W'.ownsRow base e size v k xs:=by
 refine⟨hr.1,?_⟩
 rcases hr.2 with h3|⟨g,cap,cur,e1,e2,e3,e4⟩
 ·exact .inl h3
 ·refine .inr ⟨g,cap,cur,e1,e2,(h g (qD e3) (fun eg=>?_)).trans e3,e4⟩
  subst eg
  have:=(show W.heap[g]?=_ from e3).symm.trans (show W.heap[g]?=_ from hC)
  cases this;exact he rfl
theorem xi.lists{C:Nat}{W W':World}{t:TypeId}{cs:Array Value}(h:xi C W W')(hC:qd W C t cs){s:SlV}{ls:List (List Int)}(hl:zW W s ls)(h1:3≠t)(h2:55≠t):zW W' s ls:=by
 obtain⟨vs,a,b',c⟩:=hl
 exact⟨vs,a,h.row hC b' h2,fun i v' l hv hl=>⟨h.row hC (c i v' l hv hl).1 h1,(c i v' l hv hl).2⟩⟩
theorem Rd.kept[Inhabited zH]{w0 W W':World}{C:Nat}{c c':CV}{ns:List ByteArray}{ps:List Plc}{cls:List (List Int)}{os:List OpR}(h:Rd w0 W C c ns ps cls os)(hk:xi C W W')(hB:BX w0 W')(hC:jq W' C c')(hn:c'.names=c.names)(hp:c'.places=c.places)(hkl:c'.classes=c.classes)(ho:c'.ops=c.ops):Rd w0 W' C c' ns ps cls os:=by
 refine⟨⟨hB,h.st.base,hC,by rw[hn];exact hk.row h.st.chk h.st.names (by decide),by rw[hp];exact hk.row h.st.chk h.st.places (by decide),h.st.few,h.st.same,h.st.ok,(hk _ h.st.fns.lt h.st.fns_ne).trans h.st.fns⟩,?_,?_⟩
 ·rw[hkl]
  obtain⟨vs,a,b',c⟩:=h.cls
  exact⟨vs,a,hk.row h.st.chk b' (by decide),fun i v' l hv hl=>⟨hk.row h.st.chk (c i v' l hv hl).1 (by decide),(c i v' l hv hl).2⟩⟩
 ·rw[ho]
  obtain⟨vs,a,b',c⟩:=h.ops
  refine⟨vs,a,hk.row h.st.chk b' (by decide),fun i v' l hv hl=>⟨(c i v' l hv hl).1,?_⟩⟩
  obtain⟨d,dn,dz,u,k,kn⟩:=(c i v' l hv hl).2
  exact⟨hk.row h.st.chk d (by decide),dn,dz,hk.lists h.st.chk u (by decide) (by decide),hk.row h.st.chk k (by decide),kn⟩
theorem xi.below{C:Nat}{W W1 W2:World}(h:xi C W W1)(hs:W.heap.size<=W1.heap.size)(hb:BX W1 W2):xi C W W2:=fun b hlt hne=>(hb.block b (vW hlt hs)).trans (h b hlt hne)
theorem xi.set{C j:Nat}{v:Value}{W W1:World}(h:xi C W W1):xi C W (W1.setCell ⟨C,j,none⟩ v):=fun b hlt hne=>(Below.heap_setCell W1 ⟨C,j,none⟩ v b hne).trans (h b hlt hne)
theorem xi.grown{C:Nat}{W W1 W2:World}{row:Option Nat}(h:xi C W W1)(hs:W.heap.size<=W1.heap.size)(hg:W1.grownBy W2 row)(hr:∀b,row=some b->W.heap.size<=b):xi C W W2:=fun b hlt hne=>
 (hg.block b (vW hlt hs) (fun e=>by have:=hr b e.symm;omega)).trans (h b hlt hne)
theorem Yw{ops:Array Oper}{rest:List Oper}{o:Oper}{a:Act}{Q:Exit->Act->World->Prop}{w:World}(s x:Operand)(t:TypeId)
 (ho:o.op = .call { callee:=.builtin .append,args:=#[s,x],argTypes:=#[t,t] }) (hw:Region.wanted o (yielded ops a.tmps)=true)
 (base:Nat) (e:TypeId) (i:TypeInfo) (z:Value) (size bytes:Nat) (ht:prog.underlying t=some (.slice e)) (hi:prog.info? e=some i) (hz:i.zero=some z)
 (hsize:i.size=size) (hby:i.bytes=bytes) (hzs:z.cells.size=size) (hsz:0<size)
 (v:Value) (n:Nat) (xs:List Value) (hs:a.eval s=v) (hown:w.ownsRow base e size v n xs)
 (ad:Addr) (m c:Nat) (news:List Value) (hx:a.eval x = .slice (some ad) m c) (hl:news.length=m*size) (hnews:∀j u,news[j]?=some u->w.cell? (ad.add j)=some u) (h1:∀u∈news,u.oneCell'=true)
 (hm:0<m) (h63:n+m<=maxLen) (hbytes:(n+m)*bytes<=140737488355328) (hbase:base<=w.heap.size)
 (h:∀g cap w',w'.ownsRow base e size (.slice (some ⟨g,0,none⟩) (n+m) cap) (n+m) (xs++news)->w.grownBy w' v.ownBlock->(v.ownBlock=some g∨g=w.heap.size)->wpList prog ops Q rest (a.put o.dst (.slice (some ⟨g,0,none⟩) (n+m) cap)) w') :
 wpList prog ops Q (o::rest) a w:=
 wpList_step fun K hK=>by
  rw[if_pos hw]
  exact wp_append_lies w s x t ho base e i z size bytes ht hi hz hsize hby hzs hsz v n xs hs hown ad m c news hx hl hnews h1 hm h63 hbytes hbase _ rfl fun g cap w' h2 h3 h4 _=>hK _ _ (h g cap w' h2 h3 h4)
def qbh[Inhabited zH](w0:World)(C:Nat)(cc:SlV->Int->CV)(ns:List ByteArray)(ps:List Plc)(cls:List (List Int))(os:List OpR)(args:List ByteArray)(result:ByteArray)(fine:Bool)(e:Ending)(w':World):Prop:=
 (fine=false/\e = .returned (.int .i64 10)/\BX w0 w')∨(fine=true/\e = .returned (.int .i64 0)/\∃aV,Rd w0 w' C (cc aV (qv ns result)) ns ps cls os/\w'.ownsRow w0.heap.size 3 1 aV.v (qh ns args).length ((qh ns args).map (Value.int .i64))/\args.length<=16/\(qh ns args).contains (-1)=false/\0<=qv ns result /\
   ∃W1 aV0 r0,Rd w0 W1 C (cc aV0 r0) ns ps cls os/\xi C W1 w'/\W1.heap.size<=w'.heap.size/\∀b,aV.v.ownBlock=some b->W1.heap.size<=b)
theorem Ju[Inhabited zH](C:Nat)(mn rs:ByteArray)(rg kl op ar sv:SlV)(sl:Int)(nV pV cV oV aV0:SlV)(r0:Int)(ns:List ByteArray)(ps:List Plc)(cls:List (List Int))(os:List OpR)(args saved:List ByteArray)(w0 w:World)
 (hR:Rd w0 w C ⟨⟨mn,rg,kl,op,ar,rs,sv,sl⟩,nV,pV,cV,oV,aV0,r0⟩ ns ps cls os) (ha:qG w0 ar args) (hs:qG w0 sv saved) :
 Calls prog 63 #[.pointer (some ⟨C,0,none⟩)] w (qbh w0 C (fun aV r=>⟨⟨mn,rg,kl,op,ar,rs,sv,sl⟩,nV,pV,cV,oV,aV,r⟩) ns ps cls os args rs (qL ns ps args rs saved sl)):=by
 have hB:=hR.st.below
 have hlt:=hR.st.chk.lt
 have c4:=hR.st.chk.cell (j:=4) (v:=.slice ar.a ar.n ar.c) rfl
 have K1:=Zj C _ ns ar args 16 w (by decide) (by decide) hR.st.chk hR.st.namesAt (ha.below hB)
 have K2:∀W,BX w W->Calls prog 110 #[.pointer (some ⟨C,0,none⟩),.slice sv.a sv.n sv.c,.int .i64 64] W (Yl ns saved 64 W):=fun W hb=>Zj C _ ns sv saved 64 W (by decide) (by decide) (hR.step hb).st.chk (hR.step hb).st.namesAt (hs.below (hR.step hb).st.below)
 have K3:∀W,BX w W->Calls prog 109 #[.pointer (some ⟨C,0,none⟩),.string rs] W fun e w'=>e = .returned (.int .i64 (qv ns rs))/\BX W w':=fun W hb=>qac C _ ns rs W (hR.step hb).st.chk (hR.step hb).st.namesAt
 have hR':=vH hR
 clear hR ha hs
 go_enter func63,ntmps63
 go_wp2_with (first
  |(go_at_call 110;refine K1.mono ?_;clear K1;rintro e W1 ⟨a1,rfl,hb1,hI1⟩;have hR1:=hR'.out.step hb1;have c6:=hR1.st.chk.cell (j:=6) (v:=.slice sv.a sv.n sv.c) rfl)
  |(go_at_call 110;refine(K2 _ hb1).mono ?_;clear K2;rintro e W2 ⟨s2,rfl,hb2,hI2⟩;have hR2:=hR1.step hb2;have c5:=hR2.st.chk.cell (j:=5) (v:=.string rs) rfl;have hb2':=hb1.trans (hb2.mono hb1.size)))
 go_at_call 109
 refine(K3 _ hb2').mono ?_
 rintro e W3 ⟨rfl,hb3⟩
 have hR3:=hR2.step hb3
 have c12:=hR3.st.chk.cell (j:=12) (v:=.slice aV0.a aV0.n aV0.c) rfl
 have c13:=hR3.st.chk.cell (j:=13) (v:=.int .i64 r0) rfl
 have f12:=hR3.st.chk.frozen 12
 have f13:=hR3.st.chk.frozen 13
 have hR4:=hR3.set (j:=12) (v:=.slice a1.a a1.n a1.c) (c':=⟨⟨mn,rg,kl,op,ar,rs,sv,sl⟩,nV,pV,cV,oV,a1,r0⟩) rfl rfl rfl rfl rfl
 have hR5:=hR4.set (j:=13) (v:=.int .i64 (qv ns rs)) (c':=⟨⟨mn,rg,kl,op,ar,rs,sv,sl⟩,nV,pV,cV,oV,a1,qv ns rs⟩) rfl rfl rfl rfl rfl
 have hset:∀ (s:SlV) (l:List Int),qN W3 s l->qN ((W3.setCell ⟨C,12,none⟩ (.slice a1.a a1.n a1.c)).setCell ⟨C,13,none⟩ (.int .i64 (qv ns rs))) s l:=fun s l h=>zq hR4.st.chk (zq hR3.st.chk h (by decide) 12 _) (by decide) 13 _
 have hA:args.length<=16->qN ((W3.setCell ⟨C,12,none⟩ (.slice a1.a a1.n a1.c)).setCell ⟨C,13,none⟩ (.int .i64 (qv ns rs))) a1 (qh ns args):=fun h=>by
  have h1:=hI1 (by omega)
  rw[show args.length=(qh ns args).length by simp[qh]] at h1
  exact hset _ _ (((show qN W1 a1 _ from qm h1 (vO _)).below hb2).below hb3)
 have hSv:saved.length<=64->((W3.setCell ⟨C,12,none⟩ (.slice a1.a a1.n a1.c)).setCell ⟨C,13,none⟩ (.int .i64 (qv ns rs))).ownsRow w0.heap.size 3 1 s2.v (qh ns saved).length ((qh ns saved).map (Value.int .i64)):=fun h=>by
  have h1:=hI2 (by omega)
  rw[show saved.length=(qh ns saved).length by simp[qh]] at h1
  have h2:=qm h1 hR1.st.below.size
  exact zq hR4.st.chk (zq hR3.st.chk (qe h2 hb3) (by decide) 12 _) (by decide) 13 _
 have hR1':=vH hR1
 have hA1:args.length<=16->W1.ownsRow w.heap.size 3 1 a1.v (qh ns args).length ((qh ns args).map (Value.int .i64)):=fun h=>by
  have h1:=hI1 (by omega)
  rw[show args.length=(qh ns args).length by simp[qh]] at h1
  exact h1
 have hW1:w0.heap.size<=w.heap.size:=hR'.out.st.below.size
 have hB1:=vH hb1
 have hs2b:saved.length<=64->∀b,s2.v.ownBlock=some b->W1.heap.size<=b:=fun h b hb=>(qf (hI2 (by omega)) hb).1
 have hk5:xi C W1 ((W3.setCell ⟨C,12,none⟩ (.slice a1.a a1.n a1.c)).setCell ⟨C,13,none⟩ (.int .i64 (qv ns rs))):=by
  have h0:xi C W1 W1:=fun _ _ _=>rfl
  exact((((h0.below (vL _) hb2).below hb2.size hb3)).set).set
 have hz5:W1.heap.size<=((W3.setCell ⟨C,12,none⟩ (.slice a1.a a1.n a1.c)).setCell ⟨C,13,none⟩ (.int .i64 (qv ns rs))).heap.size:=by
  have h1:=hb2.size
  have h2:=hb3.size
  simp;omega
 replace hA1:=vH hA1
 replace hs2b:=vH hs2b
 replace hk5:=vH hk5
 replace hz5:=vH hz5
 replace hR5:=vH hR5
 replace hA:=vH hA
 replace hSv:=vH hSv
 clear hI1 hI2 hset hR4 hR3 hR2 hR1 c4 c5 c6 K3 hb1 hb2 hb3 hb2' hB
 have hno:qL ns ps args rs saved sl=false->∀W,BX w0 W->qbh w0 C (fun aV r=>⟨⟨mn,rg,kl,op,ar,rs,sv,sl⟩,nV,pV,cV,oV,aV,r⟩) ns ps cls os args rs (qL ns ps args rs saved sl) (.returned (.int .i64 10)) W:=fun h W hb=>.inl ⟨h,rfl,hb⟩
 replace hno:=vH hno
 have hconv:Hid (qL ns ps args rs saved sl=((zx ns args 16&&zx ns saved 64&&decide (0<=qv ns rs)&&decide (0<=sl)&&decide (sl<=1000))&&(zS ps (qh ns args)&&zS ps (qh ns saved++[qv ns rs])))):=vH rfl
 have hBw:=hR5.out.st.below
 cases h1:zx ns args 16 with
 |false=>
  have hf:Hid (qL ns ps args rs saved sl=false):=vH (by rw[hconv.out,h1];rfl)
  clear h1
  go_wp2_with fail
  go_ret
  exact hno.out hf.out _ hBw
 |true=>
  cases h2:zx ns saved 64 with
  |false=>
   have hf:Hid (qL ns ps args rs saved sl=false):=vH (by rw[hconv.out,h1,h2];rfl)
   clear h1 h2
   go_wp2_with fail
   go_ret
   exact hno.out hf.out _ hBw
  |true=>
   have ho1:args.length<=16/\(qh ns args).contains (-1)=false:=by unfold zx at h1;simpa using h1
   have ho2:saved.length<=64/\(qh ns saved).contains (-1)=false:=by unfold zx at h2;simpa using h2
   have hc2:Hid (qL ns ps args rs saved sl=((decide (0<=qv ns rs)&&decide (0<=sl)&&decide (sl<=1000))&&(zS ps (qh ns args)&&zS ps (qh ns saved++[qv ns rs])))):=vH (by rw[hconv.out,h1,h2];simp)
   clear h1 h2 hconv
   by_cases h3:qv ns rs<0
   ·have hf:Hid (qL ns ps args rs saved sl=false):=vH (by rw[hc2.out,vF (by omega:¬ 0<=qv ns rs)];rfl)
    clear ho1 ho2
    go_wp2_with fail
    go_ret
    exact hno.out hf.out _ hBw
   by_cases h4:sl<0
   ·have hf:Hid (qL ns ps args rs saved sl=false):=vH (by rw[hc2.out,vF (by omega:¬ 0<=sl)];simp)
    clear ho1 ho2
    have c7:=hR5.out.st.chk.cell (j:=7) (v:=.int .i64 sl) rfl
    go_wp2_with fail
    go_ret
    exact hno.out hf.out _ hBw
   by_cases h5:1000<sl
   ·have hf:Hid (qL ns ps args rs saved sl=false):=vH (by rw[hc2.out,vF (by omega:¬ sl<=1000)];simp)
    clear ho1 ho2
    have c7:=hR5.out.st.chk.cell (j:=7) (v:=.int .i64 sl) rfl
    go_wp2_with fail
    go_ret
    exact hno.out hf.out _ hBw
   have hc3:Hid (qL ns ps args rs saved sl=(zS ps (qh ns args)&&zS ps (qh ns saved++[qv ns rs]))):=vH (by
    rw[hc2.out,vT (by omega:0<=qv ns rs),vT (by omega:0<=sl),vT (by omega:sl<=1000)];simp)
   clear hc2
   have c7:=hR5.out.st.chk.cell (j:=7) (v:=.int .i64 sl) rfl
   have c13':=hR5.out.st.chk.cell (j:=13) (v:=.int .i64 (qv ns rs)) rfl
   have hA':=hA.out ho1.1
   have hS':=hSv.out ho2.1
   have hsl:(qh ns saved).length<=64:=by have:=ho2.1;simp[qh];omega
   go_wp2_with fail
   generalize((W3.setCell ⟨C,12,none⟩ (.slice a1.a a1.n a1.c)).setCell ⟨C,13,none⟩ (.int .i64 (qv ns rs)))=W5 at hR5 hA hSv hA' hS' hBw c7 c13' hk5 hz5 ⊢
   have hRd:=hR5.out
   have Kp:=Yr C _ ps a1 (qh ns args) W5 hRd.st.chk hRd.st.placesAt hA'.at_ (by have:=hA'.len;have:=ho1.1;simp[qh] at *;omega) (Qu hRd.st.same ho1.2)
   go_at_call 117
   refine Kp.mono ?_
   clear Kp
   rintro e W6 ⟨rfl,hb6⟩
   cases hq:zS ps (qh ns args) with
   |false=>
    have hf:Hid (qL ns ps args rs saved sl=false):=vH (by rw[hc3.out,hq];rfl)
    clear hq ho1 ho2 hRd
    go_wp2_with fail
    go_ret
    exact hno.out hf.out _ (hBw.trans (hb6.mono hBw.size))
   |true=>
    have hc4:Hid (qL ns ps args rs saved sl=zS ps (qh ns saved++[qv ns rs])):=vH (by rw[hc3.out,hq];rfl)
    have hR6:=hRd.step hb6
    have hS6:=qe hS' hb6
    have c13'':=hR6.st.chk.cell (j:=13) (v:=.int .i64 (qv ns rs)) rfl
    have hk6:=hk5.out.below hz5.out hb6
    have hz6:W1.heap.size<=W6.heap.size:=vR hz5.out hb6.size
    have hb06:=hR6.st.below.size
    have hKp2:∀W8 g cap,W8.ownsRow w0.heap.size 3 1 (.slice (some ⟨g,0,none⟩) ((qh ns saved).length+1) cap) ((qh ns saved).length+1) ((qh ns saved).map (Value.int .i64)++[.int .i64 (qv ns rs)])->(W6.alloc (.cells #[.int .i64 (qv ns rs)] 3)).grownBy W8 s2.v.ownBlock ->
     Rd w0 W8 C ⟨⟨mn,rg,kl,op,ar,rs,sv,sl⟩,nV,pV,cV,oV,a1,qv ns rs⟩ ns ps cls os/\(W8.ownsRow w0.heap.size 3 1 a1.v (qh ns args).length ((qh ns args).map (Value.int .i64))/\xi C W1 W8/\W1.heap.size<=W8.heap.size) /\
     Calls prog 117 #[.pointer (some ⟨C,0,none⟩),.slice (some ⟨g,0,none⟩) ((qh ns saved).length+1) cap] W8 fun e w'=>e = .returned (.bool (zS ps (qh ns saved++[qv ns rs])))/\BX W8 w':=fun W8 g cap hown hg=>by
     have hal:BX W6 (W6.alloc (.cells #[.int .i64 (qv ns rs)] 3)):=qi
     have hk7:=hk6.below hz6 hal
     have hk8:=hk7.grown (vR hz6 hal.size) hg (hs2b.out ho2.1)
     have hchk:jq W8 C ⟨⟨mn,rg,kl,op,ar,rs,sv,sl⟩,nV,pV,cV,oV,a1,qv ns rs⟩:=((show qd W6 C _ _ from hR6.st.chk).alloc _).kept_row (hS6.alloc _) hg (by decide)
     have hB8:BX w0 W8:=(hR6.st.below.alloc hb06 _).grown hg (by simp;omega) (fun i e=>(qf hS6 e).1)
     have hRd8:=hR1'.out.kept hk8 hB8 hchk rfl rfl rfl rfl
     have hA8:=hk8.row hR1'.out.st.chk (qm (hA1.out ho1.1) hW1) (by decide)
     refine⟨hRd8,⟨hA8,hk8,vR (vR hz6 hal.size) hg.size⟩,?_⟩
     have hown':W8.ownsRow w0.heap.size 3 1 (SlV.v ⟨some ⟨g,0,none⟩,(qh ns saved).length+1,cap⟩) (qh ns saved++[qv ns rs]).length ((qh ns saved++[qv ns rs]).map (Value.int .i64)):=by
      rw[kA,kM];exact hown
     exact Yr C _ ps ⟨some ⟨g,0,none⟩,(qh ns saved).length+1,cap⟩ _ W8 hRd8.st.chk hRd8.st.placesAt (qJ.of_row hown' rfl) (by show _+1<_;omega) (fun x hx=>by
      rcases vC.1 hx with hx|hx
      ·exact Qu hRd8.st.same ho2.2 x hx
      ·obtain rfl:x=qv ns rs:=by simpa using hx
       have:=zO ns rs
       have:=hRd8.st.same
       exact⟨by omega,by omega⟩)
    replace hKp2:=vH hKp2
    obtain⟨j0,hj0,hj1,hj2,hj3⟩:=info_parts ji
    have hfin:∀W8 W9,Rd w0 W8 C ⟨⟨mn,rg,kl,op,ar,rs,sv,sl⟩,nV,pV,cV,oV,a1,qv ns rs⟩ ns ps cls os->(W8.ownsRow w0.heap.size 3 1 a1.v (qh ns args).length ((qh ns args).map (Value.int .i64))/\xi C W1 W8/\W1.heap.size<=W8.heap.size)->BX W8 W9->zS ps (qh ns saved++[qv ns rs])=true->qbh w0 C (fun aV r=>⟨⟨mn,rg,kl,op,ar,rs,sv,sl⟩,nV,pV,cV,oV,aV,r⟩) ns ps cls os args rs (qL ns ps args rs saved sl) (.returned (.int .i64 0)) W9:=fun W8 W9 h1 h2 h3 h4=>
     .inr ⟨by rw[hc4.out,h4],rfl,a1,h1.step h3,qe h2.1 h3,ho1.1,ho1.2,by omega,w,aV0,r0,hR'.out,fun b hb hne=>((h2.2.1.below h2.2.2 h3) b (vW hb hB1.out.size) hne).trans (hB1.out.block b hb),
      vR hB1.out.size (vR h2.2.2 h3.size),fun b hb=>(qf (hA1.out ho1.1) hb).1⟩
    replace hfin:=vH hfin
    have ho1':=vH ho1
    have ho2':=vH ho2
    generalize hsvl:(qh ns saved).length=svn at *
    replace hsvl:=vH hsvl
    clear hq ho1 ho2 hRd hR6 hk6 hA' hS'
    go_wp2_with (first
     |(at_builtin;go_loud (refine Yw _ _ 55 rfl (by rfl) w0.heap.size 3 j0 _ 1 8 underlying55 hj0 hj1 hj2 hj3 rfl (by decide) s2.v svn ((qh ns saved).map (Value.int .i64)) rfl (hS6.alloc _) ⟨W6.heap.size,0,none⟩ 1 1 [.int .i64 (qv ns rs)] rfl rfl (zo _ _ _ _ rfl) (by simp[Value.oneCell']) (by decide) (by unfold maxLen;omega) (by omega) (by simp;omega) ?_;intro g cap W8 hown hgrow _;obtain⟨hR8,hA8,Kp2⟩:=hKp2.out W8 g cap hown hgrow;replace hR8:=vH hR8))
     | fail)
    go_at_call 117
    refine Kp2.mono ?_
    clear Kp2
    rintro e W9 ⟨rfl,hb9⟩
    cases hq2:zS ps (qh ns saved++[qv ns rs]) with
    |false=>
     have hf:Hid (qL ns ps args rs saved sl=false):=vH (by rw[hc4.out,hq2])
     clear hq2
     go_wp2_with fail
     go_ret
     exact hno.out hf.out _ (hR8.out.st.below.trans (hb9.mono hR8.out.st.below.size))
    |true=>
     have hq3:=vH hq2
     clear hq2
     go_wp2_with fail
     go_ret
     exact hfin.out _ _ hR8.out hA8 hb9 hq3.out
def KZ(x:Int)(l:List Int):Bool:=l.contains x
theorem qll(bx:Nat)(s:SlV)(l:List Int)(x:Int)(w:World)(hx:w.cell? ⟨bx,0,none⟩=some (.int .i64 x))(hl:qJ w s l)(hbig:s.n<4611686018427387904) :
 Calls prog 119 #[.slice s.a s.n s.c,.pointer (some ⟨bx,0,none⟩)] w fun e w'=>e = .returned (.bool (KZ x l))/\w=w':=by
 have K:=QO s l x w hl hbig
 rw[show l.contains x=KZ x l from rfl] at K
 generalize KZ x l=q at K ⊢
 clear hl
 go_enter func119,ntmps119
 go_wp2_with (go_at_call 120;refine K.mono ?_;clear K;rintro e W1 ⟨rfl,rfl⟩)
 go_ret
 exact⟨rfl,rfl⟩
theorem qiM(bx:Nat)(s:SlV)(ls:List (List Int))(x:Int)(w:World)(hx:w.cell? ⟨bx,0,none⟩=some (.int .i64 x))(hl:zW w s ls)(hbig:ls.length<=1000) :
 Calls prog 157 #[.slice s.a s.n s.c,.func (.func 119) #[] #[.pointer (some ⟨bx,0,none⟩)]] w fun e w'=>e = .returned (.int .i64 (zM (KZ x) ls))/\w=w':=by
 have hlen:=hl.len
 have hget:=fun(i:Nat) (l:List Int) (h:ls[i]?=some l)=>hl.get h
 obtain⟨a,n,c⟩:=s
 dsimp only at hlen hget ⊢
 subst hlen
 replace hget:=vH hget
 clear hl
 go_enter func157,ntmps157
 go_wp2
 go_loop [8] (fun i=>∃k:Nat,k<=ls.length/\i = .int .i64 k/\zU (KZ x) ls k) (fun i=>ls.length-(intOf i).toNat)
 case atStart=>exact⟨0,vO _,rfl,zU.zero _ _⟩
 case round=>
  obtain⟨k,hk,rfl,hY⟩:=hrel
  replace hY:=vH hY
  have k0:(0:Int)<=k:=vN _
  by_cases hlt:k<ls.length
  ·obtain⟨l,hl⟩:∃l,ls[k]?=some l:=⟨ls[k],by rw[vE hlt]⟩
   obtain⟨b,o,v,rfl,hc,hI,hI2,_,_⟩:=hget.out k l hl
   have hi:IntKind.i64.wrap ((k:Int)+1)=k+1:=vI _ (by omega)
   have k1:(k:Int)<ls.length:=by omega
   have C:=qll bx v l x w hx hI.at_ (by have:=hI.len;omega)
   replace hl:=vH hl
   clear hI hx
   by_cases hp:KZ x l=true
   ·rw[hp] at C
    replace hp:=vH hp
    go_wp2_with (go_at_call 119;refine C.mono ?_;clear C;rintro e W1 ⟨rfl,rfl⟩)
    go_ret
    exact⟨qI (hY.out.hit hl.out hp.out).symm,rfl⟩
   ·have hp':KZ x l=false:=by simpa using hp
    rw[hp'] at C
    replace hp':=vH hp'
    clear hp
    go_wp2_with (go_at_call 119;refine C.mono ?_;clear C;rintro e W1 ⟨rfl,rfl⟩)
    go_round
    case rel=>exact⟨k+1,by omega,by go_num,hY.out.succ hl.out hp'.out⟩
    case measure=>simp[intOf];omega
  ·clear hx
   go_wp2_with fail
   go_ret
   exact⟨qI (hY.out.miss (by omega)).symm,rfl⟩
theorem qbs(bx:Nat)(s:SlV)(ls:List (List Int))(x:Int)(w:World)(hx:w.cell? ⟨bx,0,none⟩=some (.int .i64 x))(hl:zW w s ls)(hbig:ls.length<=1000) :
 Calls prog 118 #[.slice s.a s.n s.c,.func (.func 119) #[] #[.pointer (some ⟨bx,0,none⟩)]] w fun e w'=>e = .returned (.bool (ls.any (KZ x)))/\w=w':=by
 have C:=qiM bx s ls x w hx hl hbig
 have hz:=vH (qdL (KZ x) ls)
 generalize zM (KZ x) ls=z at C hz
 clear hl hx
 go_enter func118,ntmps118
 go_wp2_with (go_at_call 157;refine C.mono ?_;clear C;rintro e W1 ⟨rfl,rfl⟩)
 go_ret
 exact⟨qq (by rw[←hz.out]),rfl⟩
def qhn[Inhabited zH](w0:World)(C:Nat)(c:CV)(ns:List ByteArray)(ps:List Plc)(cls:List (List Int))(os:List OpR)(l:List Int)(e:Ending)(w':World):Prop:=
 e = .returned (.int .i64 (if qX cls l=true then 0 else 10))/\Rd w0 w' C c ns ps cls os
theorem qiN(cls:List (List Int))(l:List Int)(k:Nat)(x:Int)(hx:l[k]?=some x):qX cls (l.drop k)=(cls.any (KZ x)&&qX cls (l.drop (k+1))):=by
 have hlt:k<l.length:=(vS.1 hx).1
 rw[List.drop_eq_getElem_cons hlt]
 have:l[k]=x:=(vS.1 hx).2
 rw[this];rfl
theorem qaG[Inhabited zH](C:Nat)(m:MV)(nV pV cV oV aV aV0:SlV)(r r0:Int)(ns:List ByteArray)(ps:List Plc)(cls:List (List Int))(os:List OpR)(al:List Int)(w0 w W1:World)
 (hR:Rd w0 w C ⟨m,nV,pV,cV,oV,aV,r⟩ ns ps cls os) (hA:w.ownsRow w0.heap.size 3 1 aV.v al.length (al.map (Value.int .i64))) (hal:al.length<=16) (hcl:cls.length<=64)
 (hR1:Rd w0 W1 C ⟨m,nV,pV,cV,oV,aV0,r0⟩ ns ps cls os) (hk:xi C W1 w) (hz:W1.heap.size<=w.heap.size) (hab:∀b,aV.v.ownBlock=some b->W1.heap.size<=b) :
 Calls prog 64 #[.pointer (some ⟨C,0,none⟩)] w (qhn w0 C ⟨m,nV,pV,cV,oV,aV,r⟩ ns ps cls os (al++[r])):=by
 have c12:=hR.st.chk.cell (j:=12) (v:=.slice aV.a aV.n aV.c) rfl
 have c13:=hR.st.chk.cell (j:=13) (v:=.int .i64 r) rfl
 have hbs:=hR.st.below.size
 have hnC:=World.new_ne w _ c12
 have hCl:=hR.st.chk.lt
 have hKp:∀W8 g cap,W8.ownsRow w0.heap.size 3 1 (.slice (some ⟨g,0,none⟩) (al.length+1) cap) (al.length+1) (al.map (Value.int .i64)++[.int .i64 r])->((w.alloc (.cells #[.int .i64 r] 3)).drew).grownBy W8 aV.v.ownBlock ->
  Rd w0 W8 C ⟨m,nV,pV,cV,oV,aV,r⟩ ns ps cls os/\qN W8 ⟨some ⟨g,0,none⟩,al.length+1,cap⟩ (al++[r]):=fun W8 g cap hown hg=>by
  have hall:BX w ((w.alloc (.cells #[.int .i64 r] 3)).drew):=qi.drew
  have hk8:=(hk.below hz hall).grown (vR hz hall.size) hg hab
  have hchk:jq W8 C ⟨m,nV,pV,cV,oV,aV,r⟩:=(((show qd w C _ _ from hR.st.chk).alloc (.cells #[.int .i64 r] 3)).drew).kept_row ((hA.alloc _).drew) hg (by decide)
  have hB8:BX w0 W8:=((hR.st.below.alloc hbs _).drew).grown hg (by simp;omega) (fun i e=>(qf hA e).1)
  refine⟨hR1.kept hk8 hB8 hchk rfl rfl rfl rfl,?_⟩
  have:W8.ownsRow w0.heap.size 3 1 (SlV.v ⟨some ⟨g,0,none⟩,al.length+1,cap⟩) (al++[r]).length ((al++[r]).map (Value.int .i64)):=by
   rw[kA,kM];exact hown
  exact qm this (vO _)
 replace hKp:=vH hKp
 obtain⟨j0,hj0,hj1,hj2,hj3⟩:=info_parts ji
 clear hR hR1 hk hab
 go_enter func64,ntmps64
 go_wp2_with fail
 go_region_law (refine step_append_lies _ (by rfl) _ _ _ (by rfl) w0.heap.size 3 j0 _ 1 8 underlying55 hj0 hj1 hj2 hj3 rfl (by omega) (.slice aV.a aV.n aV.c) al.length (al.map (Value.int .i64)) (by rfl) ((hA.alloc _).drew) ⟨w.heap.size,0,none⟩ 1 1 [.int .i64 r] (by rfl) (by rfl) (World.news_of_block (cs:=#[.int .i64 r]) (t:=3) (fr:=(0,0)) (heap_alloc_new w _)) (by simp[Value.oneCell']) (by omega) (by unfold maxLen;omega) (by omega) (by simp;omega) (w.heap.size+1) (by simp) ?_;intro g cap W8 hown1 hgrow hat hlt6)
 all_goals
  obtain⟨hR8,hI8⟩:=hKp.out W8 g cap hown1 hgrow
  clear hown1 hgrow hat hlt6 c12 c13 hnC hA hKp
  have hlen:Hid ((al++[r]).length=al.length+1):=vH (by simp)
  generalize hle:al++[r]=l at hI8 hlen ⊢
  replace hle:=vH hle
  replace hR8:=vH hR8
  have hI8':=vH hI8
  clear hI8
  have hln:(0:Int)<=((al.length+1:Nat):Int):=vN _
  go_wp2_with fail
  simp only[Act.put,List.getElem_toArray,List.getElem_cons_succ,List.getElem_cons_zero,vK,kZ,kS]
  go_loopw [16] (fun i wr=>∃k:Nat,k<=al.length+1/\i = .int .i64 k/\Rd w0 wr C ⟨m,nV,pV,cV,oV,aV,r⟩ ns ps cls os/\qN wr ⟨some ⟨g,0,none⟩,al.length+1,cap⟩ l/\Hid (qX cls l=qX cls (l.drop k))) (fun i _=>al.length+1-(intOf i).toNat)
  case atStart=>exact⟨0,vO _,rfl,hR8.out,hI8'.out,vH (by simp)⟩
  case round=>
   clear hR8 hI8'
   obtain⟨k,hk,rfl,hR,hI,hT⟩:=hrel
   have k0:(0:Int)<=k:=vN _
   by_cases hlt:k<al.length+1
   ·have hkl:k<l.length:=by have:=hlen.out;omega
    obtain⟨x,hx⟩:∃x,l[k]?=some x:=⟨l[k],vE hkl⟩
    obtain⟨b,o,hbo,hcx⟩:=hI.at_.2.2 k x hx
    cases hbo
    rw[Nat.zero_add] at hcx
    have k1:(k:Int)<((al.length+1:Nat):Int):=by omega
    have hi:IntKind.i64.wrap ((k:Int)+1)=k+1:=vI _ (by omega)
    have c10:=hR.st.chk.cell (j:=10) (v:=.slice cV.a cV.n cV.c) rfl
    have hCw:=hR.st.chk.lt
    have hnC:=World.new_ne wr _ c10
    have hbl:BX wr (wr.alloc (.cells #[.int .i64 x] 3)):=qi
    have K:=qbs wr.heap.size cV cls x (wr.alloc (.cells #[.int .i64 x] 3)) (zr wr #[.int .i64 x] 3 (j:=0) rfl) (hR.step hbl).cls.lists (by omega)
    have hT2:=vH (hT.out.trans (qiN cls l k x hx))
    have hR':=vH (hR.step hbl)
    have hI':=vH (hI.below hbl)
    clear hR hI hT hx
    cases hq:cls.any (KZ x) with
    |false=>
     have hf:Hid (qX cls l=false):=vH (by rw[hT2.out,hq];rfl)
     rw[hq] at K
     clear hq
     go_wp2_with (go_at_call 118;refine K.mono ?_;clear K;rintro e W9 ⟨rfl,rfl⟩)
     go_ret
     exact⟨qI (by rw[hle.out,hf.out];rfl),hR'.out⟩
    |true=>
     have hf:Hid (qX cls l=qX cls (l.drop (k+1))):=vH (by rw[hT2.out,hq,Bool.true_and])
     rw[hq] at K
     clear hq
     go_wp2_with (go_at_call 118;refine K.mono ?_;clear K;rintro e W9 ⟨rfl,rfl⟩)
     exact⟨⟨k+1,by omega,by go_num,hR'.out,hI'.out,hf⟩,by simp[intOf];omega⟩
   ·have hf:Hid (qX cls l=true):=vH (by rw[hT.out,List.drop_eq_nil_of_le (by have:=hlen.out;omega)];rfl)
    have hR':=vH hR
    clear hT hR hI
    go_wp2_with fail
    go_ret
    exact⟨qI (by rw[hle.out,hf.out];rfl),hR'.out⟩
end Go.Proofs.YtomlgdnafeeeiaaGreatDoor
