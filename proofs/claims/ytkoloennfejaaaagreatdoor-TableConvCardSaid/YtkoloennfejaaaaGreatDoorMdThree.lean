/-
  What stands while a machine is checked: the block of 'checked', its names and places, in arrays of their own; what a step keeps of it. And what follows: see the heads within.
-/
import Derived.Test.YtkoloennfejaaaaGreatDoorMdOne
import Derived.Test.YtkoloennfejaaaaGreatDoorGeoTwo
set_option maxHeartbeats 8000000
set_option maxRecDepth 100000
namespace Go.Proofs.YtkoloennfejaaaaGreatDoor
open Go.RowKit
structure Ghost where
 b:Nat
 cs:Array Value
structure St[Inhabited Ghost](w0 w:World)(C:Nat)(c:CV)(ns:List ByteArray)(ps:List Plc):Prop where
 below:Below w0.heap.size w0 w
 base:w0.heap.size<=C
 chk:ChkAt w C c
 names:w.ownsRow w0.heap.size 9 1 c.names.v ns.length (ns.map Value.string)
 places:w.ownsRow w0.heap.size 94 3 c.places.v ps.length (placeCells ps)
 few:ns.length<=200
 same:ps.length=ns.length
 ok:∀p,p∈ps->PlcOk p
 fns:Cells w (default:Ghost).b 134 (default:Ghost).cs
theorem St.step[Inhabited Ghost]{w0 w w':World}{C:Nat}{c:CV}{ns:List ByteArray}{ps:List Plc}(h:St w0 w C c ns ps)(hb:Below w.heap.size w w'):St w0 w' C c ns ps:=
 ⟨h.below.trans (hb.mono h.below.size),h.base,h.chk.below hb h.chk.lt,qb h.names hb,qb h.places hb,h.few,h.same,h.ok,h.fns.below hb h.fns.lt⟩
theorem St.fns_ne[Inhabited Ghost]{w0 W:World}{C:Nat}{c:CV}{ns:List ByteArray}{ps:List Plc}(h:St w0 W C c ns ps):(default:Ghost).b≠C:=fun eb=>by
 have h1:=h.fns
 rw[eb] at h1
 have h2:=Option.some.inj ((show W.heap[C]?=_ from h1).symm.trans (show W.heap[C]?=_ from h.chk))
 injection h2 with _ ht _
 exact absurd ht (by decide)
theorem St.namesAt[Inhabited Ghost]{w0 w:World}{C:Nat}{c:CV}{ns:List ByteArray}{ps:List Plc}(h:St w0 w C c ns ps):yg w c ns:=by
 have:=StrsAt.of_row h.names rfl
 exact⟨this,by have:=this.1;have:=h.few;omega⟩
theorem St.placesAt[Inhabited Ghost]{w0 w:World}{C:Nat}{c:CV}{ns:List ByteArray}{ps:List Plc}(h:St w0 w C c ns ps):qP w c ps:=by
 have hf:=h.few
 have hs:=h.same
 have hrow:=h.places
 rcases hrow.2 with⟨h1,h2⟩|⟨g,cap,cur,h1,h2,h3,h4,_⟩
 ·unfold SlV.v at h1
  injection h1 with e1 e2 e3
  have hl:ps = []:=List.length_eq_zero_iff.1 (by omega)
  subst hl
  exact⟨h.ok,by simp;omega,by omega,by omega,fun i p hp=>by simp at hp⟩
 ·unfold SlV.v at h1
  injection h1 with e1 e2 e3
  refine⟨h.ok,by omega,by omega,by omega,fun i p hp=>⟨g,0,e1,?_⟩⟩
  rw[Nat.zero_add]
  have hv:c.places.v = .slice (some ⟨g,0,none⟩) c.places.n c.places.c:=by unfold SlV.v;rw[e1]
  rw[hv] at hrow
  obtain⟨q0,q1,q2⟩:=zG hp
  exact⟨qi hrow q0,qi hrow q1,qi hrow q2⟩
theorem xo{base T j:Nat}{t e:TypeId}{size:Nat}{cs:Array Value}{v':Value}{m:Nat}{ys:List Value}{W W7:World}(h:yG base T j t e size cs v' m ys W W7)(hT:Cells W T t cs)
 {base':Nat} {e':TypeId} {size':Nat} {v2:Value} {k2:Nat} {xs2:List Value} (h2:W.ownsRow base' e' size' v2 k2 xs2) (he:e'≠e) (ht:e'≠t):W7.ownsRow base' e' size' v2 k2 xs2:=by
 refine⟨h2.1,?_⟩
 rcases h2.2 with h3|⟨g,cap,cur,e1,e2,e3,e4⟩
 ·exact .inl h3
 ·refine .inr ⟨g,cap,cur,e1,e2,h.block g e' cur e3 (fun eg=>?_) he,e4⟩
  subst eg
  have:=(show W.heap[g]?=_ from e3).symm.trans (show W.heap[g]?=_ from hT)
  cases this;exact ht rfl
theorem IntsR.grown{base T j:Nat}{t e:TypeId}{size:Nat}{cs:Array Value}{v':Value}{m:Nat}{ys:List Value}{W W7:World}(h:yG base T j t e size cs v' m ys W W7)(hT:Cells W T t cs){s:SlV}{l:List Int}(hs:IntsR W s l)(he:3≠e)(ht:3≠t):IntsR W7 s l:=xo h hT hs he ht
def ListsO(w0 W:World)(s:SlV)(ls:List (List Int)):Prop:=
 ∃vs:List SlV,vs.length=ls.length/\W.ownsRow w0.heap.size 41 1 s.v ls.length (vs.map SlV.v)/\∀ (i:Nat) v l,vs[i]?=some v->ls[i]?=some l->IntsR W v l/\l.length<=1000/\(v.a=none->v.c=0)
theorem ListsO.lists{w0 W:World}{s:SlV}{ls:List (List Int)}(h:ListsO w0 W s ls):qQ W s ls:=by
 obtain⟨vs,h1,h2,h3⟩:=h
 exact⟨vs,h1,qj h2 (Nat.zero_le _),h3⟩
theorem ListsO.below{w0 W W':World}{s:SlV}{ls:List (List Int)}(h:ListsO w0 W s ls)(hb:Below W.heap.size W W'):ListsO w0 W' s ls:=by
 obtain⟨vs,h1,h2,h3⟩:=h
 exact⟨vs,h1,qb h2 hb,fun i v l hv hl=>⟨(h3 i v l hv hl).1.below hb,(h3 i v l hv hl).2⟩⟩
theorem ListsO.nil(w0 W:World):ListsO w0 W ⟨none,0,0⟩ []:=⟨[],rfl,World.ownsRow_nil _ _ _ _,fun i v l hv _=>by simp at hv⟩
theorem St.grown[Inhabited Ghost]{w0 W W7:World}{C j:Nat}{c c':CV}{ns:List ByteArray}{ps:List Plc}{e:TypeId}{size m:Nat}{v':Value}{ys:List Value}(h:St w0 W C c ns ps)(hG:yG w0.heap.size C j 132 e size c.cells v' m ys W W7)
 (hc:c'.cells=c.cells.setIfInBounds j v') (hn:c'.names=c.names) (hp:c'.places=c.places) (e1:9≠e) (e2:94≠e) (e3:134≠e):St w0 W7 C c' ns ps:=by
 refine⟨h.below.trans hG.below,h.base,?_,?_,?_,h.few,h.same,h.ok,hG.block _ _ _ h.fns h.fns_ne e3⟩
 ·show Cells W7 C 132 c'.cells
  rw[hc];exact hG.cells
 ·rw[hn];exact xo hG h.chk h.names e1 (by decide)
 ·rw[hp];exact xo hG h.chk h.places e2 (by decide)
theorem Qz(nm:ByteArray->Bool)(ns:List ByteArray)(ps:List Plc)(cs:List ClassD)(k:Nat)(x:ClassD)(hx:cs[k]?=some x) :
 qH nm ns ps (cs.take k) (cs.drop k)=if classErr nm ns ps (cs.take k) x=0 then qH nm ns ps (cs.take (k+1)) (cs.drop (k+1)) else classErr nm ns ps (cs.take k) x:=by
 have hlt:k<cs.length:=(List.getElem?_eq_some_iff.1 hx).1
 rw[List.drop_eq_getElem_cons hlt,List.take_add_one,hx]
 have:cs[k]=x:=(List.getElem?_eq_some_iff.1 hx).2
 rw[this];rfl
theorem jd{ns:List ByteArray}{ps:List Plc}{l:List ByteArray}(hs:ps.length=ns.length)(h:(regsL ns l).contains (-1)=false):∀x,x∈regsL ns l->Num ps x:=fun x hx=>by
 unfold regsL at hx
 obtain⟨s,hs2,rfl⟩:=List.mem_map.1 hx
 have hr:=qA ns s
 refine⟨?_,by omega⟩
 by_cases h0:0<=regN ns s
 ·exact h0
 ·have:regN ns s = -1:=by omega
  have hc:(regsL ns l).contains (-1)=true:=by
   rw[List.contains_iff_mem];exact List.mem_map.2 ⟨s,hs2,this⟩
  rw[hc] at h;cases h
theorem xI{W W':World}{base base2:Nat}{e e2:TypeId}{size size2 k k2:Nat}{v v2:Value}{xs xs2:List Value}(h:W.ownsRow base e size v k xs)(h2:W.ownsRow base2 e2 size2 v2 k2 xs2)(hg:W.grownBy W' v2.ownBlock)(he:e≠e2):W'.ownsRow base e size v k xs:=by
 refine h.kept hg ?_
 cases hv:v.ownBlock with
 | none=>exact .inl rfl
 |some b=>
  refine .inr fun e1=>?_
  obtain⟨_,c1,hc1⟩:=qd h hv
  obtain⟨_,c2,hc2⟩:=qd h2 e1.symm
  have:=(show W.heap[b]?=_ from hc1).symm.trans (show W.heap[b]?=_ from hc2)
  cases this;exact he rfl
def zP(v u:SlV):Prop:=∀b,v.v.ownBlock=some b->u.v.ownBlock≠some b
theorem IntsR.kept{W W':World}{s u:SlV}{l:List Int}(h:IntsR W s l)(hg:W.grownBy W' u.v.ownBlock)(ha:zP s u):IntsR W' s l:=by
 refine World.ownsRow.kept h hg ?_
 cases hv:s.v.ownBlock with
 | none=>exact .inl rfl
 | some b=>exact .inr fun e1=>ha b hv e1.symm
theorem IntsR.lt{W:World}{s:SlV}{l:List Int}(h:IntsR W s l){b:Nat}(hb:s.v.ownBlock=some b):b<W.heap.size:=by
 obtain⟨_,cur,hc⟩:=qd h hb
 exact hc.lt
theorem zP.fresh{W:World}{s u:SlV}{l:List Int}(h:IntsR W s l)(hu:∀b,u.v.ownBlock=some b->W.heap.size<=b):zP s u:=fun b hb e=>by
 have:=h.lt hb
 have:=hu b e
 omega
theorem Cells.drew{W:World}{b:Nat}{t:TypeId}{cs:Array Value}(h:Cells W b t cs):Cells W.drew b t cs:=h
theorem Cells.kept_row{W W':World}{b:Nat}{t:TypeId}{cs:Array Value}{base:Nat}{e:TypeId}{size k:Nat}{v:Value}{xs:List Value}(h:Cells W b t cs)(h2:W.ownsRow base e size v k xs)(hg:W.grownBy W' v.ownBlock)(hte:t≠e):Cells W' b t cs:=h.kept hg (h.not_row hte h2)
theorem row_set{W:World}{b:Nat}{t:TypeId}{cs:Array Value}{base:Nat}{e:TypeId}{size k:Nat}{v:Value}{xs:List Value}(hC:Cells W b t cs)(h:W.ownsRow base e size v k xs)(he:e≠t)(j:Nat)(x:Value):(W.setCell ⟨b,j,none⟩ x).ownsRow base e size v k xs:=
 h.kept (qy W b j x) (.inr fun e1=>hC.not_row (Ne.symm he) h e1.symm)
theorem yl{W:World}{R:Nat}{t:TypeId}{a b c d:Value}(h:Cells W R t #[a,b,c,d])(x y z u:Value):Cells ((((W.setCell ⟨R,0,none⟩ x).setCell ⟨R,1,none⟩ y).setCell ⟨R,2,none⟩ z).setCell ⟨R,3,none⟩ u) R t #[x,y,z,u]:=by
 simpa using(((h.set (j:=0) x).set (j:=1) y).set (j:=2) z).set (j:=3) u
theorem zx{W:World}{R:Nat}{t:TypeId}{a b c d:Value}(h:Cells W R t #[a,b,c,d])(x y z u:Value){base:Nat}{e:TypeId}{size k:Nat}{v:Value}{xs:List Value}(hr:W.ownsRow base e size v k xs)(he:e≠t) :
 ((((W.setCell ⟨R,0,none⟩ x).setCell ⟨R,1,none⟩ y).setCell ⟨R,2,none⟩ z).setCell ⟨R,3,none⟩ u).ownsRow base e size v k xs:=
 row_set (((h.set (j:=0) x).set (j:=1) y).set (j:=2) z) (row_set ((h.set (j:=0) x).set (j:=1) y) (row_set (h.set (j:=0) x) (row_set h hr he 0 x) he 1 y) he 2 z) he 3 u
theorem xF{W:World}{R b':Nat}{t:TypeId}{cs:Array Value}(h:Cells W b' t cs)(hne:b'≠R)(x y z u:Value):Cells ((((W.setCell ⟨R,0,none⟩ x).setCell ⟨R,1,none⟩ y).setCell ⟨R,2,none⟩ z).setCell ⟨R,3,none⟩ u) b' t cs:=
 (((h.other hne x).other hne y).other hne z).other hne u
theorem zg{B R:Nat}{w W:World}(h:Below B w W)(hR:B<=R)(x y z u:Value):Below B w ((((W.setCell ⟨R,0,none⟩ x).setCell ⟨R,1,none⟩ y).setCell ⟨R,2,none⟩ z).setCell ⟨R,3,none⟩ u):=
 (((h.setCell (p:=⟨R,0,none⟩) hR x).setCell (p:=⟨R,1,none⟩) hR y).setCell (p:=⟨R,2,none⟩) hR z).setCell (p:=⟨R,3,none⟩) hR u
structure Xm(w W:World)(R:Nat)(bx:Array Value)(dv uv kv:SlV)(tie:Int)(d k:List Int):Prop where
 below:Below w.heap.size w W
 far:w.heap.size+2<=R
 box:Cells W w.heap.size 54 bx
 res:Cells W (w.heap.size+1) 167 #[.slice none 0 0,.slice none 0 0,.int .i64 0,.slice none 0 0]
 read:Cells W R 167 #[.slice dv.a dv.n dv.c,.slice uv.a uv.n uv.c,.int .i64 tie,.slice kv.a kv.n kv.c]
 d:IntsR W dv d
 k:IntsR W kv k
theorem Xm.step{w W W':World}{R:Nat}{bx:Array Value}{dv uv kv:SlV}{tie:Int}{d k:List Int}(h:Xm w W R bx dv uv kv tie d k)(hb:Below W.heap.size W W'):Xm w W' R bx dv uv kv tie d k:=
 ⟨h.below.trans (hb.mono h.below.size),h.far,h.box.below hb h.box.lt,h.res.below hb h.res.lt,h.read.below hb h.read.lt,h.d.below hb,h.k.below hb⟩
structure zU(w W:World)(uv wd dv kv:SlV)(ls:List (List Int))(wl:List Int)(vs:List SlV):Prop where
 len:vs.length=ls.length
 urow:W.ownsRow w.heap.size 41 1 uv.v ls.length (vs.map SlV.v)
 each:∀ (i:Nat) v l,vs[i]?=some v->ls[i]?=some l->IntsR W v l/\l.length<=1000/\(v.a=none->v.c=0)/\zP v wd
 wrow:W.ownsRow w.heap.size 3 1 wd.v wl.length (wl.map (Value.int .i64))
 da:zP dv wd
 ka:zP kv wd
theorem zU.step{w W W':World}{uv wd dv kv:SlV}{ls:List (List Int)}{wl:List Int}{vs:List SlV}(h:zU w W uv wd dv kv ls wl vs)(hb:Below W.heap.size W W'):zU w W' uv wd dv kv ls wl vs:=
 ⟨h.len,qb h.urow hb,fun i v l hv hl=>⟨(h.each i v l hv hl).1.below hb,(h.each i v l hv hl).2⟩,qb h.wrow hb,h.da,h.ka⟩
theorem ZW:∀ {ls:List (List Int)},(∀l,l∈ls->l.length<=1000)->ls.flatten.length<=1000*ls.length
 | [],_=>by simp
 |l::ls,h=>by
  have h1:=h l (by simp)
  have h2:=ZW (ls:=ls) (fun x hx=>h x (by simp[hx]))
  simp only[List.flatten_cons,List.length_append,List.length_cons];omega
theorem zU.flat{w W:World}{uv wd dv kv:SlV}{ls:List (List Int)}{wl:List Int}{vs:List SlV}(h:zU w W uv wd dv kv ls wl vs):ls.flatten.length<=1000*ls.length:=
 ZW fun l hl=>by
  obtain⟨i,hi⟩:=List.getElem?_of_mem hl
  have hi2:i<vs.length:=by rw[h.len];exact(List.getElem?_eq_some_iff.1 hi).1
  exact(h.each i vs[i] l (List.getElem?_eq_getElem hi2) hi).2.1
theorem JZ{w W12 W14 W15:World}{R:Nat}{bx:Array Value}{dv uv uv' kv wd wd' s:SlV}{tie:Int}{d k l wl:List Int}{ls:List (List Int)}{vs:List SlV}{tmp:Obj}
 (hF:Xm w W12 R bx dv uv kv tie d k) (hU:zU w W12 uv wd dv kv ls wl vs) (hs:IntsR W12 s l) (hl:l.length<=1000) (hz:s.a=none->s.c=0) (ha:zP s wd)
 (hg1:(W12.alloc tmp).grownBy W14 uv.v.ownBlock) (ho1:W14.ownsRow w.heap.size 41 1 uv'.v (ls.length+1) (vs.map SlV.v++[s.v]))
 (hg2:W14.grownBy W15 wd.v.ownBlock) (ho2:W15.ownsRow w.heap.size 3 1 wd'.v (wl.length+l.length) (wl.map (Value.int .i64)++l.map (Value.int .i64))) (hb2:wd'.v.ownBlock=wd.v.ownBlock∨wd'.v.ownBlock=some W14.heap.size) :
 Xm w (W15.setCell ⟨R,1,none⟩ uv'.v) R bx dv uv' kv tie d k/\zU w (W15.setCell ⟨R,1,none⟩ uv'.v) uv' wd' dv kv (ls++[l]) (wl++l) (vs++[s]):=by
 have hu13:=hU.urow.alloc tmp
 have hw14:=xI (hU.wrow.alloc tmp) hu13 hg1 (by decide)
 have hz12:W12.heap.size<=W14.heap.size:=Nat.le_trans (by simp) hg1.size
 have hR:w.heap.size<=R:=by have:=hF.far;omega
 have kept:∀ {b:Nat} {t:TypeId} {cs:Array Value},Cells W12 b t cs->t≠41->t≠3->Cells W15 b t cs:=fun h h1 h2=>((h.alloc tmp).kept_row hu13 hg1 h1).kept_row hw14 hg2 h2
 have hrd:=kept hF.read (by decide) (by decide)
 have ints:∀ {v:SlV} {li:List Int},IntsR W12 v li->zP v wd->IntsR (W15.setCell ⟨R,1,none⟩ uv'.v) v li:=fun h hap=>by
  have h13:IntsR (W12.alloc tmp) _ _:=World.ownsRow.alloc h tmp
  have h14:IntsR W14 _ _:=xI h13 hu13 hg1 (by decide)
  exact row_set hrd (h14.kept hg2 hap) (by decide) 1 uv'.v
 have apart:∀ {v:SlV} {li:List Int},IntsR W12 v li->zP v wd->zP v wd':=fun h hap b hb e=>by
  rcases hb2 with h2|h2
  ·rw[h2] at e;exact hap b hb e
  ·rw[h2] at e
   have:=h.lt hb
   cases e;omega
 have hB:Below w.heap.size w (W15.setCell ⟨R,1,none⟩ uv'.v):=by
  have hw:=hF.below.size
  have b14:Below w.heap.size w W14:=(hF.below.alloc hw tmp).grown hg1 (by simp;omega) (fun i e=>(qd hU.urow e).1)
  have b15:Below w.heap.size w W15:=b14.grown hg2 (by omega) (fun i e=>(qd hU.wrow e).1)
  exact b15.setCell (p:=⟨R,1,none⟩) hR uv'.v
 have hne0:w.heap.size≠R:=by have:=hF.far;omega
 have hne1:w.heap.size+1≠R:=by have:=hF.far;omega
 refine⟨⟨hB,hF.far,(kept hF.box (by decide) (by decide)).other hne0 _,(kept hF.res (by decide) (by decide)).other hne1 _,?_,ints hF.d hU.da,ints hF.k hU.ka⟩,⟨?_,?_,?_,?_,apart hF.d hU.da,apart hF.k hU.ka⟩⟩
 ·have:=hrd.set (j:=1) uv'.v
  simpa[SlV.v] using this
 ·rw[List.length_append,List.length_append,hU.len];rfl
 ·rw[List.length_append,List.map_append]
  exact row_set hrd (xI ho1 hw14 hg2 (by decide)) (by decide) 1 uv'.v
 ·intro i v li hv hli
  by_cases hi:i<ls.length
  ·rw[List.getElem?_append_left (by rw[hU.len];exact hi)] at hv
   rw[List.getElem?_append_left hi] at hli
   obtain⟨h1,h2,h3,h4⟩:=hU.each i v li hv hli
   exact⟨ints h1 h4,h2,h3,apart h1 h4⟩
  ·rw[List.getElem?_append_right (by rw[hU.len];omega),hU.len] at hv
   rw[List.getElem?_append_right (by omega)] at hli
   have hi0:i-ls.length=0:=by
    have:=(List.getElem?_eq_some_iff.1 hli).1
    simp at this;omega
   rw[hi0] at hv hli
   cases hv
   cases hli
   exact⟨ints hs ha,hl,hz,apart hs ha⟩
 ·rw[List.length_append,List.map_append]
  exact row_set hrd ho2 (by decide) 1 uv'.v
structure Xn(W:World)(dv uv kv:SlV)(o:OpR):Prop where
 d:IntsR W dv o.d
 dn:o.d.length<=1000
 dz:dv.a=none->dv.c=0
 uses:qQ W uv o.uses
 clob:IntsR W kv o.clob
 cn:o.clob.length<=1000
theorem xq{ns:List ByteArray}{cs:List ClassD}{o:OperD}{x:Int}(hx:x∈choiceS ns cs o):∃l,l∈clsOf ns cs/\x∈l:=by
 unfold choiceS at hx
 cases hf:cs.findIdx? (fun x=>eqB x.name o.cls) with
 | none=>rw[hf] at hx;cases hx
 |some k=>
  rw[hf] at hx
  have hk:k<(clsOf ns cs).length:=by unfold clsOf;rw[List.length_map];exact(List.findIdx?_eq_some_iff_getElem.1 hf).1
  have hg:(clsOf ns cs).getD k []=(clsOf ns cs)[k]:=by rw[List.getD_eq_getElem?_getD,List.getElem?_eq_getElem hk];rfl
  simp only[hg] at hx
  refine⟨(clsOf ns cs)[k],List.getElem_mem hk,?_⟩
  split at hx
  ·exact hx
  ·split at hx
   ·rename_i _ h
    have:x=regN ns o.fix:=by simpa using hx
    rw[this];simpa using h
   ·cases hx
def QM(w:World)(o:OpR)(e:Ending)(w':World):Prop:=
 ∃dv uv kv:SlV,e = .returned (.tuple #[.agg #[.slice dv.a dv.n dv.c,.slice uv.a uv.n uv.c,.int .i64 o.tie,.slice kv.a kv.n kv.c],.bool true])/\Below w.heap.size w w'/\Xn w' dv uv kv o
theorem qdz[Inhabited Ghost](C:Nat)(c:CV)(ns:List ByteArray)(ps:List Plc)(cs:List ClassD)(o:OpD)(u kk:SlV)(w0 w:World)(hS:St w0 w C c ns ps)(hK:ClassesAt w0 c.m.classes cs)(hkb:c.m.classes.n<=64)(hL:ListsO w0 w c.classes (clsOf ns cs))(hnum:∀l,l∈clsOf ns cs->∀x,x∈l->Num ps x)
 (hu:qW w u o.uses) (hkk:StrsAt w kk o.clob) (hf:opFine ns ps cs o=true) (hub:o.uses.length<=2) :
 Calls Tryz.prog 143 #[.pointer (some ⟨C,0,none⟩),.agg #[.string o.name,.string o.d.cls,.string o.d.fix,.slice u.a u.n u.c,.int .i64 o.tie,.slice kk.a kk.n kk.c]] w (QM w (opR ns cs o)):=by
 obtain⟨nm,⟨dc,df⟩,us,tie,cl⟩:=o
 obtain⟨ua,un,uc⟩:=u
 obtain⟨ka,kn,kc⟩:=kk
 unfold opFine at hf
 simp only[Bool.and_eq_true,decide_eq_true_eq] at hf
 obtain⟨⟨⟨⟨⟨⟨hf1,hf2⟩,hf3⟩,hf4⟩,hf5⟩,hf6⟩,hf7⟩:=hf
 have hun:=hu.1
 have huc:=hu.2.1
 dsimp only at hun huc hf1 hf2 hf3 hf4 hf5 hf6 hf7 hu hub ⊢
 have hb0:Below w.heap.size w (w.alloc (.cells #[.string nm,.string dc,.string df,.slice ua un uc,.int .i64 tie,.slice ka kn kc] 54)):=qe
 have hb1:Below w.heap.size w ((w.alloc (.cells #[.string nm,.string dc,.string df,.slice ua un uc,.int .i64 tie,.slice ka kn kc] 54)).alloc (.cells #[.slice none 0 0,.slice none 0 0,.int .i64 0,.slice none 0 0] 167)):=hb0.alloc (by simp) _
 have Ka:∀W,Calls Tryz.prog 140 #[.string nm] W fun e w'=>e = .returned (.int .i64 un)/\W=w':=fun W=>(jb nm W).mono fun e w' ⟨he,hw⟩=>⟨by rw[he];exact qp (by omega),hw⟩
 have Kt:∀W,Below w.heap.size w W->Calls Tryz.prog 172 #[.agg #[.string nm,.string dc,.string df,.slice ua un uc,.int .i64 tie,.slice ka kn kc]] W fun e w'=>e = .returned (.bool true)/\Below W.heap.size W w':=fun W hb=>by
  have:=xU ⟨nm,⟨dc,df⟩,us,tie,cl⟩ ⟨ua,un,uc⟩ ⟨ka,kn,kc⟩ W (hu.below hb) (by show un<_;omega)
  rw[hf2] at this;exact this
 have hok2:cl.length<=64/\(regsL ns cl).contains (-1)=false:=by unfold regsOk at hf3;simpa using hf3
 have Kg:∀W,Below w.heap.size w W->Calls Tryz.prog 137 #[.pointer (some ⟨C,0,none⟩),.slice ka kn kc,.int .i64 64] W fun e w'=>∃s:SlV,e = .returned (.tuple #[.slice s.a s.n s.c,.bool true])/\Below W.heap.size W w'/\IntsR w' s (regsL ns cl):=fun W hb=>
  (jN C _ ns ⟨ka,kn,kc⟩ cl 64 W (by decide) (by decide) (hS.step hb).chk (hS.step hb).namesAt (hkk.below hb)).mono fun e w' ⟨s,he,hbl,hown⟩=>by
    refine⟨s,by rw[he,show(64:Int).toNat=64 from rfl,hf3],hbl,?_⟩
    have:=hown (by have:=hok2.1;omega)
    have el:cl.length=(regsL ns cl).length:=by simp[regsL]
    rw[el] at this
    exact qj this (Nat.zero_le _)
 have Kw:∀W s,IntsR W s (regsL ns cl)->Calls Tryz.prog 138 #[.slice s.a s.n s.c] W fun e w'=>e = .returned (.bool false)/\W=w':=fun W s hI=>by
  have:=Qj s _ W hI.at_ (by have:=hI.len;have:=hok2.1;simp[regsL] at *;omega)
  rw[show qv [] (regsL ns cl)=false by simpa using hf4] at this;exact this
 have Kc:∀ (oo:OperD) W,Below w.heap.size w W->Calls Tryz.prog 173 #[.pointer (some ⟨C,0,none⟩),.agg #[.string oo.cls,.string oo.fix]] W (QL w W (choiceS ns cs oo)):=fun oo W hb=>
  XL C c ns cs oo w W (hS.step hb).chk (hS.step hb).namesAt (hK.below (hS.step hb).below) hkb hL.lists hb
 have hS':=Lib.hid hS
 replace hun:=Lib.hid hun
 clear hS hK hL hf1 hf2 hf3 hf4 hkk
 go_enter Tryz.func143,Tryz.ntmps143
 go_wp2_with fail
 go_region_held3 (fun w'=>w'.cell? ⟨w.heap.size,0,none⟩=some (.string nm)/\w'.cell? ⟨w.heap.size,1,none⟩=some (.string dc)/\w'.cell? ⟨w.heap.size,2,none⟩=some (.string df)/\w'.cell? ⟨w.heap.size,3,none⟩=some (.slice ua un uc)/\w'.cell? ⟨w.heap.size,4,none⟩=some (.int .i64 tie)/\w'.cell? ⟨w.heap.size,5,none⟩=some (.slice ka kn kc))
  (go_keep)
  ((first
    |(go_at_call 140;refine(Ka _).mono ?_;clear Ka;rintro e W1 ⟨rfl,rfl⟩)
    |(go_at_call 172;refine(Kt _ hb1.drew).mono ?_;clear Kt;rintro e W1 ⟨rfl,hbt⟩;have hA1:=hb1.drew.trans (hbt.mono (by simp;omega));have k0:W1.cell? ⟨w.heap.size,0,none⟩=some (.string nm):=qh hbt;have k1:W1.cell? ⟨w.heap.size,1,none⟩=some (.string dc):=qh hbt;have k2:W1.cell? ⟨w.heap.size,2,none⟩=some (.string df):=qh hbt;have k3:W1.cell? ⟨w.heap.size,3,none⟩=some (.slice ua un uc):=qh hbt;have k4:W1.cell? ⟨w.heap.size,4,none⟩=some (.int .i64 tie):=qh hbt;have k5:W1.cell? ⟨w.heap.size,5,none⟩=some (.slice ka kn kc):=qh hbt)))
 go_wp2_with (first
  |(go_at_call 137;refine(Kg _ hA1).mono ?_;clear Kg;rintro e W2 ⟨kv,rfl,hb2,hI2⟩;have hA2:=hA1.trans (hb2.mono hA1.size);have m0:=cell_below hb2 k0;have m1:=cell_below hb2 k1;have m2:=cell_below hb2 k2;have m3:=cell_below hb2 k3;have m4:=cell_below hb2 k4;clear k0 k1 k2 k3 k4 k5;have Kw':=Kw _ _ hI2)
  |(go_at_call 138;refine Kw'.mono ?_;clear Kw';rintro e W3 ⟨rfl,rfl⟩))
 have hsz2:w.heap.size+2<=W2.heap.size:=by
  have h1:=hbt.size
  have h2:=hb2.size
  simp at h1;omega
 have hBx2:Cells W2 w.heap.size 54 #[.string nm,.string dc,.string df,.slice ua un uc,.int .i64 tie,.slice ka kn kc]:=by
  have h0:=(Cells.new w 54 #[.string nm,.string dc,.string df,.slice ua un uc,.int .i64 tie,.slice ka kn kc]).alloc (.cells #[.slice none 0 0,.slice none 0 0,.int .i64 0,.slice none 0 0] 167)
  exact(((Cells.drew h0).below hbt (by simp;omega)).below hb2 (by have:=hbt.size;simp at this;omega))
 have hRs2:Cells W2 (w.heap.size+1) 167 #[.slice none 0 0,.slice none 0 0,.int .i64 0,.slice none 0 0]:=by
  have h0:=Cells.new (w.alloc (.cells #[.string nm,.string dc,.string df,.slice ua un uc,.int .i64 tie,.slice ka kn kc] 54)) 167 #[.slice none 0 0,.slice none 0 0,.int .i64 0,.slice none 0 0]
  rw[World.size_alloc] at h0
  exact(((Cells.drew h0).below hbt (by simp)).below hb2 (by have:=hbt.size;simp at this;omega))
 have nb:W2.heap.size≠w.heap.size:=by omega
 have nb1:W2.heap.size≠w.heap.size+1:=by omega
 go_region_held3 (fun w'=>w'.cell? ⟨w.heap.size,1,none⟩=some (.string dc)/\w'.cell? ⟨w.heap.size,2,none⟩=some (.string df)/\w'.cell? ⟨w.heap.size,4,none⟩=some (.int .i64 tie))
  (go_keep)
  ((go_at_call 173;refine(Kc ⟨dc,df⟩ _ (by first|exact hA2.drew|exact(hA2.drew).alloc (by have:=hA2.size;simp;omega) _)).mono ?_;rintro e W4 ⟨dv,rfl,hb4,hI4,hd4,hz4,ha4⟩;obtain⟨hc4,hf4⟩:=xH hb4;have hs4:=hb4.size;have k1:W4.cell? ⟨w.heap.size,1,none⟩=some (.string dc):=qh hb4;have k2:W4.cell? ⟨w.heap.size,2,none⟩=some (.string df):=qh hb4;have k4:W4.cell? ⟨w.heap.size,4,none⟩=some (.int .i64 tie):=qh hb4))
 all_goals
  first
   |(have hFr:Xm w (W4.alloc (.cells #[.slice dv.a dv.n dv.c,.slice none 0 0,.int .i64 tie,.slice kv.a kv.n kv.c] 167)) W4.heap.size #[.string nm,.string dc,.string df,.slice ua un uc,.int .i64 tie,.slice ka kn kc] dv ⟨none,0,0⟩ kv tie (choiceS ns cs ⟨dc,df⟩) (regsL ns cl):=by
      have hbA:Below W2.heap.size W2 W4:=((Below.refl W2.heap.size W2).drew).trans hb4
      have hal:Below W4.heap.size W4 (W4.alloc (.cells #[.slice dv.a dv.n dv.c,.slice none 0 0,.int .i64 tie,.slice kv.a kv.n kv.c] 167)):=qe
      exact⟨(hA2.trans (hbA.mono hA2.size)).trans (hal.mono (Nat.le_trans hA2.size hbA.size)),Nat.le_trans hsz2 hbA.size,(hBx2.below hbA hBx2.lt).below hal (Nat.lt_of_lt_of_le hBx2.lt hbA.size),(hRs2.below hbA hRs2.lt).below hal (Nat.lt_of_lt_of_le hRs2.lt hbA.size),Cells.new W4 _ _,hI4.below hal,(hI2.below hbA).below hal⟩
     clear hb4 hI4 ha4 k1 k2 k4 hc4 hf4 hs4
     generalize W4.alloc (.cells #[.slice dv.a dv.n dv.c,.slice none 0 0,.int .i64 tie,.slice kv.a kv.n kv.c] 167)=W5 at hFr ⊢
     generalize W4.heap.size=R at hFr ⊢)
   |(have hFr:Xm w ((((W4.setCell ⟨W2.heap.size,0,none⟩ (.slice dv.a dv.n dv.c)).setCell ⟨W2.heap.size,1,none⟩ (.slice none 0 0)).setCell ⟨W2.heap.size,2,none⟩ (.int .i64 tie)).setCell ⟨W2.heap.size,3,none⟩ (.slice kv.a kv.n kv.c)) W2.heap.size #[.string nm,.string dc,.string df,.slice ua un uc,.int .i64 tie,.slice ka kn kc] dv ⟨none,0,0⟩ kv tie (choiceS ns cs ⟨dc,df⟩) (regsL ns cl):=by
      have hbB:Below W2.heap.size W2 W4:=(((Below.refl W2.heap.size W2).drew).alloc (Nat.le_refl _) _).trans (hb4.mono (by simp))
      have hn:=(Cells.new W2.drew 167 #[.slice none 0 0,.slice none 0 0,.int .i64 0,.slice none 0 0]).below hb4 (by simp)
      exact⟨zg (hA2.trans (hbB.mono hA2.size)) hA2.size _ _ _ _,hsz2,xF (hBx2.below hbB hBx2.lt) nb.symm _ _ _ _,xF (hRs2.below hbB hRs2.lt) nb1.symm _ _ _ _,yl hn _ _ _ _,zx hn _ _ _ _ hI4 (by decide),zx hn _ _ _ _ (hI2.below hbB) (by decide)⟩
     clear hb4 hI4 ha4 k1 k2 k4 hc4 hf4 hs4
     generalize((((W4.setCell ⟨W2.heap.size,0,none⟩ (.slice dv.a dv.n dv.c)).setCell ⟨W2.heap.size,1,none⟩ (.slice none 0 0)).setCell ⟨W2.heap.size,2,none⟩ (.int .i64 tie)).setCell ⟨W2.heap.size,3,none⟩ (.slice kv.a kv.n kv.c))=W5 at hFr ⊢
     generalize W2.heap.size=R at hFr ⊢)
  have Kcl:=xm dv _ W5 hFr.d.at_ (by have:=hFr.d.len;omega) hz4
  have d0:=hFr.read.cell (j:=0) (v:=.slice dv.a dv.n dv.c) rfl
  clear nb nb1 hsz2 hBx2 hRs2 hA1 hA2 hbt hb2 hI2 m0 m1 m2 m3 m4 Kw hb0 hb1
  go_wp2_with (go_at_call 46;refine Kcl.mono ?_;clear Kcl;rintro e W6 ⟨wd,rfl,hwd,hb6⟩;have hF6:=hFr.step hb6;have bx3:=hF6.box.cell (j:=3) (v:=.slice ua un uc) rfl)
  have hU6:zU w W6 ⟨none,0,0⟩ wd dv kv [] (choiceS ns cs ⟨dc,df⟩) []:=⟨rfl,World.ownsRow_nil _ _ _ _,fun i v l hv _=>by simp at hv,qj hwd hFr.below.size,zP.fresh hFr.d (fun b hb=>(qd hwd hb).1),zP.fresh hFr.k (fun b hb=>(qd hwd hb).1)⟩
  clear hwd d0 hb6 bx3
  have hFr2:=Lib.hid hF6
  replace hU6:=Lib.hid hU6
  clear hFr hF6
  have un0:(0:Int)<=un:=Int.natCast_nonneg _
  go_loopw [54,9,7] (fun i s9 s7 wr=>∃ (k:Nat) (uv wd:SlV) (vs:List SlV),k<=un/\i = .int .i64 k/\s9 = .slice wd.a wd.n wd.c/\s7 = .bool true/\Xm w wr R #[.string nm,.string dc,.string df,.slice ua un uc,.int .i64 tie,.slice ka kn kc] dv uv kv tie (choiceS ns cs ⟨dc,df⟩) (regsL ns cl) /\
   zU w wr uv wd dv kv ((us.take k).map (choiceS ns cs)) (choiceS ns cs ⟨dc,df⟩++((us.take k).map (choiceS ns cs)).flatten) vs) (fun i _ _ _=>un-(intOf i).toNat)
  case atStart=>exact⟨0,⟨none,0,0⟩,wd,[],Nat.zero_le _,rfl,rfl,rfl,hFr2.out,by simpa using hU6.out⟩
  case round=>
   clear hFr2 hU6
   obtain⟨k,uv,wd',vs,hk,rfl,rfl,rfl,hF,hU⟩:=hrel
   have k0:(0:Int)<=k:=Int.natCast_nonneg _
   by_cases hlt:k<un
   ·have hku:k<us.length:=by have:=hun.out;omega
    obtain⟨x,hx⟩:∃x,us[k]?=some x:=⟨us[k],List.getElem?_eq_getElem hku⟩
    obtain⟨b,of,rfl,x0,x1⟩:=hu.2.2 k x hx
    replace x0:=cell_below hF.below x0
    replace x1:=cell_below hF.below x1
    have k1:(k:Int)<un:=by omega
    have hi:IntKind.i64.wrap ((k:Int)+1)=k+1:=IntWalk.i64_in _ (by omega)
    have hne:choiceS ns cs x ≠ []:=by
     have:=List.all_eq_true.1 hf5 x (List.mem_of_getElem? hx)
     simpa using this
    have hbal:Below wr.heap.size wr (wr.alloc (.cells #[.string x.cls,.string x.fix] 51)):=qe
    have K:=Kc x (wr.alloc (.cells #[.string x.cls,.string x.fix] 51)) (hF.below.trans (hbal.mono hF.below.size))
    have htake:Hid ((us.take (k+1)).map (choiceS ns cs)=(us.take k).map (choiceS ns cs)++[choiceS ns cs x]):=Lib.hid (by rw[List.take_add_one,hx,List.map_append];rfl)
    have hlen:Hid (((us.take k).map (choiceS ns cs)).length=k):=Lib.hid (by rw[List.length_map,List.length_take];omega)
    obtain⟨xc,xf⟩:=x
    dsimp only at x0 x1 K hbal
    generalize choiceS ns cs ⟨xc,xf⟩=l at K hne htake
    have hF':=Lib.hid hF
    have hU':=Lib.hid hU
    replace hne:=Lib.hid hne
    clear hx hF hU
    obtain⟨i0,hi0,hz0,hz1,hz2⟩:=info_parts Tryz.infoSl
    obtain⟨j0,hj0,hj1,hj2,hj3⟩:=info_parts Tryz.infoInt
    go_wp2_with fail
    go_at_call 173
    refine K.mono ?_
    clear K
    rintro e W12 ⟨s,rfl,hbc,hIs,hls,hzs,has⟩
    have hbW:Below wr.heap.size wr W12:=hbal.trans (hbc.mono (by simp))
    have hF12:=hF'.out.step hbW
    have hU12:=hU'.out.step hbW
    have hap:zP s wd':=fun b' hb' e'=>by
     obtain⟨h1,cur,h2⟩:=qd hU'.out.wrow e'
     have h3:=h2.lt
     rcases has b' hb' with h|h
     ·omega
     ·simp at h;omega
    obtain⟨g,hsa⟩:∃g,s.a=some ⟨g,0,none⟩:=by
     rcases hIs.2 with⟨_,h2⟩|⟨g,cap,cur,h1,_⟩
     ·exact absurd (List.length_eq_zero_iff.1 h2) hne.out
     ·unfold SlV.v at h1;injection h1 with ea;exact⟨g,ea⟩
    have hsn:=hIs.len
    obtain⟨sa,sn,sc⟩:=s
    dsimp only at hsa hsn
    subst hsa hsn
    have hur:=hU12.urow
    rw[hlen.out] at hur
    have hwr:=hU12.wrow
    have hwl1:(choiceS ns cs ⟨dc,df⟩++((us.take k).map (choiceS ns cs)).flatten).length<=100000:=by
     have h1:=hU12.flat
     have h2:=hlen.out
     rw[List.length_append];omega
    generalize hwl:choiceS ns cs ⟨dc,df⟩++((us.take k).map (choiceS ns cs)).flatten=wl at hU12 hwr hwl1
    have hwlen:=(IntsAt.of_row hwr rfl).1
    have r1:=hF12.read.cell (j:=1) (v:=.slice uv.a uv.n uv.c) rfl
    have hbs:=hF12.below.size
    have hlpos:0<l.length:=List.length_pos_iff.2 hne.out
    have hlpos2:(0:Int)<l.length:=by omega
    replace hF12:=Lib.hid hF12
    replace hU12:=Lib.hid hU12
    replace hwl:=Lib.hid hwl
    replace hIs:=Lib.hid hIs
    replace hap:=Lib.hid hap
    clear hF' hU' hwlen has hbc hbW hbal x0 x1
    go_wp2_with (first
     |(at_builtin;refine wpList_append_own_at _ rfl _ _ 38 rfl w.heap.size 41 i0 _ 1 24 Tryz.underlying38 hi0 hz0 hz1 hz2 rfl (by decide) _ k (vs.map SlV.v) rfl (hur.alloc _) ⟨W12.heap.size,0,none⟩ 1 1 [.slice (some ⟨g,0,none⟩) l.length sc] rfl rfl (qF _ _ _ _ rfl) (by simp[Value.oneCell']) (by unfold maxLen;omega) (by omega) (by simp;omega) ?_;intro v1 W14 hown1 hgrow1 _ hblk1;obtain⟨g1,cap1,rfl⟩:=ownsRow_succ hown1;have hwr14:=xI (hwr.alloc (.cells #[.slice (some ⟨g,0,none⟩) l.length sc] 41)) (hur.alloc (.cells #[.slice (some ⟨g,0,none⟩) l.length sc] 41)) hgrow1 (by decide);have hI14:IntsR W14 ⟨some ⟨g,0,none⟩,l.length,sc⟩ l:=xI (World.ownsRow.alloc hIs.out (.cells #[.slice (some ⟨g,0,none⟩) l.length sc] 41)) (hur.alloc (.cells #[.slice (some ⟨g,0,none⟩) l.length sc] 41)) hgrow1 (by decide);have hz14:=hgrow1.size)
     |(at_builtin;refine wpList_append_own_at _ rfl _ _ 41 rfl w.heap.size 3 j0 _ 1 8 Tryz.underlying41 hj0 hj1 hj2 hj3 rfl (by decide) wd'.v wl.length (wl.map (Value.int .i64)) rfl hwr14 ⟨g,0,none⟩ l.length sc (l.map (Value.int .i64)) rfl (by simp) (World.ownsRow.cells hI14 rfl) (fun u hu=>by obtain⟨y,_,rfl⟩:=List.mem_map.1 hu;rfl) (by unfold maxLen;omega) (by omega) (by simp at hz14;omega) ?_;intro v2 W15 hown2 hgrow2 _ hblk2;obtain⟨a2,c2,rfl⟩:=qk hown2;have hR15:=((hF12.out.read.alloc (.cells #[.slice (some ⟨g,0,none⟩) l.length sc] 41)).kept_row (hur.alloc (.cells #[.slice (some ⟨g,0,none⟩) l.length sc] 41)) hgrow1 (by decide)).kept_row hwr14 hgrow2 (by decide);have r15:=hR15.cell (j:=1) (v:=.slice uv.a uv.n uv.c) rfl;have f15:=hR15.frozen 1))
    have hst:=JZ (uv':=⟨some ⟨g1,0,none⟩,k+1,cap1⟩) (wd':=⟨a2,wl.length+l.length,c2⟩) (s:=⟨some ⟨g,0,none⟩,l.length,sc⟩) hF12.out hU12.out hIs.out hls hzs hap.out hgrow1 (by rw[hlen.out];exact hown1) hgrow2 hown2 hblk2
    refine⟨⟨k+1,⟨some ⟨g1,0,none⟩,k+1,cap1⟩,⟨a2,wl.length+l.length,c2⟩,vs++[⟨some ⟨g,0,none⟩,l.length,sc⟩],by omega,by go_num,rfl,rfl,hst.1,?_⟩,by simp[intOf];omega⟩
    have h:=hst.2
    rw[htake.out,List.flatten_append,←List.append_assoc,hwl.out,List.flatten_cons,List.flatten_nil,List.append_nil]
    exact h
   ·obtain rfl:k=un:=by omega
    have hus:us.take k=us:=List.take_of_length_le (by have:=hun.out;omega)
    rw[hus] at hU
    have Ko:∀W,Below wr.heap.size wr W->Calls Tryz.prog 139 #[.pointer (some ⟨C,0,none⟩),.slice wd'.a wd'.n wd'.c] W fun e w'=>e = .returned (.bool true)/\Below W.heap.size W w':=fun W hb=>by
     have hSW:=hS'.out.step (hF.below.trans (hb.mono hF.below.size))
     have hI:=IntsAt.of_row (qb hU.wrow hb) rfl
     have hfl:=hU.flat
     have h1:=hI.1
     have h2:=hun.out
     have:=yh C c ps wd' _ W hSW.chk hSW.placesAt hI (by rw[h1,List.length_append];rw[List.length_map] at hfl;omega) (fun x hx=>by
      rcases List.mem_append.1 hx with hx|hx
      ·obtain⟨l,h1,h2⟩:=xq hx
       exact hnum l h1 x h2
      ·obtain⟨l0,h1,h2⟩:=List.mem_flatten.1 hx
       obtain⟨oo,_,rfl⟩:=List.mem_map.1 h1
       obtain⟨l,h3,h4⟩:=xq h2
       exact hnum l h3 x h4)
     rw[hf7] at this;exact this
    have r0:=hF.read.cell (j:=0) (v:=.slice dv.a dv.n dv.c) rfl
    have r1:=hF.read.cell (j:=1) (v:=.slice uv.a uv.n uv.c) rfl
    have r2:=hF.read.cell (j:=2) (v:=.int .i64 tie) rfl
    have r3:=hF.read.cell (j:=3) (v:=.slice kv.a kv.n kv.c) rfl
    have q0:=hF.res.cell (j:=0) (v:=.slice none 0 0) rfl
    have q1:=hF.res.cell (j:=1) (v:=.slice none 0 0) rfl
    have q2:=hF.res.cell (j:=2) (v:=.int .i64 0) rfl
    have q3:=hF.res.cell (j:=3) (v:=.slice none 0 0) rfl
    have g0:=hF.res.frozen 0
    have g1:=hF.res.frozen 1
    have g2:=hF.res.frozen 2
    have g3:=hF.res.frozen 3
    have nR:w.heap.size+1≠R:=by have:=hF.far;omega
    have hlt1:=hF.res.lt
    have hdl:0<dv.n:=by
     have h1:=hF.d.len
     have h2:choiceS ns cs ⟨dc,df⟩ ≠ []:=by simpa using hf6
     have:=List.length_pos_iff.2 h2
     omega
    have hdl2:(0:Int)<dv.n:=by omega
    have hF':=Lib.hid hF
    have hU':=Lib.hid hU
    clear hF hU hus
    go_wp2_with fail
    go_region_held3 (fun w'=>w'.cell? ⟨R,0,none⟩=some (.slice dv.a dv.n dv.c)/\w'.cell? ⟨R,1,none⟩=some (.slice uv.a uv.n uv.c)/\w'.cell? ⟨R,2,none⟩=some (.int .i64 tie)/\w'.cell? ⟨R,3,none⟩=some (.slice kv.a kv.n kv.c))
     (go_keep)
     ((go_at_call 139;refine(Ko _ ((Below.refl _ _).drew)).mono ?_;clear Ko;rintro e W20 ⟨rfl,hb20⟩;have p0:W20.cell? ⟨w.heap.size+1,0,none⟩=some (.slice none 0 0):=qh hb20;have y0:W20.frozen? ⟨w.heap.size+1,0,none⟩=false:=(hb20.frozen (p:=⟨w.heap.size+1,0,none⟩) hlt1).trans g0;have p1:W20.cell? ⟨w.heap.size+1,1,none⟩=some (.slice none 0 0):=qh hb20;have y1:W20.frozen? ⟨w.heap.size+1,1,none⟩=false:=(hb20.frozen (p:=⟨w.heap.size+1,1,none⟩) hlt1).trans g1;have p2:W20.cell? ⟨w.heap.size+1,2,none⟩=some (.int .i64 0):=qh hb20;have y2:W20.frozen? ⟨w.heap.size+1,2,none⟩=false:=(hb20.frozen (p:=⟨w.heap.size+1,2,none⟩) hlt1).trans g2;have p3:W20.cell? ⟨w.heap.size+1,3,none⟩=some (.slice none 0 0):=qh hb20;have y3:W20.frozen? ⟨w.heap.size+1,3,none⟩=false:=(hb20.frozen (p:=⟨w.heap.size+1,3,none⟩) hlt1).trans g3;have k0:W20.cell? ⟨R,0,none⟩=some (.slice dv.a dv.n dv.c):=qh hb20;have k1:W20.cell? ⟨R,1,none⟩=some (.slice uv.a uv.n uv.c):=qh hb20;have k2:W20.cell? ⟨R,2,none⟩=some (.int .i64 tie):=qh hb20;have k3:W20.cell? ⟨R,3,none⟩=some (.slice kv.a kv.n kv.c):=qh hb20))
    have hbF:Below wr.heap.size wr W20:=((Below.refl wr.heap.size wr).drew).trans hb20
    have hF20:=hF'.out.step hbF
    have hU20:=hU'.out.step hbF
    have hfin:Cells ((((W20.setCell ⟨w.heap.size+1,0,none⟩ (.slice dv.a dv.n dv.c)).setCell ⟨w.heap.size+1,1,none⟩ (.slice uv.a uv.n uv.c)).setCell ⟨w.heap.size+1,2,none⟩ (.int .i64 tie)).setCell ⟨w.heap.size+1,3,none⟩ (.slice kv.a kv.n kv.c)) (w.heap.size+1) 167 #[.slice dv.a dv.n dv.c,.slice uv.a uv.n uv.c,.int .i64 tie,.slice kv.a kv.n kv.c]/\Below w.heap.size w ((((W20.setCell ⟨w.heap.size+1,0,none⟩ (.slice dv.a dv.n dv.c)).setCell ⟨w.heap.size+1,1,none⟩ (.slice uv.a uv.n uv.c)).setCell ⟨w.heap.size+1,2,none⟩ (.int .i64 tie)).setCell ⟨w.heap.size+1,3,none⟩ (.slice kv.a kv.n kv.c)) /\
     Xn ((((W20.setCell ⟨w.heap.size+1,0,none⟩ (.slice dv.a dv.n dv.c)).setCell ⟨w.heap.size+1,1,none⟩ (.slice uv.a uv.n uv.c)).setCell ⟨w.heap.size+1,2,none⟩ (.int .i64 tie)).setCell ⟨w.heap.size+1,3,none⟩ (.slice kv.a kv.n kv.c)) dv uv kv (opR ns cs ⟨nm,⟨dc,df⟩,us,tie,cl⟩):=by
     refine⟨yl hF20.res _ _ _ _,zg hF20.below (by omega) _ _ _ _,zx hF20.res _ _ _ _ hF20.d (by decide),hd4,hz4,⟨vs,hU20.len,?_,fun i v l hv hl=>?_⟩,zx hF20.res _ _ _ _ hF20.k (by decide),by have:=hok2.1;simp[opR,regsL];omega⟩
     ·exact zx hF20.res _ _ _ _ (qj hU20.urow (Nat.zero_le _)) (by decide)
     ·obtain⟨h1,h2,h3,_⟩:=hU20.each i v l hv hl
      exact⟨zx hF20.res _ _ _ _ h1 (by decide),h2,h3⟩
    clear k0 k1 k2 k3 p0 p1 p2 p3 y0 y1 y2 y3 hbF hF20 hU20 hb20
    generalize((((W20.setCell ⟨w.heap.size+1,0,none⟩ (.slice dv.a dv.n dv.c)).setCell ⟨w.heap.size+1,1,none⟩ (.slice uv.a uv.n uv.c)).setCell ⟨w.heap.size+1,2,none⟩ (.int .i64 tie)).setCell ⟨w.heap.size+1,3,none⟩ (.slice kv.a kv.n kv.c))=Wf at hfin ⊢
    obtain⟨hCf,hBf,hVf⟩:=hfin
    have z0:=hCf.cell (j:=0) (v:=.slice dv.a dv.n dv.c) rfl
    have z1:=hCf.cell (j:=1) (v:=.slice uv.a uv.n uv.c) rfl
    have z2:=hCf.cell (j:=2) (v:=.int .i64 tie) rfl
    have z3:=hCf.cell (j:=3) (v:=.slice kv.a kv.n kv.c) rfl
    have hP:QM w (opR ns cs ⟨nm,⟨dc,df⟩,us,tie,cl⟩) (.returned (.tuple #[.agg #[.slice dv.a dv.n dv.c,.slice uv.a uv.n uv.c,.int .i64 tie,.slice kv.a kv.n kv.c],.bool true])) Wf:=⟨dv,uv,kv,rfl,hBf,hVf⟩
    replace hP:=Lib.hid hP
    clear r0 r1 r2 r3 q0 q1 q2 q3 g0 g1 g2 g3 hCf hBf hVf hF' hU'
    go_wp2_with fail
    exact bodyPost_ret (v:=.tuple #[.agg #[.slice dv.a dv.n dv.c,.slice uv.a uv.n uv.c,.int .i64 tie,.slice kv.a kv.n kv.c],.bool true]) (by simp[results,Tryz.results143,go_sem,z0,z1,z2,z3]) rfl hP.out
def ReadOpNo(w:World)(e:Ending)(w':World):Prop:=e = .returned (.tuple #[.agg #[.slice none 0 0,.slice none 0 0,.int .i64 0,.slice none 0 0],.bool false])/\Below w.heap.size w w'
theorem qbR(C:Nat)(o:OpD)(u kk:SlV)(w:World)(hu:u.n=o.uses.length)(hf:o.uses.length≠arityN o.name) :
 Calls Tryz.prog 143 #[.pointer (some ⟨C,0,none⟩),.agg #[.string o.name,.string o.d.cls,.string o.d.fix,.slice u.a u.n u.c,.int .i64 o.tie,.slice kk.a kk.n kk.c]] w (ReadOpNo w):=by
 have hne:((u.n:Int) !=(arityN o.name:Int))=true:=by simp;omega
 have Ka:=jb o.name
 generalize(arityN o.name:Int)=an at hne Ka
 have hne2:¬ (u.n:Int)=an:=by simpa using hne
 have hP:∀W,Below w.heap.size w W->ReadOpNo w (.returned (.tuple #[.agg #[.slice none 0 0,.slice none 0 0,.int .i64 0,.slice none 0 0],.bool false])) W:=fun W hb=>⟨rfl,hb⟩
 replace hP:=Lib.hid hP
 clear hu hf
 go_enter Tryz.func143,Tryz.ntmps143
 go_wp2_with fail
 go_quiet ((go_at_call 140;exact Calls.quiet_of_same ((Ka _).mono fun _ _ ⟨he,hw⟩=>⟨he,hw.symm⟩)))
 go_wp2_with fail
 exact bodyPost_ret (v:=.tuple #[.agg #[.slice none 0 0,.slice none 0 0,.int .i64 0,.slice none 0 0],.bool false]) (by simp[results,Tryz.results143,go_sem]) rfl (hP.out _ (zg (below_drewN (qe.alloc (by simp) _) _) (by simp) _ _ _ _))
theorem Jy(C:Nat)(o:OpD)(u kk:SlV)(w:World)(hu:qW w u o.uses)(hub:u.n<4611686018427387904)(hf:o.uses.length=arityN o.name)(ht:zp o=false) :
 Calls Tryz.prog 143 #[.pointer (some ⟨C,0,none⟩),.agg #[.string o.name,.string o.d.cls,.string o.d.fix,.slice u.a u.n u.c,.int .i64 o.tie,.slice kk.a kk.n kk.c]] w (ReadOpNo w):=by
 obtain⟨nm,⟨dc,df⟩,us,tie,cl⟩:=o
 obtain⟨ua,un,uc⟩:=u
 obtain⟨ka,kn,kc⟩:=kk
 have hun:=hu.1
 dsimp only at hun hf hu hub ⊢
 have hb0:Below w.heap.size w (w.alloc (.cells #[.string nm,.string dc,.string df,.slice ua un uc,.int .i64 tie,.slice ka kn kc] 54)):=qe
 have hb1:Below w.heap.size w ((w.alloc (.cells #[.string nm,.string dc,.string df,.slice ua un uc,.int .i64 tie,.slice ka kn kc] 54)).alloc (.cells #[.slice none 0 0,.slice none 0 0,.int .i64 0,.slice none 0 0] 167)):=hb0.alloc (by simp) _
 have Ka:∀W,Calls Tryz.prog 140 #[.string nm] W fun e w'=>e = .returned (.int .i64 un)/\W=w':=fun W=>(jb nm W).mono fun e w' ⟨he,hw⟩=>⟨by rw[he];exact qp (by omega),hw⟩
 have Kt:∀W,Below w.heap.size w W->Calls Tryz.prog 172 #[.agg #[.string nm,.string dc,.string df,.slice ua un uc,.int .i64 tie,.slice ka kn kc]] W fun e w'=>e = .returned (.bool false)/\Below W.heap.size W w':=fun W hb=>by
  have:=xU ⟨nm,⟨dc,df⟩,us,tie,cl⟩ ⟨ua,un,uc⟩ ⟨ka,kn,kc⟩ W (hu.below hb) hub
  rw[ht] at this;exact this
 have hR0:Cells ((w.alloc (.cells #[.string nm,.string dc,.string df,.slice ua un uc,.int .i64 tie,.slice ka kn kc] 54)).alloc (.cells #[.slice none 0 0,.slice none 0 0,.int .i64 0,.slice none 0 0] 167)) (w.heap.size+1) 167 #[.slice none 0 0,.slice none 0 0,.int .i64 0,.slice none 0 0]:=by
  have h0:=Cells.new (w.alloc (.cells #[.string nm,.string dc,.string df,.slice ua un uc,.int .i64 tie,.slice ka kn kc] 54)) 167 #[.slice none 0 0,.slice none 0 0,.int .i64 0,.slice none 0 0]
  rw[World.size_alloc] at h0;exact h0
 replace hR0:=Lib.hid hR0
 clear hun hf ht hu
 go_enter Tryz.func143,Tryz.ntmps143
 go_wp2_with fail
 go_region_held3 (fun w'=>w'.cell? ⟨w.heap.size,0,none⟩=some (.string nm)/\w'.cell? ⟨w.heap.size,1,none⟩=some (.string dc)/\w'.cell? ⟨w.heap.size,2,none⟩=some (.string df)/\w'.cell? ⟨w.heap.size,3,none⟩=some (.slice ua un uc)/\w'.cell? ⟨w.heap.size,4,none⟩=some (.int .i64 tie)/\w'.cell? ⟨w.heap.size,5,none⟩=some (.slice ka kn kc))
  (go_keep)
  ((first
    |(go_at_call 140;refine(Ka _).mono ?_;clear Ka;rintro e W1 ⟨rfl,rfl⟩)
    |(go_at_call 172;refine(Kt _ hb1.drew).mono ?_;clear Kt;rintro e W1 ⟨rfl,hbt⟩;have hA1:=hb1.drew.trans (hbt.mono (by simp;omega));have k0:W1.cell? ⟨w.heap.size,0,none⟩=some (.string nm):=qh hbt;have k1:W1.cell? ⟨w.heap.size,1,none⟩=some (.string dc):=qh hbt;have k2:W1.cell? ⟨w.heap.size,2,none⟩=some (.string df):=qh hbt;have k3:W1.cell? ⟨w.heap.size,3,none⟩=some (.slice ua un uc):=qh hbt;have k4:W1.cell? ⟨w.heap.size,4,none⟩=some (.int .i64 tie):=qh hbt;have k5:W1.cell? ⟨w.heap.size,5,none⟩=some (.slice ka kn kc):=qh hbt)))
 have hR1:Cells W1 (w.heap.size+1) 167 #[.slice none 0 0,.slice none 0 0,.int .i64 0,.slice none 0 0]:=(Cells.drew hR0.out).below hbt (by simp)
 have q0:=hR1.cell (j:=0) (v:=.slice none 0 0) rfl
 have q1:=hR1.cell (j:=1) (v:=.slice none 0 0) rfl
 have q2:=hR1.cell (j:=2) (v:=.int .i64 0) rfl
 have q3:=hR1.cell (j:=3) (v:=.slice none 0 0) rfl
 have g0:=hR1.frozen 0
 have g1:=hR1.frozen 1
 have g2:=hR1.frozen 2
 have g3:=hR1.frozen 3
 have hP:ReadOpNo w (.returned (.tuple #[.agg #[.slice none 0 0,.slice none 0 0,.int .i64 0,.slice none 0 0],.bool false])) ((((W1.setCell ⟨w.heap.size+1,0,none⟩ (.slice none 0 0)).setCell ⟨w.heap.size+1,1,none⟩ (.slice none 0 0)).setCell ⟨w.heap.size+1,2,none⟩ (.int .i64 0)).setCell ⟨w.heap.size+1,3,none⟩ (.slice none 0 0)):=⟨rfl,zg hA1 (by omega) _ _ _ _⟩
 have hC:=yl hR1 (.slice none 0 0) (.slice none 0 0) (.int .i64 0) (.slice none 0 0)
 replace hC:=Lib.hid hC
 replace hP:=Lib.hid hP
 go_wp2_with fail
 generalize((((W1.setCell ⟨w.heap.size+1,0,none⟩ (.slice none 0 0)).setCell ⟨w.heap.size+1,1,none⟩ (.slice none 0 0)).setCell ⟨w.heap.size+1,2,none⟩ (.int .i64 0)).setCell ⟨w.heap.size+1,3,none⟩ (.slice none 0 0))=Wf at hP hC ⊢
 have z0:=hC.out.cell (j:=0) (v:=.slice none 0 0) rfl
 have z1:=hC.out.cell (j:=1) (v:=.slice none 0 0) rfl
 have z2:=hC.out.cell (j:=2) (v:=.int .i64 0) rfl
 have z3:=hC.out.cell (j:=3) (v:=.slice none 0 0) rfl
 exact bodyPost_ret (v:=.tuple #[.agg #[.slice none 0 0,.slice none 0 0,.int .i64 0,.slice none 0 0],.bool false]) (by simp[results,Tryz.results143,go_sem,z0,z1,z2,z3]) rfl hP.out
def ym(v:SlV×SlV×SlV×Int):List Value:=[.slice v.1.a v.1.n v.1.c,.slice v.2.1.a v.2.1.n v.2.1.c,.int .i64 v.2.2.2,.slice v.2.2.1.a v.2.2.1.n v.2.2.1.c]
def OpsO(w0 W:World)(s:SlV)(os:List OpR):Prop:=
 ∃vs:List (SlV×SlV×SlV×Int),vs.length=os.length/\W.ownsRow w0.heap.size 167 4 s.v os.length (vs.flatMap ym)/\∀ (i:Nat) v o,vs[i]?=some v->os[i]?=some o->v.2.2.2=o.tie/\Xn W v.1 v.2.1 v.2.2.1 o
theorem Xn.below{W W':World}{dv uv kv:SlV}{o:OpR}(h:Xn W dv uv kv o)(hb:Below W.heap.size W W'):Xn W' dv uv kv o:=⟨h.d.below hb,h.dn,h.dz,h.uses.below hb,h.clob.below hb,h.cn⟩
theorem OpsO.below{w0 W W':World}{s:SlV}{os:List OpR}(h:OpsO w0 W s os)(hb:Below W.heap.size W W'):OpsO w0 W' s os:=by
 obtain⟨vs,h1,h2,h3⟩:=h
 exact⟨vs,h1,qb h2 hb,fun i v o hv ho=>⟨(h3 i v o hv ho).1,(h3 i v o hv ho).2.below hb⟩⟩
theorem OpsO.nil(w0 W:World):OpsO w0 W ⟨none,0,0⟩ []:=⟨[],rfl,World.ownsRow_nil _ _ _ _,fun i v o hv _=>by simp at hv⟩
theorem qQ.grown{base T j:Nat}{t e:TypeId}{size:Nat}{cs:Array Value}{v':Value}{m:Nat}{ys:List Value}{W W7:World}(h:yG base T j t e size cs v' m ys W W7)(hT:Cells W T t cs){s:SlV}{ls:List (List Int)}(hs:qQ W s ls)(he:3≠e)(ht:3≠t)(he2:41≠e)(ht2:41≠t):qQ W7 s ls:=by
 obtain⟨vs,h1,h2,h3⟩:=hs
 exact⟨vs,h1,xo h hT h2 he2 ht2,fun i v l hv hl=>⟨(h3 i v l hv hl).1.grown h hT he ht,(h3 i v l hv hl).2⟩⟩
theorem ListsO.grown{w0:World}{base T j:Nat}{t e:TypeId}{size:Nat}{cs:Array Value}{v':Value}{m:Nat}{ys:List Value}{W W7:World}(h:yG base T j t e size cs v' m ys W W7)(hT:Cells W T t cs){s:SlV}{ls:List (List Int)}(hs:ListsO w0 W s ls)(he:3≠e)(ht:3≠t)(he2:41≠e)(ht2:41≠t):ListsO w0 W7 s ls:=by
 obtain⟨vs,h1,h2,h3⟩:=hs
 exact⟨vs,h1,xo h hT h2 he2 ht2,fun i v l hv hl=>⟨(h3 i v l hv hl).1.grown h hT he ht,(h3 i v l hv hl).2⟩⟩
theorem Xn.grown{base T j:Nat}{t e:TypeId}{size:Nat}{cs:Array Value}{v':Value}{m:Nat}{ys:List Value}{W W7:World}(h:yG base T j t e size cs v' m ys W W7)(hT:Cells W T t cs){dv uv kv:SlV}{o:OpR}(hs:Xn W dv uv kv o)(he:3≠e)(ht:3≠t)(he2:41≠e)(ht2:41≠t):Xn W7 dv uv kv o:=
 ⟨hs.d.grown h hT he ht,hs.dn,hs.dz,hs.uses.grown h hT he ht he2 ht2,hs.clob.grown h hT he ht,hs.cn⟩
theorem Ya(ns:List ByteArray)(ps:List Plc)(cs:List ClassD)(os:List OpD)(k:Nat)(x:OpD)(hx:os[k]?=some x) :
 zu ns ps cs (os.take k) (os.drop k)=if zH ns ps cs (os.take k) x=0 then zu ns ps cs (os.take (k+1)) (os.drop (k+1)) else zH ns ps cs (os.take k) x:=by
 have hlt:k<os.length:=(List.getElem?_eq_some_iff.1 hx).1
 rw[List.drop_eq_getElem_cons hlt,List.take_add_one,hx]
 have:os[k]=x:=(List.getElem?_eq_some_iff.1 hx).2
 rw[this];rfl
theorem Zh(s:ByteArray):arityN s<=2:=by
 unfold arityN;split
 ·exact Nat.le_refl _
 ·split <;> omega
def YK[Inhabited Ghost](w0:World)(C:Nat)(cV:SlV)(cc:SlV->CV)(ns:List ByteArray)(ps:List Plc)(cs:List ClassD)(os:List OpD)(e:Ending)(w':World):Prop:=
 e = .returned (.int .i64 (opsS ns ps cs os))/\Below w0.heap.size w0 w'/\(opsS ns ps cs os=0->∃oV,St w0 w' C (cc oV) ns ps/\ListsO w0 w' cV (clsOf ns cs)/\OpsO w0 w' oV (os.map (opR ns cs)))
theorem Tryz.infoOpR:(Tryz.prog.info? 167).map (fun i=>(i.zero,i.size,i.bytes))=some (some (.agg #[.slice none 0 0,.slice none 0 0,.int .i64 0,.slice none 0 0]),4,80):=by kernel_rfl
theorem St.set[Inhabited Ghost]{w0 W:World}{C j:Nat}{c c':CV}{ns:List ByteArray}{ps:List Plc}{v:Value}(h:St w0 W C c ns ps)(hc:c'.cells=c.cells.setIfInBounds j v)(hn:c'.names=c.names)(hp:c'.places=c.places):St w0 (W.setCell ⟨C,j,none⟩ v) C c' ns ps:=by
 refine⟨h.below.setCell (p:=⟨C,j,none⟩) h.base v,h.base,?_,?_,?_,h.few,h.same,h.ok,(Below.heap_setCell W ⟨C,j,none⟩ v _ (h.fns_ne)).trans h.fns⟩
 ·show Cells _ C 132 c'.cells
  rw[hc];exact Cells.set h.chk v
 ·rw[hn];exact row_set h.chk h.names (by decide) j v
 ·rw[hp];exact row_set h.chk h.places (by decide) j v
theorem qQ.set{W:World}{b:Nat}{t:TypeId}{cs:Array Value}(hC:Cells W b t cs){s:SlV}{ls:List (List Int)}(h:qQ W s ls)(h1:3≠t)(h2:41≠t)(j:Nat)(v:Value):qQ (W.setCell ⟨b,j,none⟩ v) s ls:=by
 obtain⟨vs,a,b',c⟩:=h
 exact⟨vs,a,row_set hC b' h2 j v,fun i v' l hv hl=>⟨row_set hC (c i v' l hv hl).1 h1 j v,(c i v' l hv hl).2⟩⟩
theorem ListsO.set{w0 W:World}{b:Nat}{t:TypeId}{cs:Array Value}(hC:Cells W b t cs){s:SlV}{ls:List (List Int)}(h:ListsO w0 W s ls)(h1:3≠t)(h2:41≠t)(j:Nat)(v:Value):ListsO w0 (W.setCell ⟨b,j,none⟩ v) s ls:=by
 obtain⟨vs,a,b',c⟩:=h
 exact⟨vs,a,row_set hC b' h2 j v,fun i v' l hv hl=>⟨row_set hC (c i v' l hv hl).1 h1 j v,(c i v' l hv hl).2⟩⟩
theorem OpsO.set{w0 W:World}{b:Nat}{t:TypeId}{cs:Array Value}(hC:Cells W b t cs){s:SlV}{os:List OpR}(h:OpsO w0 W s os)(h1:3≠t)(h2:41≠t)(h3:167≠t)(j:Nat)(v:Value):OpsO w0 (W.setCell ⟨b,j,none⟩ v) s os:=by
 obtain⟨vs,a,b',c⟩:=h
 exact⟨vs,a,row_set hC b' h3 j v,fun i v' l hv hl=>⟨(c i v' l hv hl).1,by
  obtain⟨d,dn,dz,u,k,kn⟩:=(c i v' l hv hl).2
  exact⟨row_set hC d h1 j v,dn,dz,u.set hC h1 h2 j v,row_set hC k h1 j v,kn⟩⟩⟩
structure Rd[Inhabited Ghost](w0 w:World)(C:Nat)(c:CV)(ns:List ByteArray)(ps:List Plc)(cls:List (List Int))(os:List OpR):Prop where
 st:St w0 w C c ns ps
 cls:ListsO w0 w c.classes cls
 ops:OpsO w0 w c.ops os
theorem Rd.step[Inhabited Ghost]{w0 w w':World}{C:Nat}{c:CV}{ns:List ByteArray}{ps:List Plc}{cls:List (List Int)}{os:List OpR}(h:Rd w0 w C c ns ps cls os)(hb:Below w.heap.size w w'):Rd w0 w' C c ns ps cls os:=⟨h.st.step hb,h.cls.below hb,h.ops.below hb⟩
theorem Rd.set[Inhabited Ghost]{w0 W:World}{C j:Nat}{c c':CV}{ns:List ByteArray}{ps:List Plc}{cls:List (List Int)}{os:List OpR}{v:Value}(h:Rd w0 W C c ns ps cls os)(hc:c'.cells=c.cells.setIfInBounds j v)(hn:c'.names=c.names)(hp:c'.places=c.places)(hk:c'.classes=c.classes)(ho:c'.ops=c.ops):Rd w0 (W.setCell ⟨C,j,none⟩ v) C c' ns ps cls os:=
 ⟨h.st.set hc hn hp,by rw[hk];exact h.cls.set h.st.chk (by decide) (by decide) j v,by rw[ho];exact h.ops.set h.st.chk (by decide) (by decide) (by decide) j v⟩
def KeptBut(C:Nat)(W W':World):Prop:=∀b,b<W.heap.size->b≠C->W'.heap[b]?=W.heap[b]?
theorem KeptBut.row{C:Nat}{W W':World}{t:TypeId}{cs:Array Value}(h:KeptBut C W W')(hC:Cells W C t cs){base:Nat}{e:TypeId}{size k:Nat}{v:Value}{xs:List Value}(hr:W.ownsRow base e size v k xs)(he:e≠t):W'.ownsRow base e size v k xs:=by
 refine⟨hr.1,?_⟩
 rcases hr.2 with h3|⟨g,cap,cur,e1,e2,e3,e4⟩
 ·exact .inl h3
 ·refine .inr ⟨g,cap,cur,e1,e2,(h g (qm e3) (fun eg=>?_)).trans e3,e4⟩
  subst eg
  have:=(show W.heap[g]?=_ from e3).symm.trans (show W.heap[g]?=_ from hC)
  cases this;exact he rfl
theorem KeptBut.lists{C:Nat}{W W':World}{t:TypeId}{cs:Array Value}(h:KeptBut C W W')(hC:Cells W C t cs){s:SlV}{ls:List (List Int)}(hl:qQ W s ls)(h1:3≠t)(h2:41≠t):qQ W' s ls:=by
 obtain⟨vs,a,b',c⟩:=hl
 exact⟨vs,a,h.row hC b' h2,fun i v' l hv hl=>⟨h.row hC (c i v' l hv hl).1 h1,(c i v' l hv hl).2⟩⟩
theorem Rd.kept[Inhabited Ghost]{w0 W W':World}{C:Nat}{c c':CV}{ns:List ByteArray}{ps:List Plc}{cls:List (List Int)}{os:List OpR}(h:Rd w0 W C c ns ps cls os)(hk:KeptBut C W W')(hB:Below w0.heap.size w0 W')(hC:ChkAt W' C c')(hn:c'.names=c.names)(hp:c'.places=c.places)(hkl:c'.classes=c.classes)(ho:c'.ops=c.ops):Rd w0 W' C c' ns ps cls os:=by
 refine⟨⟨hB,h.st.base,hC,by rw[hn];exact hk.row h.st.chk h.st.names (by decide),by rw[hp];exact hk.row h.st.chk h.st.places (by decide),h.st.few,h.st.same,h.st.ok,(hk _ h.st.fns.lt h.st.fns_ne).trans h.st.fns⟩,?_,?_⟩
 ·rw[hkl]
  obtain⟨vs,a,b',c⟩:=h.cls
  exact⟨vs,a,hk.row h.st.chk b' (by decide),fun i v' l hv hl=>⟨hk.row h.st.chk (c i v' l hv hl).1 (by decide),(c i v' l hv hl).2⟩⟩
 ·rw[ho]
  obtain⟨vs,a,b',c⟩:=h.ops
  refine⟨vs,a,hk.row h.st.chk b' (by decide),fun i v' l hv hl=>⟨(c i v' l hv hl).1,?_⟩⟩
  obtain⟨d,dn,dz,u,k,kn⟩:=(c i v' l hv hl).2
  exact⟨hk.row h.st.chk d (by decide),dn,dz,hk.lists h.st.chk u (by decide) (by decide),hk.row h.st.chk k (by decide),kn⟩
theorem KeptBut.below{C:Nat}{W W1 W2:World}(h:KeptBut C W W1)(hs:W.heap.size<=W1.heap.size)(hb:Below W1.heap.size W1 W2):KeptBut C W W2:=fun b hlt hne=>(hb.block b (Nat.lt_of_lt_of_le hlt hs)).trans (h b hlt hne)
theorem KeptBut.set{C j:Nat}{v:Value}{W W1:World}(h:KeptBut C W W1):KeptBut C W (W1.setCell ⟨C,j,none⟩ v):=fun b hlt hne=>(Below.heap_setCell W1 ⟨C,j,none⟩ v b hne).trans (h b hlt hne)
theorem KeptBut.grown{C:Nat}{W W1 W2:World}{row:Option Nat}(h:KeptBut C W W1)(hs:W.heap.size<=W1.heap.size)(hg:W1.grownBy W2 row)(hr:∀b,row=some b->W.heap.size<=b):KeptBut C W W2:=fun b hlt hne=>
 (hg.block b (Nat.lt_of_lt_of_le hlt hs) (fun e=>by have:=hr b e.symm;omega)).trans (h b hlt hne)
theorem ZH{ops:Array Oper}{rest:List Oper}{o:Oper}{a:Act}{Q:Exit->Act->World->Prop}{w:World}(s x:Operand)(t:TypeId)
 (ho:o.op = .call { callee:=.builtin .append,args:=#[s,x],argTypes:=#[t,t] }) (hw:Region.wanted o (yielded ops a.tmps)=true)
 (base:Nat) (e:TypeId) (i:TypeInfo) (z:Value) (size bytes:Nat) (ht:Tryz.prog.underlying t=some (.slice e)) (hi:Tryz.prog.info? e=some i) (hz:i.zero=some z)
 (hsize:i.size=size) (hby:i.bytes=bytes) (hzs:z.cells.size=size) (hsz:0<size)
 (v:Value) (n:Nat) (xs:List Value) (hs:a.eval s=v) (hown:w.ownsRow base e size v n xs)
 (ad:Addr) (m c:Nat) (news:List Value) (hx:a.eval x = .slice (some ad) m c) (hl:news.length=m*size) (hnews:∀j u,news[j]?=some u->w.cell? (ad.add j)=some u) (h1:∀u∈news,u.oneCell'=true)
 (hm:0<m) (h63:n+m<=maxLen) (hbytes:(n+m)*bytes<=140737488355328) (hbase:base<=w.heap.size)
 (h:∀g cap w',w'.ownsRow base e size (.slice (some ⟨g,0,none⟩) (n+m) cap) (n+m) (xs++news)->w.grownBy w' v.ownBlock->(v.ownBlock=some g∨g=w.heap.size)->wpList Tryz.prog ops Q rest (a.put o.dst (.slice (some ⟨g,0,none⟩) (n+m) cap)) w') :
 wpList Tryz.prog ops Q (o::rest) a w:=
 wpList_step fun K hK=>by
  rw[if_pos hw]
  exact wp_append_lies w s x t ho base e i z size bytes ht hi hz hsize hby hzs hsz v n xs hs hown ad m c news hx hl hnews h1 hm h63 hbytes hbase _ rfl fun g cap w' h2 h3 h4 _=>hK _ _ (h g cap w' h2 h3 h4)
def ConvPost[Inhabited Ghost](w0:World)(C:Nat)(cc:SlV->Int->CV)(ns:List ByteArray)(ps:List Plc)(cls:List (List Int))(os:List OpR)(args:List ByteArray)(result:ByteArray)(fine:Bool)(e:Ending)(w':World):Prop:=
 (fine=false/\e = .returned (.int .i64 10)/\Below w0.heap.size w0 w')∨(fine=true/\e = .returned (.int .i64 0)/\∃aV,Rd w0 w' C (cc aV (regN ns result)) ns ps cls os/\w'.ownsRow w0.heap.size 3 1 aV.v (regsL ns args).length ((regsL ns args).map (Value.int .i64))/\args.length<=16/\(regsL ns args).contains (-1)=false/\0<=regN ns result /\
   ∃W1 aV0 r0,Rd w0 W1 C (cc aV0 r0) ns ps cls os/\KeptBut C W1 w'/\W1.heap.size<=w'.heap.size/\∀b,aV.v.ownBlock=some b->W1.heap.size<=b)
theorem QN[Inhabited Ghost](C:Nat)(mn rs:ByteArray)(rg kl op ar sv:SlV)(sl:Int)(nV pV cV oV aV0:SlV)(r0:Int)(ns:List ByteArray)(ps:List Plc)(cls:List (List Int))(os:List OpR)(args saved:List ByteArray)(w0 w:World)
 (hR:Rd w0 w C ⟨⟨mn,rg,kl,op,ar,rs,sv,sl⟩,nV,pV,cV,oV,aV0,r0⟩ ns ps cls os) (ha:StrsAt w0 ar args) (hs:StrsAt w0 sv saved) :
 Calls Tryz.prog 101 #[.pointer (some ⟨C,0,none⟩)] w (ConvPost w0 C (fun aV r=>⟨⟨mn,rg,kl,op,ar,rs,sv,sl⟩,nV,pV,cV,oV,aV,r⟩) ns ps cls os args rs (qs ns ps args rs saved sl)):=by
 have hB:=hR.st.below
 have hlt:=hR.st.chk.lt
 have c4:=hR.st.chk.cell (j:=4) (v:=.slice ar.a ar.n ar.c) rfl
 have K1:=jN C _ ns ar args 16 w (by decide) (by decide) hR.st.chk hR.st.namesAt (ha.below hB)
 have K2:∀W,Below w.heap.size w W->Calls Tryz.prog 137 #[.pointer (some ⟨C,0,none⟩),.slice sv.a sv.n sv.c,.int .i64 64] W (RegsPost ns saved 64 W):=fun W hb=>jN C _ ns sv saved 64 W (by decide) (by decide) (hR.step hb).st.chk (hR.step hb).st.namesAt (hs.below (hR.step hb).st.below)
 have K3:∀W,Below w.heap.size w W->Calls Tryz.prog 136 #[.pointer (some ⟨C,0,none⟩),.string rs] W fun e w'=>e = .returned (.int .i64 (regN ns rs))/\Below W.heap.size W w':=fun W hb=>Xt C _ ns rs W (hR.step hb).st.chk (hR.step hb).st.namesAt
 have hR':=Lib.hid hR
 clear hR ha hs
 go_enter Tryz.func101,Tryz.ntmps101
 go_wp2_with (first
  |(go_at_call 137;refine K1.mono ?_;clear K1;rintro e W1 ⟨a1,rfl,hb1,hI1⟩;have hR1:=hR'.out.step hb1;have c6:=hR1.st.chk.cell (j:=6) (v:=.slice sv.a sv.n sv.c) rfl)
  |(go_at_call 137;refine(K2 _ hb1).mono ?_;clear K2;rintro e W2 ⟨s2,rfl,hb2,hI2⟩;have hR2:=hR1.step hb2;have c5:=hR2.st.chk.cell (j:=5) (v:=.string rs) rfl;have hb2':=hb1.trans (hb2.mono hb1.size)))
 go_at_call 136
 refine(K3 _ hb2').mono ?_
 rintro e W3 ⟨rfl,hb3⟩
 have hR3:=hR2.step hb3
 have c12:=hR3.st.chk.cell (j:=12) (v:=.slice aV0.a aV0.n aV0.c) rfl
 have c13:=hR3.st.chk.cell (j:=13) (v:=.int .i64 r0) rfl
 have f12:=hR3.st.chk.frozen 12
 have f13:=hR3.st.chk.frozen 13
 have hR4:=hR3.set (j:=12) (v:=.slice a1.a a1.n a1.c) (c':=⟨⟨mn,rg,kl,op,ar,rs,sv,sl⟩,nV,pV,cV,oV,a1,r0⟩) rfl rfl rfl rfl rfl
 have hR5:=hR4.set (j:=13) (v:=.int .i64 (regN ns rs)) (c':=⟨⟨mn,rg,kl,op,ar,rs,sv,sl⟩,nV,pV,cV,oV,a1,regN ns rs⟩) rfl rfl rfl rfl rfl
 have hset:∀ (s:SlV) (l:List Int),IntsR W3 s l->IntsR ((W3.setCell ⟨C,12,none⟩ (.slice a1.a a1.n a1.c)).setCell ⟨C,13,none⟩ (.int .i64 (regN ns rs))) s l:=fun s l h=>row_set hR4.st.chk (row_set hR3.st.chk h (by decide) 12 _) (by decide) 13 _
 have hA:args.length<=16->IntsR ((W3.setCell ⟨C,12,none⟩ (.slice a1.a a1.n a1.c)).setCell ⟨C,13,none⟩ (.int .i64 (regN ns rs))) a1 (regsL ns args):=fun h=>by
  have h1:=hI1 (by omega)
  rw[show args.length=(regsL ns args).length by simp[regsL]] at h1
  exact hset _ _ (((show IntsR W1 a1 _ from qj h1 (Nat.zero_le _)).below hb2).below hb3)
 have hSv:saved.length<=64->((W3.setCell ⟨C,12,none⟩ (.slice a1.a a1.n a1.c)).setCell ⟨C,13,none⟩ (.int .i64 (regN ns rs))).ownsRow w0.heap.size 3 1 s2.v (regsL ns saved).length ((regsL ns saved).map (Value.int .i64)):=fun h=>by
  have h1:=hI2 (by omega)
  rw[show saved.length=(regsL ns saved).length by simp[regsL]] at h1
  have h2:=qj h1 hR1.st.below.size
  exact row_set hR4.st.chk (row_set hR3.st.chk (qb h2 hb3) (by decide) 12 _) (by decide) 13 _
 have hR1':=Lib.hid hR1
 have hA1:args.length<=16->W1.ownsRow w.heap.size 3 1 a1.v (regsL ns args).length ((regsL ns args).map (Value.int .i64)):=fun h=>by
  have h1:=hI1 (by omega)
  rw[show args.length=(regsL ns args).length by simp[regsL]] at h1
  exact h1
 have hW1:w0.heap.size<=w.heap.size:=hR'.out.st.below.size
 have hB1:=Lib.hid hb1
 have hs2b:saved.length<=64->∀b,s2.v.ownBlock=some b->W1.heap.size<=b:=fun h b hb=>(qd (hI2 (by omega)) hb).1
 have hk5:KeptBut C W1 ((W3.setCell ⟨C,12,none⟩ (.slice a1.a a1.n a1.c)).setCell ⟨C,13,none⟩ (.int .i64 (regN ns rs))):=by
  have h0:KeptBut C W1 W1:=fun _ _ _=>rfl
  exact((((h0.below (Nat.le_refl _) hb2).below hb2.size hb3)).set).set
 have hz5:W1.heap.size<=((W3.setCell ⟨C,12,none⟩ (.slice a1.a a1.n a1.c)).setCell ⟨C,13,none⟩ (.int .i64 (regN ns rs))).heap.size:=by
  have h1:=hb2.size
  have h2:=hb3.size
  simp;omega
 replace hA1:=Lib.hid hA1
 replace hs2b:=Lib.hid hs2b
 replace hk5:=Lib.hid hk5
 replace hz5:=Lib.hid hz5
 replace hR5:=Lib.hid hR5
 replace hA:=Lib.hid hA
 replace hSv:=Lib.hid hSv
 clear hI1 hI2 hset hR4 hR3 hR2 hR1 c4 c5 c6 K3 hb1 hb2 hb3 hb2' hB
 have hno:qs ns ps args rs saved sl=false->∀W,Below w0.heap.size w0 W->ConvPost w0 C (fun aV r=>⟨⟨mn,rg,kl,op,ar,rs,sv,sl⟩,nV,pV,cV,oV,aV,r⟩) ns ps cls os args rs (qs ns ps args rs saved sl) (.returned (.int .i64 10)) W:=fun h W hb=>.inl ⟨h,rfl,hb⟩
 replace hno:=Lib.hid hno
 have hconv:Hid (qs ns ps args rs saved sl=((regsOk ns args 16&&regsOk ns saved 64&&decide (0<=regN ns rs)&&decide (0<=sl)&&decide (sl<=1000))&&(apartB ps (regsL ns args)&&apartB ps (regsL ns saved++[regN ns rs])))):=Lib.hid rfl
 have hBw:=hR5.out.st.below
 cases h1:regsOk ns args 16 with
 |false=>
  have hf:Hid (qs ns ps args rs saved sl=false):=Lib.hid (by rw[hconv.out,h1];rfl)
  clear h1
  go_wp2_with fail
  go_ret
  exact hno.out hf.out _ hBw
 |true=>
  cases h2:regsOk ns saved 64 with
  |false=>
   have hf:Hid (qs ns ps args rs saved sl=false):=Lib.hid (by rw[hconv.out,h1,h2];rfl)
   clear h1 h2
   go_wp2_with fail
   go_ret
   exact hno.out hf.out _ hBw
  |true=>
   have ho1:args.length<=16/\(regsL ns args).contains (-1)=false:=by unfold regsOk at h1;simpa using h1
   have ho2:saved.length<=64/\(regsL ns saved).contains (-1)=false:=by unfold regsOk at h2;simpa using h2
   have hc2:Hid (qs ns ps args rs saved sl=((decide (0<=regN ns rs)&&decide (0<=sl)&&decide (sl<=1000))&&(apartB ps (regsL ns args)&&apartB ps (regsL ns saved++[regN ns rs])))):=Lib.hid (by rw[hconv.out,h1,h2];simp)
   clear h1 h2 hconv
   by_cases h3:regN ns rs<0
   ·have hf:Hid (qs ns ps args rs saved sl=false):=Lib.hid (by rw[hc2.out,decide_eq_false (by omega:¬ 0<=regN ns rs)];rfl)
    clear ho1 ho2
    go_wp2_with fail
    go_ret
    exact hno.out hf.out _ hBw
   by_cases h4:sl<0
   ·have hf:Hid (qs ns ps args rs saved sl=false):=Lib.hid (by rw[hc2.out,decide_eq_false (by omega:¬ 0<=sl)];simp)
    clear ho1 ho2
    have c7:=hR5.out.st.chk.cell (j:=7) (v:=.int .i64 sl) rfl
    go_wp2_with fail
    go_ret
    exact hno.out hf.out _ hBw
   by_cases h5:1000<sl
   ·have hf:Hid (qs ns ps args rs saved sl=false):=Lib.hid (by rw[hc2.out,decide_eq_false (by omega:¬ sl<=1000)];simp)
    clear ho1 ho2
    have c7:=hR5.out.st.chk.cell (j:=7) (v:=.int .i64 sl) rfl
    go_wp2_with fail
    go_ret
    exact hno.out hf.out _ hBw
   have hc3:Hid (qs ns ps args rs saved sl=(apartB ps (regsL ns args)&&apartB ps (regsL ns saved++[regN ns rs]))):=Lib.hid (by
    rw[hc2.out,decide_eq_true (by omega:0<=regN ns rs),decide_eq_true (by omega:0<=sl),decide_eq_true (by omega:sl<=1000)];simp)
   clear hc2
   have c7:=hR5.out.st.chk.cell (j:=7) (v:=.int .i64 sl) rfl
   have c13':=hR5.out.st.chk.cell (j:=13) (v:=.int .i64 (regN ns rs)) rfl
   have hA':=hA.out ho1.1
   have hS':=hSv.out ho2.1
   have hsl:(regsL ns saved).length<=64:=by have:=ho2.1;simp[regsL];omega
   go_wp2_with fail
   generalize((W3.setCell ⟨C,12,none⟩ (.slice a1.a a1.n a1.c)).setCell ⟨C,13,none⟩ (.int .i64 (regN ns rs)))=W5 at hR5 hA hSv hA' hS' hBw c7 c13' hk5 hz5 ⊢
   have hRd:=hR5.out
   have Kp:=ZD C _ ps a1 (regsL ns args) W5 hRd.st.chk hRd.st.placesAt hA'.at_ (by have:=hA'.len;have:=ho1.1;simp[regsL] at *;omega) (jd hRd.st.same ho1.2)
   go_at_call 144
   refine Kp.mono ?_
   clear Kp
   rintro e W6 ⟨rfl,hb6⟩
   cases hq:apartB ps (regsL ns args) with
   |false=>
    have hf:Hid (qs ns ps args rs saved sl=false):=Lib.hid (by rw[hc3.out,hq];rfl)
    clear hq ho1 ho2 hRd
    go_wp2_with fail
    go_ret
    exact hno.out hf.out _ (hBw.trans (hb6.mono hBw.size))
   |true=>
    have hc4:Hid (qs ns ps args rs saved sl=apartB ps (regsL ns saved++[regN ns rs])):=Lib.hid (by rw[hc3.out,hq];rfl)
    have hR6:=hRd.step hb6
    have hS6:=qb hS' hb6
    have c13'':=hR6.st.chk.cell (j:=13) (v:=.int .i64 (regN ns rs)) rfl
    have hk6:=hk5.out.below hz5.out hb6
    have hz6:W1.heap.size<=W6.heap.size:=Nat.le_trans hz5.out hb6.size
    have hb06:=hR6.st.below.size
    have hKp2:∀W8 g cap,W8.ownsRow w0.heap.size 3 1 (.slice (some ⟨g,0,none⟩) ((regsL ns saved).length+1) cap) ((regsL ns saved).length+1) ((regsL ns saved).map (Value.int .i64)++[.int .i64 (regN ns rs)])->(W6.alloc (.cells #[.int .i64 (regN ns rs)] 3)).grownBy W8 s2.v.ownBlock ->
     Rd w0 W8 C ⟨⟨mn,rg,kl,op,ar,rs,sv,sl⟩,nV,pV,cV,oV,a1,regN ns rs⟩ ns ps cls os/\(W8.ownsRow w0.heap.size 3 1 a1.v (regsL ns args).length ((regsL ns args).map (Value.int .i64))/\KeptBut C W1 W8/\W1.heap.size<=W8.heap.size) /\
     Calls Tryz.prog 144 #[.pointer (some ⟨C,0,none⟩),.slice (some ⟨g,0,none⟩) ((regsL ns saved).length+1) cap] W8 fun e w'=>e = .returned (.bool (apartB ps (regsL ns saved++[regN ns rs])))/\Below W8.heap.size W8 w':=fun W8 g cap hown hg=>by
     have hal:Below W6.heap.size W6 (W6.alloc (.cells #[.int .i64 (regN ns rs)] 3)):=qe
     have hk7:=hk6.below hz6 hal
     have hk8:=hk7.grown (Nat.le_trans hz6 hal.size) hg (hs2b.out ho2.1)
     have hchk:ChkAt W8 C ⟨⟨mn,rg,kl,op,ar,rs,sv,sl⟩,nV,pV,cV,oV,a1,regN ns rs⟩:=((show Cells W6 C _ _ from hR6.st.chk).alloc _).kept_row (hS6.alloc _) hg (by decide)
     have hB8:Below w0.heap.size w0 W8:=(hR6.st.below.alloc hb06 _).grown hg (by simp;omega) (fun i e=>(qd hS6 e).1)
     have hRd8:=hR1'.out.kept hk8 hB8 hchk rfl rfl rfl rfl
     have hA8:=hk8.row hR1'.out.st.chk (qj (hA1.out ho1.1) hW1) (by decide)
     refine⟨hRd8,⟨hA8,hk8,Nat.le_trans (Nat.le_trans hz6 hal.size) hg.size⟩,?_⟩
     have hown':W8.ownsRow w0.heap.size 3 1 (SlV.v ⟨some ⟨g,0,none⟩,(regsL ns saved).length+1,cap⟩) (regsL ns saved++[regN ns rs]).length ((regsL ns saved++[regN ns rs]).map (Value.int .i64)):=by
      rw[List.length_append,List.map_append];exact hown
     exact ZD C _ ps ⟨some ⟨g,0,none⟩,(regsL ns saved).length+1,cap⟩ _ W8 hRd8.st.chk hRd8.st.placesAt (IntsAt.of_row hown' rfl) (by show _+1<_;omega) (fun x hx=>by
      rcases List.mem_append.1 hx with hx|hx
      ·exact jd hRd8.st.same ho2.2 x hx
      ·obtain rfl:x=regN ns rs:=by simpa using hx
       have:=qA ns rs
       have:=hRd8.st.same
       exact⟨by omega,by omega⟩)
    replace hKp2:=Lib.hid hKp2
    obtain⟨j0,hj0,hj1,hj2,hj3⟩:=info_parts Tryz.infoInt
    have hfin:∀W8 W9,Rd w0 W8 C ⟨⟨mn,rg,kl,op,ar,rs,sv,sl⟩,nV,pV,cV,oV,a1,regN ns rs⟩ ns ps cls os->(W8.ownsRow w0.heap.size 3 1 a1.v (regsL ns args).length ((regsL ns args).map (Value.int .i64))/\KeptBut C W1 W8/\W1.heap.size<=W8.heap.size)->Below W8.heap.size W8 W9->apartB ps (regsL ns saved++[regN ns rs])=true->ConvPost w0 C (fun aV r=>⟨⟨mn,rg,kl,op,ar,rs,sv,sl⟩,nV,pV,cV,oV,aV,r⟩) ns ps cls os args rs (qs ns ps args rs saved sl) (.returned (.int .i64 0)) W9:=fun W8 W9 h1 h2 h3 h4=>
     .inr ⟨by rw[hc4.out,h4],rfl,a1,h1.step h3,qb h2.1 h3,ho1.1,ho1.2,by omega,w,aV0,r0,hR'.out,fun b hb hne=>((h2.2.1.below h2.2.2 h3) b (Nat.lt_of_lt_of_le hb hB1.out.size) hne).trans (hB1.out.block b hb),
      Nat.le_trans hB1.out.size (Nat.le_trans h2.2.2 h3.size),fun b hb=>(qd (hA1.out ho1.1) hb).1⟩
    replace hfin:=Lib.hid hfin
    have ho1':=Lib.hid ho1
    have ho2':=Lib.hid ho2
    generalize hsvl:(regsL ns saved).length=svn at *
    replace hsvl:=Lib.hid hsvl
    clear hq ho1 ho2 hRd hR6 hk6 hA' hS'
    go_wp2_with (first
     |(at_builtin;go_loud (refine ZH _ _ 41 rfl (by rfl) w0.heap.size 3 j0 _ 1 8 Tryz.underlying41 hj0 hj1 hj2 hj3 rfl (by decide) s2.v svn ((regsL ns saved).map (Value.int .i64)) rfl (hS6.alloc _) ⟨W6.heap.size,0,none⟩ 1 1 [.int .i64 (regN ns rs)] rfl rfl (qF _ _ _ _ rfl) (by simp[Value.oneCell']) (by decide) (by unfold maxLen;omega) (by omega) (by simp;omega) ?_;intro g cap W8 hown hgrow _;obtain⟨hR8,hA8,Kp2⟩:=hKp2.out W8 g cap hown hgrow;replace hR8:=Lib.hid hR8))
     | fail)
    go_at_call 144
    refine Kp2.mono ?_
    clear Kp2
    rintro e W9 ⟨rfl,hb9⟩
    cases hq2:apartB ps (regsL ns saved++[regN ns rs]) with
    |false=>
     have hf:Hid (qs ns ps args rs saved sl=false):=Lib.hid (by rw[hc4.out,hq2])
     clear hq2
     go_wp2_with fail
     go_ret
     exact hno.out hf.out _ (hR8.out.st.below.trans (hb9.mono hR8.out.st.below.size))
    |true=>
     have hq3:=Lib.hid hq2
     clear hq2
     go_wp2_with fail
     go_ret
     exact hfin.out _ _ hR8.out hA8 hb9 hq3.out
def hasI(x:Int)(l:List Int):Bool:=l.contains x
theorem qhi(bx:Nat)(s:SlV)(l:List Int)(x:Int)(w:World)(hx:w.cell? ⟨bx,0,none⟩=some (.int .i64 x))(hl:IntsAt w s l)(hbig:s.n<4611686018427387904) :
 Calls Tryz.prog 146 #[.slice s.a s.n s.c,.pointer (some ⟨bx,0,none⟩)] w fun e w'=>e = .returned (.bool (hasI x l))/\w=w':=by
 have K:=jw s l x w hl hbig
 rw[show l.contains x=hasI x l from rfl] at K
 generalize hasI x l=q at K ⊢
 clear hl
 go_enter Tryz.func146,Tryz.ntmps146
 go_wp2_with (go_at_call 147;refine K.mono ?_;clear K;rintro e W1 ⟨rfl,rfl⟩)
 go_ret
 exact⟨rfl,rfl⟩
theorem qeM(bx:Nat)(s:SlV)(ls:List (List Int))(x:Int)(w:World)(hx:w.cell? ⟨bx,0,none⟩=some (.int .i64 x))(hl:qQ w s ls)(hbig:ls.length<=1000) :
 Calls Tryz.prog 175 #[.slice s.a s.n s.c,.func (.func 146) #[] #[.pointer (some ⟨bx,0,none⟩)]] w fun e w'=>e = .returned (.int .i64 (idxP (hasI x) ls))/\w=w':=by
 have hlen:=hl.len
 have hget:=fun(i:Nat) (l:List Int) (h:ls[i]?=some l)=>hl.get h
 obtain⟨a,n,c⟩:=s
 dsimp only at hlen hget ⊢
 subst hlen
 replace hget:=Lib.hid hget
 clear hl
 go_enter Tryz.func175,Tryz.ntmps175
 go_wp2
 go_loop [8] (fun i=>∃k:Nat,k<=ls.length/\i = .int .i64 k/\qN (hasI x) ls k) (fun i=>ls.length-(intOf i).toNat)
 case atStart=>exact⟨0,Nat.zero_le _,rfl,qN.zero _ _⟩
 case round=>
  obtain⟨k,hk,rfl,hY⟩:=hrel
  replace hY:=Lib.hid hY
  have k0:(0:Int)<=k:=Int.natCast_nonneg _
  by_cases hlt:k<ls.length
  ·obtain⟨l,hl⟩:∃l,ls[k]?=some l:=⟨ls[k],by rw[List.getElem?_eq_getElem hlt]⟩
   obtain⟨b,o,v,rfl,hc,hI,hI2,_,_⟩:=hget.out k l hl
   have hi:IntKind.i64.wrap ((k:Int)+1)=k+1:=IntWalk.i64_in _ (by omega)
   have k1:(k:Int)<ls.length:=by omega
   have C:=qhi bx v l x w hx hI.at_ (by have:=hI.len;omega)
   replace hl:=Lib.hid hl
   clear hI hx
   by_cases hp:hasI x l=true
   ·rw[hp] at C
    replace hp:=Lib.hid hp
    go_wp2_with (go_at_call 146;refine C.mono ?_;clear C;rintro e W1 ⟨rfl,rfl⟩)
    go_ret
    exact⟨qp (hY.out.hit hl.out hp.out).symm,rfl⟩
   ·have hp':hasI x l=false:=by simpa using hp
    rw[hp'] at C
    replace hp':=Lib.hid hp'
    clear hp
    go_wp2_with (go_at_call 146;refine C.mono ?_;clear C;rintro e W1 ⟨rfl,rfl⟩)
    go_round
    case rel=>exact⟨k+1,by omega,by go_num,hY.out.succ hl.out hp'.out⟩
    case measure=>simp[intOf];omega
  ·clear hx
   go_wp2_with fail
   go_ret
   exact⟨qp (hY.out.miss (by omega)).symm,rfl⟩
theorem Jz(bx:Nat)(s:SlV)(ls:List (List Int))(x:Int)(w:World)(hx:w.cell? ⟨bx,0,none⟩=some (.int .i64 x))(hl:qQ w s ls)(hbig:ls.length<=1000) :
 Calls Tryz.prog 145 #[.slice s.a s.n s.c,.func (.func 146) #[] #[.pointer (some ⟨bx,0,none⟩)]] w fun e w'=>e = .returned (.bool (ls.any (hasI x)))/\w=w':=by
 have C:=qeM bx s ls x w hx hl hbig
 have hz:=Lib.hid (qam (hasI x) ls)
 generalize idxP (hasI x) ls=z at C hz
 clear hl hx
 go_enter Tryz.func145,Tryz.ntmps145
 go_wp2_with (go_at_call 175;refine C.mono ?_;clear C;rintro e W1 ⟨rfl,rfl⟩)
 go_ret
 exact⟨qg (by rw[←hz.out]),rfl⟩
def qdA[Inhabited Ghost](w0:World)(C:Nat)(c:CV)(ns:List ByteArray)(ps:List Plc)(cls:List (List Int))(os:List OpR)(l:List Int)(e:Ending)(w':World):Prop:=
 e = .returned (.int .i64 (if qw cls l=true then 0 else 10))/\Rd w0 w' C c ns ps cls os
theorem qeN(cls:List (List Int))(l:List Int)(k:Nat)(x:Int)(hx:l[k]?=some x):qw cls (l.drop k)=(cls.any (hasI x)&&qw cls (l.drop (k+1))):=by
 have hlt:k<l.length:=(List.getElem?_eq_some_iff.1 hx).1
 rw[List.drop_eq_getElem_cons hlt]
 have:l[k]=x:=(List.getElem?_eq_some_iff.1 hx).2
 rw[this];rfl
theorem XS[Inhabited Ghost](C:Nat)(m:MV)(nV pV cV oV aV aV0:SlV)(r r0:Int)(ns:List ByteArray)(ps:List Plc)(cls:List (List Int))(os:List OpR)(al:List Int)(w0 w W1:World)
 (hR:Rd w0 w C ⟨m,nV,pV,cV,oV,aV,r⟩ ns ps cls os) (hA:w.ownsRow w0.heap.size 3 1 aV.v al.length (al.map (Value.int .i64))) (hal:al.length<=16) (hcl:cls.length<=64)
 (hR1:Rd w0 W1 C ⟨m,nV,pV,cV,oV,aV0,r0⟩ ns ps cls os) (hk:KeptBut C W1 w) (hz:W1.heap.size<=w.heap.size) (hab:∀b,aV.v.ownBlock=some b->W1.heap.size<=b) :
 Calls Tryz.prog 102 #[.pointer (some ⟨C,0,none⟩)] w (qdA w0 C ⟨m,nV,pV,cV,oV,aV,r⟩ ns ps cls os (al++[r])):=by
 have c12:=hR.st.chk.cell (j:=12) (v:=.slice aV.a aV.n aV.c) rfl
 have c13:=hR.st.chk.cell (j:=13) (v:=.int .i64 r) rfl
 have hbs:=hR.st.below.size
 have hnC:=World.new_ne w _ c12
 have hCl:=hR.st.chk.lt
 have hKp:∀W8 g cap,W8.ownsRow w0.heap.size 3 1 (.slice (some ⟨g,0,none⟩) (al.length+1) cap) (al.length+1) (al.map (Value.int .i64)++[.int .i64 r])->((w.alloc (.cells #[.int .i64 r] 3)).drew).grownBy W8 aV.v.ownBlock ->
  Rd w0 W8 C ⟨m,nV,pV,cV,oV,aV,r⟩ ns ps cls os/\IntsR W8 ⟨some ⟨g,0,none⟩,al.length+1,cap⟩ (al++[r]):=fun W8 g cap hown hg=>by
  have hall:Below w.heap.size w ((w.alloc (.cells #[.int .i64 r] 3)).drew):=qe.drew
  have hk8:=(hk.below hz hall).grown (Nat.le_trans hz hall.size) hg hab
  have hchk:ChkAt W8 C ⟨m,nV,pV,cV,oV,aV,r⟩:=(((show Cells w C _ _ from hR.st.chk).alloc (.cells #[.int .i64 r] 3)).drew).kept_row ((hA.alloc _).drew) hg (by decide)
  have hB8:Below w0.heap.size w0 W8:=((hR.st.below.alloc hbs _).drew).grown hg (by simp;omega) (fun i e=>(qd hA e).1)
  refine⟨hR1.kept hk8 hB8 hchk rfl rfl rfl rfl,?_⟩
  have:W8.ownsRow w0.heap.size 3 1 (SlV.v ⟨some ⟨g,0,none⟩,al.length+1,cap⟩) (al++[r]).length ((al++[r]).map (Value.int .i64)):=by
   rw[List.length_append,List.map_append];exact hown
  exact qj this (Nat.zero_le _)
 replace hKp:=Lib.hid hKp
 obtain⟨j0,hj0,hj1,hj2,hj3⟩:=info_parts Tryz.infoInt
 clear hR hR1 hk hab
 go_enter Tryz.func102,Tryz.ntmps102
 go_wp2_with fail
 go_region_law (refine step_append_lies _ (by rfl) _ _ _ (by rfl) w0.heap.size 3 j0 _ 1 8 Tryz.underlying41 hj0 hj1 hj2 hj3 rfl (by omega) (.slice aV.a aV.n aV.c) al.length (al.map (Value.int .i64)) (by rfl) ((hA.alloc _).drew) ⟨w.heap.size,0,none⟩ 1 1 [.int .i64 r] (by rfl) (by rfl) (World.news_of_block (cs:=#[.int .i64 r]) (t:=3) (fr:=(0,0)) (heap_alloc_new w _)) (by simp[Value.oneCell']) (by omega) (by unfold maxLen;omega) (by omega) (by simp;omega) (w.heap.size+1) (by simp) ?_;intro g cap W8 hown1 hgrow hat hlt6)
 all_goals
  obtain⟨hR8,hI8⟩:=hKp.out W8 g cap hown1 hgrow
  clear hown1 hgrow hat hlt6 c12 c13 hnC hA hKp
  have hlen:Hid ((al++[r]).length=al.length+1):=Lib.hid (by simp)
  generalize hle:al++[r]=l at hI8 hlen ⊢
  replace hle:=Lib.hid hle
  replace hR8:=Lib.hid hR8
  have hI8':=Lib.hid hI8
  clear hI8
  have hln:(0:Int)<=((al.length+1:Nat):Int):=Int.natCast_nonneg _
  go_wp2_with fail
  simp only[Act.put,List.getElem_toArray,List.getElem_cons_succ,List.getElem_cons_zero,List.setIfInBounds_toArray,List.set_cons_zero,List.set_cons_succ]
  go_loopw [16] (fun i wr=>∃k:Nat,k<=al.length+1/\i = .int .i64 k/\Rd w0 wr C ⟨m,nV,pV,cV,oV,aV,r⟩ ns ps cls os/\IntsR wr ⟨some ⟨g,0,none⟩,al.length+1,cap⟩ l/\Hid (qw cls l=qw cls (l.drop k))) (fun i _=>al.length+1-(intOf i).toNat)
  case atStart=>exact⟨0,Nat.zero_le _,rfl,hR8.out,hI8'.out,Lib.hid (by simp)⟩
  case round=>
   clear hR8 hI8'
   obtain⟨k,hk,rfl,hR,hI,hT⟩:=hrel
   have k0:(0:Int)<=k:=Int.natCast_nonneg _
   by_cases hlt:k<al.length+1
   ·have hkl:k<l.length:=by have:=hlen.out;omega
    obtain⟨x,hx⟩:∃x,l[k]?=some x:=⟨l[k],List.getElem?_eq_getElem hkl⟩
    obtain⟨b,o,hbo,hcx⟩:=hI.at_.2.2 k x hx
    cases hbo
    rw[Nat.zero_add] at hcx
    have k1:(k:Int)<((al.length+1:Nat):Int):=by omega
    have hi:IntKind.i64.wrap ((k:Int)+1)=k+1:=IntWalk.i64_in _ (by omega)
    have c10:=hR.st.chk.cell (j:=10) (v:=.slice cV.a cV.n cV.c) rfl
    have hCw:=hR.st.chk.lt
    have hnC:=World.new_ne wr _ c10
    have hbl:Below wr.heap.size wr (wr.alloc (.cells #[.int .i64 x] 3)):=qe
    have K:=Jz wr.heap.size cV cls x (wr.alloc (.cells #[.int .i64 x] 3)) (qC wr #[.int .i64 x] 3 (j:=0) rfl) (hR.step hbl).cls.lists (by omega)
    have hT2:=Lib.hid (hT.out.trans (qeN cls l k x hx))
    have hR':=Lib.hid (hR.step hbl)
    have hI':=Lib.hid (hI.below hbl)
    clear hR hI hT hx
    cases hq:cls.any (hasI x) with
    |false=>
     have hf:Hid (qw cls l=false):=Lib.hid (by rw[hT2.out,hq];rfl)
     rw[hq] at K
     clear hq
     go_wp2_with (go_at_call 145;refine K.mono ?_;clear K;rintro e W9 ⟨rfl,rfl⟩)
     go_ret
     exact⟨qp (by rw[hle.out,hf.out];rfl),hR'.out⟩
    |true=>
     have hf:Hid (qw cls l=qw cls (l.drop (k+1))):=Lib.hid (by rw[hT2.out,hq,Bool.true_and])
     rw[hq] at K
     clear hq
     go_wp2_with (go_at_call 145;refine K.mono ?_;clear K;rintro e W9 ⟨rfl,rfl⟩)
     exact⟨⟨k+1,by omega,by go_num,hR'.out,hI'.out,hf⟩,by simp[intOf];omega⟩
   ·have hf:Hid (qw cls l=true):=Lib.hid (by rw[hT.out,List.drop_eq_nil_of_le (by have:=hlen.out;omega)];rfl)
    have hR':=Lib.hid hR
    clear hT hR hI
    go_wp2_with fail
    go_ret
    exact⟨qp (by rw[hle.out,hf.out];rfl),hR'.out⟩
end Go.Proofs.YtkoloennfejaaaaGreatDoor
