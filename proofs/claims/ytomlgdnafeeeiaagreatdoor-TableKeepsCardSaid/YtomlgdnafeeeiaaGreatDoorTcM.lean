
import Derived.Test.YtomlgdnafeeeiaaGreatDoorBsQ
import Derived.Maps.OwnSet
import Derived.Maps.OwnOps
import Derived.Maps.Views
/-
 What stays while a table is made: all blocks but the table's own and those made since;all blocks but those of some types. Maps of names.
-/
namespace Go.Proofs.YtomlgdnafeeeiaaGreatDoor
open Proofs.Tryz
open Go.RowKit Go.Maps
theorem qd.drewT{W:World}{b:Nat}{t:TypeId}{cs:Array Value}(h:qd W b t cs):qd W.drew b t cs:=h
structure qF(B C:Nat)(w w':World):Prop where
 os:w'.os=w.os
 tape:w'.tape=w.tape
 output:w'.output=w.output
 size:w.heap.size<=w'.heap.size
 block:∀k,k<B->k≠C->w'.heap[k]?=w.heap[k]?
theorem qF.refl(B C:Nat)(w:World):qF B C w w:=⟨rfl,rfl,rfl,vL _,fun _ _ _=>rfl⟩
theorem qF.trans{B C:Nat}{a b c:World}(h:qF B C a b)(k:qF B C b c):qF B C a c:=
 ⟨k.os.trans h.os,k.tape.trans h.tape,k.output.trans h.output,vR h.size k.size,fun i hi hn=>(k.block i hi hn).trans (h.block i hi hn)⟩
theorem qF.mono{B B' C:Nat}{a b:World}(h:qF B C a b)(hB:B'<=B):qF B' C a b:=⟨h.os,h.tape,h.output,h.size,fun i hi hn=>h.block i (vW hi hB) hn⟩
theorem qF.of{B C:Nat}{a b:World}(h:Below B a b):qF B C a b:=⟨h.os,h.tape,h.output,h.size,fun i hi _=>h.block i hi⟩
theorem qF.step{B C:Nat}{a b c:World}(h:qF B C a b)(k:BX b c)(hB:B<=a.heap.size):qF B C a c:=h.trans (.of (k.mono (vR hB h.size)))
theorem qF.set{B C j:Nat}{a b:World}(h:qF B C a b)(v:Value):qF B C a (b.setCell ⟨C,j,none⟩ v):=
 ⟨h.os,h.tape,h.output,by rw[World.size_setCell];exact h.size,fun i hi hn=>(Below.heap_setCell b ⟨C,j,none⟩ v i hn).trans (h.block i hi hn)⟩
theorem qF.setUp{B C g j:Nat}{a b:World}(h:qF B C a b)(hg:B<=g)(v:Value):qF B C a (b.setCell ⟨g,j,none⟩ v):=
 ⟨h.os,h.tape,h.output,by rw[World.size_setCell];exact h.size,fun i hi hn=>(Below.heap_setCell b ⟨g,j,none⟩ v i (fun e=>by subst e;exact absurd hi (Nat.not_lt.2 hg))).trans (h.block i hi hn)⟩
theorem qF.grown{B C:Nat}{a b c:World}{row:Option Nat}(h:qF B C a b)(hg:b.grownBy c row)(hB:B<=a.heap.size)(hr:∀k,row=some k->B<=k):qF B C a c:=
 h.trans ⟨hg.os,hg.tape,hg.output,hg.size,fun i hi _=>hg.block i (vW hi (vR hB h.size)) (fun e=>by have:=hr i e.symm;omega)⟩
theorem qF.below{B C:Nat}{a b:World}(h:qF B C a b)(hC:B<=C):Below B a b:=⟨h.os,h.tape,h.output,h.size,fun i hi=>h.block i hi (by omega)⟩
theorem qF.low{B B' C:Nat}{a b:World}(h:qF B C a b)(hB:B'<=B)(hC:B'<=C):Below B' a b:=(h.mono hB).below hC
abbrev But(C:Nat)(w w':World):Prop:=qF w.heap.size C w w'
theorem But.trans{C:Nat}{a b c:World}(h:But C a b)(k:But C b c):But C a c:=qF.trans h (k.mono h.size)
theorem But.cell{C:Nat}{a b:World}(h:But C a b){p:Addr}{v:Value}(hc:a.cell? p=some v)(hn:p.block≠C):b.cell? p=some v:=
 (World.cell?_of_block (w:=a) (h.block p.block (kW _ _ hc) hn)).trans hc
theorem But.cells{C b:Nat}{a c:World}{t:TypeId}{cs:Array Value}(h:But C a c)(hc:qd a b t cs)(hn:b≠C):qd c b t cs:=(h.block b hc.lt hn).trans hc
structure qt(ts:List TypeId)(W W':World):Prop where
 size:W.heap.size<=W'.heap.size
 block:∀b t' cs,t'∉ts->qd W b t' cs->qd W' b t' cs
theorem qt.refl(ts:List TypeId)(W:World):qt ts W W:=⟨vL _,fun _ _ _ _ h=>h⟩
theorem qt.trans{ts:List TypeId}{A B C:World}(h:qt ts A B)(k:qt ts B C):qt ts A C:=⟨vR h.size k.size,fun b t' cs ht hc=>k.block b t' cs ht (h.block b t' cs ht hc)⟩
theorem qt.mono{ts us:List TypeId}{A B:World}(h:qt ts A B)(hs:∀t,t∈ts->t∈us):qt us A B:=⟨h.size,fun b t' cs ht hc=>h.block b t' cs (fun hm=>ht (hs _ hm)) hc⟩
theorem qt.of_set{ts:List TypeId}{W:World}{T:Nat}{t:TypeId}{cs:Array Value}(h:qd W T t cs)(ht:t∈ts)(j:Nat)(v:Value):qt ts W (W.setCell ⟨T,j,none⟩ v):=
 ⟨by rw[World.size_setCell];exact vL _,fun b t' cs' ht' hc=>hc.other (fun e=>by
  rw[e] at hc
  have h2:=Option.some.inj ((show W.heap[T]?=_ from hc).symm.trans (show W.heap[T]?=_ from h))
  injection h2 with _ ht2 _
  exact ht' (ht2 ▸ ht)) v⟩
theorem qt.of_grown{ts:List TypeId}{W W':World}{base:Nat}{e:TypeId}{size k:Nat}{v:Value}{xs:List Value}(h:W.ownsRow base e size v k xs)(he:e∈ts)(hg:W.grownBy W' v.ownBlock):qt ts W W':=
 ⟨hg.size,fun _ _ _ ht hc=>hc.kept hg (hc.not_row (fun e'=>ht (e' ▸ he)) h)⟩
theorem qt.alloc(ts:List TypeId)(W:World)(o:Obj):qt ts W (W.alloc o):=⟨by simp,fun _ _ _ _ hc=>hc.alloc o⟩
theorem qt.of_below{ts:List TypeId}{W W':World}(h:BX W W'):qt ts W W':=⟨h.size,fun _ _ _ _ hc=>hc.below h hc.lt⟩
theorem qt.of_map{ts:List TypeId}{W W':World}{B:Nat}{es:Array MapEntry}{ck:Nat}(hb:W.heap[B]?=some (.map es ck))(hg:W.grownBy W' (some B)):qt ts W W':=
 ⟨hg.size,fun b t' cs _ hc=>hc.kept hg (fun e=>by
  cases e
  rw[show W.heap[B]?=_ from hc] at hb
  cases hb)⟩
theorem qt.row{ts:List TypeId}{W W':World}(h:qt ts W W'){base:Nat}{e:TypeId}{size k:Nat}{v:Value}{xs:List Value}(hr:W.ownsRow base e size v k xs)(he:e∉ts):W'.ownsRow base e size v k xs:=by
 refine⟨hr.1,?_⟩
 rcases hr.2 with h3|⟨g,cap,cur,e1,e2,e3,e4⟩
 ·exact .inl h3
 ·exact .inr ⟨g,cap,cur,e1,e2,h.block g e cur he e3,e4⟩
theorem qt.words{ts:List TypeId}{W W':World}(h:qt ts W W'){s:SlV}{ws:List Nat}(hs:zE W s ws)(he:137∉ts):zE W' s ws:=
 ⟨hs.1,hs.2.1,fun j x hj=>by
  obtain⟨h0,b,o,h1,h2⟩:=hs.2.2.1 j x hj
  obtain⟨cs,hc⟩:=hs.2.2.2 b o h1
  have hc':=h.block b _ cs he hc
  exact⟨h0,b,o,h1,(World.cell?_of_block (w:=W) (a:=⟨b,o+j,none⟩) ((show W'.heap[b]?=_ from hc').trans (show W.heap[b]?=_ from hc).symm)).trans h2⟩,
  fun b o he'=>by obtain⟨cs,hc⟩:=hs.2.2.2 b o he';exact⟨cs,h.block b _ cs he hc⟩⟩
theorem qt.set{ts:List TypeId}{W W':World}(h:qt ts W W'){s:SlV}{p:Nat->Bool}(hs:zh W s p)(he:137∉ts):zh W' s p:=by
 obtain⟨ws,h1,h2⟩:=hs
 exact⟨ws,h.words h1 he,h2⟩
theorem YU:Keyed prog 9:=string_keyed underlying9
theorem qgw(w:World):(zeroValue 3).run prog w = .ok (.int .i64 0) w:=by kernel_rfl
def Zv(s:ByteArray):Lit:=.string s.data.toList
theorem qes{s t:ByteArray}(h:Zv s=Zv t):s=t:=by
 unfold Zv at h
 injection h with h
 obtain⟨⟨a⟩⟩:=s
 obtain⟨⟨b⟩⟩:=t
 simp at h
 rw[h]
theorem qgx(s:ByteArray):WideAt.IsKeyLit (Zv s):=trivial
structure QV(D:DataW Unit)(l:List ByteArray):Prop where
 isMap:IsMap D
 no:∀s,s∉l->has D (Zv s)=false
 yes:∀ (i:Nat) s,l[i]?=some s->has D (Zv s)=true/\∀z,D.atKey (Zv s) z = .lit (.int .i64 i)
theorem QV.nil:QV (.map []) []:=⟨isMap_empty,fun _ _=>rfl,fun i s h=>by simp at h⟩
theorem QV.put{D:DataW Unit}{l:List ByteArray}(h:QV D l){s:ByteArray}(hs:s∉l):QV (D.put (Zv s) (.lit (.int .i64 l.length))) (l++[s]):=by
 refine⟨h.isMap.put _ _,fun t ht=>?_,fun i t ht=>?_⟩
 ·have h1:t∉l:=fun hm=>ht (List.mem_append_left _ hm)
  have h2:Zv t≠Zv s:=fun e=>ht (by rw[qes e];simp)
  rw[has_put_other h2];exact h.no t h1
 ·by_cases hi:i<l.length
  ·rw[List.getElem?_append_left hi] at ht
   have h2:Zv t≠Zv s:=fun e=>hs (by rw[←qes e];exact vM ht)
   obtain⟨y1,y2⟩:=h.yes i t ht
   exact⟨by rw[has_put_other h2];exact y1,fun z=>by rw[atKey_put_other h2];exact y2 z⟩
  ·have h3:=(vS.1 ht).1
   rw[kA,List.length_singleton] at h3
   have h4:i=l.length:=by omega
   subst h4
   rw[kR (vL _),Nat.sub_self] at ht
   cases ht
   exact⟨has_put_same h.isMap (qgx _) _,fun z=>atKey_put_same h.isMap (qgx _) _ z⟩
def xG(l:List ByteArray)(s:ByteArray):Int:=max 0 (qv l s)
def qbG(l:List ByteArray)(s:ByteArray):Bool:=decide (0<=qv l s)
theorem qgy{l:List ByteArray}{s:ByteArray}(h:s∈l):∃i:Nat,qv l s=i/\l[i]?=some s:=by
 rcases xh (fun x=>eqB x s) l with⟨_,h2⟩|⟨k,hk,h1,h2⟩
 ·have:=h2 s h
  unfold eqB at this
  simp at this
 ·refine⟨k,h1,?_⟩
  unfold eqB at h2
  rw[vE hk,of_decide_eq_true h2]
theorem qjy{l:List ByteArray}{s:ByteArray}(h:s∉l):qv l s = -1:=by
 rcases xh (fun x=>eqB x s) l with⟨h1,_⟩|⟨k,hk,h1,h2⟩
 ·exact h1
 ·exfalso
  unfold eqB at h2
  exact h (by rw[←of_decide_eq_true h2];exact List.getElem_mem hk)
theorem QV.num{D:DataW Unit}{l:List ByteArray}(h:QV D l)(s:ByteArray):has D (Zv s)=qbG l s/\D.atKey (Zv s) (.lit (.int .i64 0)) = .lit (.int .i64 (xG l s)):=by
 unfold qbG xG
 by_cases hs:s∈l
 ·obtain⟨i,h1,h2⟩:=qgy hs
  obtain⟨y1,y2⟩:=h.yes i s h2
  rw[h1,y1,y2,Int.max_eq_right (vN _),vT (vN _)]
  exact⟨rfl,rfl⟩
 ·have hn:=h.no s hs
  rw[qjy hs,hn,atKey_of_not_has hn]
  exact⟨rfl,rfl⟩
def xI(base:Nat)(W:World)(v:Option Nat)(l:List ByteArray):Prop:=
 (v=none/\l = [])∨∃B D,v=some B/\base<=B/\W.ownsMap prog 9 (plainElem prog 3) B l.length D/\QV D l
theorem Qm{W W':World}{B n:Nat}{D:DataW Unit}{R:Value->Option (DataW Unit×List MemPlace)}(h:W.ownsMap prog 9 R B n D)(hb:W'.heap[B]?=W.heap[B]?):W'.ownsMap prog 9 R B n D:=by
 obtain⟨es,ck,h1,h2⟩:=h
 exact⟨es,ck,hb.trans h1,h2⟩
theorem xI.below{base:Nat}{W W':World}{v:Option Nat}{l:List ByteArray}(h:xI base W v l)(hb:BX W W'):xI base W' v l:=
 h.imp id fun⟨B,D,h1,h2,h3,h4⟩=>⟨B,D,h1,h2,Qm h3 (hb.block B h3.lt),h4⟩
theorem xI.but{base C:Nat}{W W':World}{v:Option Nat}{l:List ByteArray}(h:xI base W v l){t:TypeId}{cs:Array Value}(hC:qd W C t cs)(hb:But C W W'):xI base W' v l:=
 h.imp id fun⟨B,D,h1,h2,h3,h4⟩=>⟨B,D,h1,h2,Qm h3 (hb.block B h3.lt (fun e=>by
  obtain⟨es,ck,h5,_⟩:=h3
  rw[e,show W.heap[C]?=_ from hC] at h5
  cases h5)),h4⟩
theorem xI.mono{base base':Nat}{W:World}{v:Option Nat}{l:List ByteArray}(h:xI base W v l)(hb:base'<=base):xI base' W v l:=
 h.imp id fun⟨B,D,h1,h2,h3,h4⟩=>⟨B,D,h1,vR hb h2,h3,h4⟩
end Go.Proofs.YtomlgdnafeeeiaaGreatDoor
