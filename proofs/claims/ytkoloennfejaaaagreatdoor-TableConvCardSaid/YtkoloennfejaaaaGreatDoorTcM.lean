/-
  What stays while a table is made: all blocks but the table's own and those made since; all blocks but those of some types. Maps of names.
-/
import Derived.Test.YtkoloennfejaaaaGreatDoorBsQ
import Derived.Test.YtkoloennfejaaaaGreatDoorGeoTwo
import Derived.Maps.OwnSet
import Derived.Maps.OwnOps
import Derived.Maps.Views
import Derived.Maps.AppendAt
namespace Go.Proofs.YtkoloennfejaaaaGreatDoor
open Go.RowKit Go.Maps
theorem Cells.drewT{W:World}{b:Nat}{t:TypeId}{cs:Array Value}(h:Cells W b t cs):Cells W.drew b t cs:=h
structure qo(B C:Nat)(w w':World):Prop where
 os:w'.os=w.os
 tape:w'.tape=w.tape
 output:w'.output=w.output
 size:w.heap.size<=w'.heap.size
 block:∀k,k<B->k≠C->w'.heap[k]?=w.heap[k]?
theorem qo.refl(B C:Nat)(w:World):qo B C w w:=⟨rfl,rfl,rfl,Nat.le_refl _,fun _ _ _=>rfl⟩
theorem qo.trans{B C:Nat}{a b c:World}(h:qo B C a b)(k:qo B C b c):qo B C a c:=
 ⟨k.os.trans h.os,k.tape.trans h.tape,k.output.trans h.output,Nat.le_trans h.size k.size,fun i hi hn=>(k.block i hi hn).trans (h.block i hi hn)⟩
theorem qo.mono{B B' C:Nat}{a b:World}(h:qo B C a b)(hB:B'<=B):qo B' C a b:=⟨h.os,h.tape,h.output,h.size,fun i hi hn=>h.block i (Nat.lt_of_lt_of_le hi hB) hn⟩
theorem qo.of{B C:Nat}{a b:World}(h:Below B a b):qo B C a b:=⟨h.os,h.tape,h.output,h.size,fun i hi _=>h.block i hi⟩
theorem qo.step{B C:Nat}{a b c:World}(h:qo B C a b)(k:Below b.heap.size b c)(hB:B<=a.heap.size):qo B C a c:=h.trans (.of (k.mono (Nat.le_trans hB h.size)))
theorem qo.set{B C j:Nat}{a b:World}(h:qo B C a b)(v:Value):qo B C a (b.setCell ⟨C,j,none⟩ v):=
 ⟨h.os,h.tape,h.output,by rw[World.size_setCell];exact h.size,fun i hi hn=>(Below.heap_setCell b ⟨C,j,none⟩ v i hn).trans (h.block i hi hn)⟩
theorem qo.setUp{B C g j:Nat}{a b:World}(h:qo B C a b)(hg:B<=g)(v:Value):qo B C a (b.setCell ⟨g,j,none⟩ v):=
 ⟨h.os,h.tape,h.output,by rw[World.size_setCell];exact h.size,fun i hi hn=>(Below.heap_setCell b ⟨g,j,none⟩ v i (fun e=>by subst e;exact absurd hi (Nat.not_lt.2 hg))).trans (h.block i hi hn)⟩
theorem qo.grown{B C:Nat}{a b c:World}{row:Option Nat}(h:qo B C a b)(hg:b.grownBy c row)(hB:B<=a.heap.size)(hr:∀k,row=some k->B<=k):qo B C a c:=
 h.trans ⟨hg.os,hg.tape,hg.output,hg.size,fun i hi _=>hg.block i (Nat.lt_of_lt_of_le hi (Nat.le_trans hB h.size)) (fun e=>by have:=hr i e.symm;omega)⟩
theorem qo.below{B C:Nat}{a b:World}(h:qo B C a b)(hC:B<=C):Below B a b:=⟨h.os,h.tape,h.output,h.size,fun i hi=>h.block i hi (by omega)⟩
theorem qo.low{B B' C:Nat}{a b:World}(h:qo B C a b)(hB:B'<=B)(hC:B'<=C):Below B' a b:=(h.mono hB).below hC
abbrev But(C:Nat)(w w':World):Prop:=qo w.heap.size C w w'
theorem But.trans{C:Nat}{a b c:World}(h:But C a b)(k:But C b c):But C a c:=qo.trans h (k.mono h.size)
theorem But.cell{C:Nat}{a b:World}(h:But C a b){p:Addr}{v:Value}(hc:a.cell? p=some v)(hn:p.block≠C):b.cell? p=some v:=
 (World.cell?_of_block (w:=a) (h.block p.block (World.block_lt_of_cell? _ _ hc) hn)).trans hc
theorem But.cells{C b:Nat}{a c:World}{t:TypeId}{cs:Array Value}(h:But C a c)(hc:Cells a b t cs)(hn:b≠C):Cells c b t cs:=(h.block b hc.lt hn).trans hc
structure Stays(ts:List TypeId)(W W':World):Prop where
 size:W.heap.size<=W'.heap.size
 block:∀b t' cs,t'∉ts->Cells W b t' cs->Cells W' b t' cs
theorem Stays.refl(ts:List TypeId)(W:World):Stays ts W W:=⟨Nat.le_refl _,fun _ _ _ _ h=>h⟩
theorem Stays.trans{ts:List TypeId}{A B C:World}(h:Stays ts A B)(k:Stays ts B C):Stays ts A C:=⟨Nat.le_trans h.size k.size,fun b t' cs ht hc=>k.block b t' cs ht (h.block b t' cs ht hc)⟩
theorem Stays.mono{ts us:List TypeId}{A B:World}(h:Stays ts A B)(hs:∀t,t∈ts->t∈us):Stays us A B:=⟨h.size,fun b t' cs ht hc=>h.block b t' cs (fun hm=>ht (hs _ hm)) hc⟩
theorem Stays.of_set{ts:List TypeId}{W:World}{T:Nat}{t:TypeId}{cs:Array Value}(h:Cells W T t cs)(ht:t∈ts)(j:Nat)(v:Value):Stays ts W (W.setCell ⟨T,j,none⟩ v):=
 ⟨by rw[World.size_setCell];exact Nat.le_refl _,fun b t' cs' ht' hc=>hc.other (fun e=>by
  rw[e] at hc
  have h2:=Option.some.inj ((show W.heap[T]?=_ from hc).symm.trans (show W.heap[T]?=_ from h))
  injection h2 with _ ht2 _
  exact ht' (ht2 ▸ ht)) v⟩
theorem Stays.of_grown{ts:List TypeId}{W W':World}{base:Nat}{e:TypeId}{size k:Nat}{v:Value}{xs:List Value}(h:W.ownsRow base e size v k xs)(he:e∈ts)(hg:W.grownBy W' v.ownBlock):Stays ts W W':=
 ⟨hg.size,fun _ _ _ ht hc=>hc.kept hg (hc.not_row (fun e'=>ht (e' ▸ he)) h)⟩
theorem Stays.alloc(ts:List TypeId)(W:World)(o:Obj):Stays ts W (W.alloc o):=⟨by simp,fun _ _ _ _ hc=>hc.alloc o⟩
theorem Stays.of_below{ts:List TypeId}{W W':World}(h:Below W.heap.size W W'):Stays ts W W':=⟨h.size,fun _ _ _ _ hc=>hc.below h hc.lt⟩
theorem Stays.of_map{ts:List TypeId}{W W':World}{B:Nat}{es:Array MapEntry}{ck:Nat}(hb:W.heap[B]?=some (.map es ck))(hg:W.grownBy W' (some B)):Stays ts W W':=
 ⟨hg.size,fun b t' cs _ hc=>hc.kept hg (fun e=>by
  cases e
  rw[show W.heap[B]?=_ from hc] at hb
  cases hb)⟩
theorem Stays.row{ts:List TypeId}{W W':World}(h:Stays ts W W'){base:Nat}{e:TypeId}{size k:Nat}{v:Value}{xs:List Value}(hr:W.ownsRow base e size v k xs)(he:e∉ts):W'.ownsRow base e size v k xs:=by
 refine⟨hr.1,?_⟩
 rcases hr.2 with h3|⟨g,cap,cur,e1,e2,e3,e4⟩
 ·exact .inl h3
 ·exact .inr ⟨g,cap,cur,e1,e2,h.block g e cur he e3,e4⟩
theorem Stays.words{ts:List TypeId}{W W':World}(h:Stays ts W W'){s:SlV}{ws:List Nat}(hs:WordsAt W s ws)(he:114∉ts):WordsAt W' s ws:=
 ⟨hs.1,hs.2.1,fun j x hj=>by
  obtain⟨h0,b,o,h1,h2⟩:=hs.2.2.1 j x hj
  obtain⟨cs,hc⟩:=hs.2.2.2 b o h1
  have hc':=h.block b _ cs he hc
  exact⟨h0,b,o,h1,(World.cell?_of_block (w:=W) (a:=⟨b,o+j,none⟩) ((show W'.heap[b]?=_ from hc').trans (show W.heap[b]?=_ from hc).symm)).trans h2⟩,
  fun b o he'=>by obtain⟨cs,hc⟩:=hs.2.2.2 b o he';exact⟨cs,h.block b _ cs he hc⟩⟩
theorem Stays.set{ts:List TypeId}{W W':World}(h:Stays ts W W'){s:SlV}{p:Nat->Bool}(hs:SetAt W s p)(he:114∉ts):SetAt W' s p:=by
 obtain⟨ws,h1,h2⟩:=hs
 exact⟨ws,h.words h1 he,h2⟩
theorem Tryz.keyed:Keyed Tryz.prog 9:=string_keyed Tryz.underlying9
theorem Tryz.zeroInt(w:World):(zeroValue 3).run Tryz.prog w = .ok (.int .i64 0) w:=by kernel_rfl
def keyS(s:ByteArray):Lit:=.string s.data.toList
theorem qaS{s t:ByteArray}(h:keyS s=keyS t):s=t:=by
 unfold keyS at h
 injection h with h
 obtain⟨⟨a⟩⟩:=s
 obtain⟨⟨b⟩⟩:=t
 simp at h
 rw[h]
theorem qcR(s:ByteArray):WideAt.IsKeyLit (keyS s):=trivial
structure jC(D:DataW Unit)(l:List ByteArray):Prop where
 isMap:IsMap D
 no:∀s,s∉l->has D (keyS s)=false
 yes:∀ (i:Nat) s,l[i]?=some s->has D (keyS s)=true/\∀z,D.atKey (keyS s) z = .lit (.int .i64 i)
theorem jC.nil:jC (.map []) []:=⟨isMap_empty,fun _ _=>rfl,fun i s h=>by simp at h⟩
theorem jC.put{D:DataW Unit}{l:List ByteArray}(h:jC D l){s:ByteArray}(hs:s∉l):jC (D.put (keyS s) (.lit (.int .i64 l.length))) (l++[s]):=by
 refine⟨h.isMap.put _ _,fun t ht=>?_,fun i t ht=>?_⟩
 ·have h1:t∉l:=fun hm=>ht (List.mem_append_left _ hm)
  have h2:keyS t≠keyS s:=fun e=>ht (by rw[qaS e];simp)
  rw[has_put_other h2];exact h.no t h1
 ·by_cases hi:i<l.length
  ·rw[List.getElem?_append_left hi] at ht
   have h2:keyS t≠keyS s:=fun e=>hs (by rw[←qaS e];exact List.mem_of_getElem? ht)
   obtain⟨y1,y2⟩:=h.yes i t ht
   exact⟨by rw[has_put_other h2];exact y1,fun z=>by rw[atKey_put_other h2];exact y2 z⟩
  ·have h3:=(List.getElem?_eq_some_iff.1 ht).1
   rw[List.length_append,List.length_singleton] at h3
   have h4:i=l.length:=by omega
   subst h4
   rw[List.getElem?_append_right (Nat.le_refl _),Nat.sub_self] at ht
   cases ht
   exact⟨has_put_same h.isMap (qcR _) _,fun z=>atKey_put_same h.isMap (qcR _) _ z⟩
def num0(l:List ByteArray)(s:ByteArray):Int:=max 0 (regN l s)
def ZN(l:List ByteArray)(s:ByteArray):Bool:=decide (0<=regN l s)
theorem qcS{l:List ByteArray}{s:ByteArray}(h:s∈l):∃i:Nat,regN l s=i/\l[i]?=some s:=by
 rcases idxP_cases (fun x=>eqB x s) l with⟨_,h2⟩|⟨k,hk,h1,h2⟩
 ·have:=h2 s h
  unfold eqB at this
  simp at this
 ·refine⟨k,h1,?_⟩
  unfold eqB at h2
  rw[List.getElem?_eq_getElem hk,of_decide_eq_true h2]
theorem qfx{l:List ByteArray}{s:ByteArray}(h:s∉l):regN l s = -1:=by
 rcases idxP_cases (fun x=>eqB x s) l with⟨h1,_⟩|⟨k,hk,h1,h2⟩
 ·exact h1
 ·exfalso
  unfold eqB at h2
  exact h (by rw[←of_decide_eq_true h2];exact List.getElem_mem hk)
theorem jC.num{D:DataW Unit}{l:List ByteArray}(h:jC D l)(s:ByteArray):has D (keyS s)=ZN l s/\D.atKey (keyS s) (.lit (.int .i64 0)) = .lit (.int .i64 (num0 l s)):=by
 unfold ZN num0
 by_cases hs:s∈l
 ·obtain⟨i,h1,h2⟩:=qcS hs
  obtain⟨y1,y2⟩:=h.yes i s h2
  rw[h1,y1,y2,Int.max_eq_right (Int.natCast_nonneg _),decide_eq_true (Int.natCast_nonneg _)]
  exact⟨rfl,rfl⟩
 ·have hn:=h.no s hs
  rw[qfx hs,hn,atKey_of_not_has hn]
  exact⟨rfl,rfl⟩
def zb(base:Nat)(W:World)(v:Option Nat)(l:List ByteArray):Prop:=
 (v=none/\l = [])∨∃B D,v=some B/\base<=B/\W.ownsMap Tryz.prog 9 (plainElem Tryz.prog 3) B l.length D/\jC D l
theorem yB{W W':World}{B n:Nat}{D:DataW Unit}{R:Value->Option (DataW Unit×List MemPlace)}(h:W.ownsMap Tryz.prog 9 R B n D)(hb:W'.heap[B]?=W.heap[B]?):W'.ownsMap Tryz.prog 9 R B n D:=by
 obtain⟨es,ck,h1,h2⟩:=h
 exact⟨es,ck,hb.trans h1,h2⟩
theorem zb.below{base:Nat}{W W':World}{v:Option Nat}{l:List ByteArray}(h:zb base W v l)(hb:Below W.heap.size W W'):zb base W' v l:=
 h.imp id fun⟨B,D,h1,h2,h3,h4⟩=>⟨B,D,h1,h2,yB h3 (hb.block B h3.lt),h4⟩
theorem zb.but{base C:Nat}{W W':World}{v:Option Nat}{l:List ByteArray}(h:zb base W v l){t:TypeId}{cs:Array Value}(hC:Cells W C t cs)(hb:But C W W'):zb base W' v l:=
 h.imp id fun⟨B,D,h1,h2,h3,h4⟩=>⟨B,D,h1,h2,yB h3 (hb.block B h3.lt (fun e=>by
  obtain⟨es,ck,h5,_⟩:=h3
  rw[e,show W.heap[C]?=_ from hC] at h5
  cases h5)),h4⟩
theorem zb.mono{base base':Nat}{W:World}{v:Option Nat}{l:List ByteArray}(h:zb base W v l)(hb:base'<=base):zb base' W v l:=
 h.imp id fun⟨B,D,h1,h2,h3,h4⟩=>⟨B,D,h1,Nat.le_trans hb h2,h3,h4⟩
end Go.Proofs.YtkoloennfejaaaaGreatDoor
