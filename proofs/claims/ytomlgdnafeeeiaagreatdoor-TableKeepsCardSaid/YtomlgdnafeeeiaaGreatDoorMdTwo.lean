
import Derived.Test.YtomlgdnafeeeiaaGreatDoorMdOne
import Derived.Deep.Upon
import Derived.Lib.EndianMore
import Derived.Lib.JoinLaws
set_option maxHeartbeats 4000000
set_option maxRecDepth 100000
/-
 take: all ways to take one of each list,told one after the other in one buffer. And what follows: see the heads within.
-/
namespace Go.Proofs.YtomlgdnafeeeiaaGreatDoor
open Proofs.Tryz
open Go.RowKit
section
attribute [local go_sem] Oper.semAt_some
def Xb(n₀:Nat)(W:World)(s:SlV)(l:List Int):Prop:=
 s.n=l.length/\s.n<=s.c/\∀j x,l[j]?=some x->∃b o,s.a=some ⟨b,o,none⟩/\b<n₀/\W.cell? ⟨b,o+j,none⟩=some (.int .i64 x)
def jX(n₀:Nat)(W:World)(s:SlV)(ls:List (List Int)):Prop:=
 s.n=ls.length/\s.n<=s.c/\∀i l,ls[i]?=some l->∃b o v,s.a=some ⟨b,o,none⟩/\b<n₀/\W.cell? ⟨b,o+i,none⟩=some (SlV.v v)/\Xb n₀ W v l/\l.length<=1000
def xO(n₀:Nat)(A B:World):Prop:=∀b j v,b<n₀->A.cell? ⟨b,j,none⟩=some v->B.cell? ⟨b,j,none⟩=some v
theorem xO.refl(n₀:Nat)(A:World):xO n₀ A A:=fun _ _ _ _ h=>h
theorem xO.trans{n₀:Nat}{A B C:World}(h:xO n₀ A B)(k:xO n₀ B C):xO n₀ A C:=fun b j v hb hc=>k b j v hb (h b j v hb hc)
theorem xO.of_kept{n₀:Nat}{A B:World}(h:jC A B):xO n₀ A B:=fun _ _ _ _ hc=>h.cell hc
theorem xO.of_below{n₀:Nat}{A B:World}(h:Below n₀ A B):xO n₀ A B:=fun b j _ hb hc=>(h.cell (p:=⟨b,j,none⟩) hb).trans hc
theorem Xb.same{n₀:Nat}{A B:World}{s:SlV}{l:List Int}(h:Xb n₀ A s l)(k:xO n₀ A B):Xb n₀ B s l:=
 ⟨h.1,h.2.1,fun j x hj=>by obtain⟨b,o,h1,h2,h3⟩:=h.2.2 j x hj;exact⟨b,o,h1,h2,k _ _ _ h2 h3⟩⟩
theorem jX.same{n₀:Nat}{A B:World}{s:SlV}{ls:List (List Int)}(h:jX n₀ A s ls)(k:xO n₀ A B):jX n₀ B s ls:=
 ⟨h.1,h.2.1,fun i l hi=>by obtain⟨b,o,v,h1,h2,h3,h4,h5⟩:=h.2.2 i l hi;exact⟨b,o,v,h1,h2,k _ _ _ h2 h3,h4.same k,h5⟩⟩
def SlV.tail(s:SlV):SlV:=⟨if s.c=1 then s.a else s.a.map (·.add 1),s.n-1,s.c-1⟩
theorem jX.tail{n₀:Nat}{W:World}{s:SlV}{l:List Int}{ls:List (List Int)}(h:jX n₀ W s (l::ls)):jX n₀ W s.tail ls:=by
 obtain⟨h1,h2,h3⟩:=h
 simp only[List.length_cons] at h1
 refine⟨by unfold SlV.tail;dsimp only;omega,by unfold SlV.tail;dsimp only;omega,fun i k hk=>?_⟩
 have hi:i<ls.length:=(vS.1 hk).1
 obtain⟨b,o,v,e1,e2,e3,e4,e5⟩:=h3 (i+1) k (by simpa using hk)
 refine⟨b,o+1,v,?_,e2,?_,e4,e5⟩
 ·unfold SlV.tail;dsimp only
  rw[if_neg (by omega),e1];rfl
 ·rw[show o+1+i=o+(i+1) by omega];exact e3
structure jJ(W:World)(Bf N:Nat)(tl:List Int):Prop where
 lt:Bf<W.heap.size
 le:tl.length<=N
 at_:∀j x,tl[j]?=some x->W.cell? ⟨Bf,j,none⟩=some (.int .i64 x)
 there:∀j,j<N->(W.cell? ⟨Bf,j,none⟩).isSome=true/\W.frozen? ⟨Bf,j,none⟩=false
theorem jJ.of_block{A B:World}{Bf N:Nat}{tl:List Int}(h:jJ A Bf N tl)(hs:A.heap.size<=B.heap.size)(hb:0<N->B.heap[Bf]?=A.heap[Bf]?):jJ B Bf N tl:=by
 refine⟨vW h.lt hs,h.le,fun j x hj=>?_,fun j hj=>?_⟩
 ·have:j<tl.length:=(vS.1 hj).1
  have:=h.le
  rw[World.cell?_of_block (w:=A) (hb (by omega))];exact h.at_ j x hj
 ·rw[World.cell?_of_block (w:=A) (hb (by omega)),World.frozen?_of_block (w:=A) (hb (by omega))];exact h.there j hj
theorem jJ.kept{A B:World}{Bf N:Nat}{tl:List Int}(h:jJ A Bf N tl)(k:jC A B):jJ B Bf N tl:=by
 refine h.of_block k.1 fun h0=>?_
 obtain⟨v,hv⟩:=Option.isSome_iff_exists.1 (h.there 0 h0).1
 cases hh:A.heap[Bf]? with
 | none=>simp[World.cell?,hh] at hv
 | some o=>exact k.2 _ _ hh (by cases o <;> simp[World.cell?,hh,Obj.isCells] at hv ⊢)
theorem jJ.below{A B:World}{Bf N:Nat}{tl:List Int}(h:jJ A Bf N tl)(k:BX A B):jJ B Bf N tl:=h.of_block k.size fun _=>k.block _ h.lt
theorem jJ.ints{W:World}{Bf N:Nat}{tl:List Int}(h:jJ W Bf N tl):qJ W ⟨some ⟨Bf,0,none⟩,tl.length,N⟩ tl:=
 ⟨rfl,h.le,fun j x hj=>⟨Bf,0,rfl,by rw[Nat.zero_add];exact h.at_ j x hj⟩⟩
theorem jJ.put{W:World}{Bf N:Nat}{tl:List Int}(h:jJ W Bf N tl)(r:Int)(hr:tl.length<N):jJ (W.setCells Bf tl.length [.int .i64 r]) Bf N (tl++[r]):=by
 refine⟨?_,by simp;omega,fun j x hj=>?_,fun j hj=>⟨?_,?_⟩⟩
 ·exact vW h.lt (Lib.below_setCells_w (B:=Bf) (g:=Bf) (vL _) _ _ _).size
 ·by_cases hjl:j<tl.length
  ·rw[World.cell?_setCells_out _ _ _ _ _ (fun _ _=>.inl hjl)]
   rw[List.getElem?_append_left hjl] at hj
   exact h.at_ j x hj
  ·have hj2:j=tl.length:=by have:=(vS.1 hj).1;simp at this;omega
   subst hj2
   have hx:r=x:=by simpa using hj
   subst hx
   exact World.cell?_setCells_in Bf [.int .i64 r] tl.length W (fun i hi=>by
    have:i=0:=by simpa using hi
    subst this;exact(h.there _ hr).1) 0 (by simp)
 ·exact Lib.isSome_setCells _ _ _ _ _ (h.there j hj).1
 ·rw[World.frozen?_setCells];exact(h.there j hj).2
theorem jJ.cut{W:World}{Bf N:Nat}{tl:List Int}{r:Int}(h:jJ W Bf N (tl++[r])):jJ W Bf N tl:=
 ⟨h.lt,by have:=h.le;simp at this;omega,fun j x hj=>h.at_ j x (by rw[List.getElem?_append_left (vS.1 hj).1];exact hj),h.there⟩
end
section
attribute [local go_sem] Oper.semAt_some
def Xc(tl:List Int)(rest:List (List Int))(xs:List Int):List (List Int):=xs.flatMap fun r=>(zX rest).map fun t=>(tl++[r])++t
theorem qhk(tl l:List Int)(rest:List (List Int)):(zX (l::rest)).map (tl++·)=Xc tl rest l:=by
 simp[zX,Xc,List.map_flatMap,Function.comp_def]
theorem qaF(tl l:List Int)(rest:List (List Int))(k:Nat)(h:k<l.length):Xc tl rest (l.take (k+1))=Xc tl rest (l.take k)++(zX rest).map ((tl++[l[k]])++·):=by
 unfold Xc
 rw[List.take_succ_eq_append_getElem h,List.flatMap_append]
 simp
theorem qcM(tl l:List Int)(rest:List (List Int))(k:Nat):Xc tl rest (l.take k) <+: Xc tl rest l:=by
 have:l=l.take k++l.drop k:=(List.take_append_drop k l).symm
 conv=>rhs;rw[this]
 unfold Xc
 rw[List.flatMap_append]
 exact List.prefix_append _ _
def qiK(n₀ Bf N:Nat)(J:List (List Int)->World->Prop)(Jx:World->Prop)(tl:List Int)(all:List (List Int))(W:World)(e:Ending)(B:World):Prop:=
 ∃ok,e = .returned (.bool ok)/\(ok=true->J all B/\jJ B Bf N tl/\xO n₀ W B)/\(ok=false->Jx B)
theorem qfv(l Bf N n₀:Nat)(J:List (List Int)->World->Prop)(Jx:World->Prop)(E:List (List Int))
 (hst:∀pre A B,J pre A->Below n₀ A B->J pre B)
 (hY:∀pre x A (v:SlV),J pre A->pre++[x] <+: E->qJ A v x->YieldAt Fence.wide 0 prog l #[.slice v.a v.n v.c] A fun e B=>(e = .returned (.bool true)/\J (pre++[x]) B/\jC A B)∨(e = .returned (.bool false)/\Jx B))
 (hB:n₀<=Bf) :
 ∀ (ls:List (List Int)) (s:SlV) (tl:List Int) (pre:List (List Int)) (W:World),jX n₀ W s ls->jJ W Bf N tl->tl.length+ls.length=N->J pre W->pre++(zX ls).map (tl++·) <+: E ->
  Calls prog 191 #[.slice s.a s.n s.c,.slice (some ⟨Bf,0,none⟩) tl.length N,.func (.yield l) #[] #[]] W (qiK n₀ Bf N J Jx tl (pre++(zX ls).map (tl++·)) W):=by
 intro ls
 induction ls with
 |nil=>
  intro s tl pre W hs hb hl hj hE
  have hn:s.n=0:=by simpa using hs.1
  rw[hn]
  have hY0:=YieldAt.mono (R':=fun e B=>∃ok,e = .returned (.bool ok)/\(ok=true->J (pre++[tl]) B/\jJ B Bf N tl/\xO n₀ W B)/\(ok=false->Jx B))
   (hY pre tl W ⟨some ⟨Bf,0,none⟩,tl.length,N⟩ hj (by simpa[zX] using hE) hb.ints)
   (fun e B h=>by
     rcases h with⟨he,h1,h2⟩|⟨he,h1⟩
     ·exact⟨true,he,fun _=>⟨h1,hb.kept h2,xO.of_kept h2⟩,fun h=>by cases h⟩
     ·exact⟨false,he,(fun h=>by cases h),fun _=>h1⟩)
  obtain⟨fn,tmps,assign,body,hy,hR⟩:=hY0
  dsimp only at hy
  clear hY hs hb hj hE hst
  refine(callsIn_wide (n:=1)).1 ?_
  refine callsIn_of_wp func191 rfl trivial ?_ rfl
  simp only[ntmps191,List.size_toArray,List.length_cons,List.length_nil,Nat.reduceAdd,Nat.reduceSub,Array.replicate_succ,Array.replicate_zero,List.push_toArray,List.append_toArray,List.nil_append,List.cons_append]
  gi_wp2_with (refine hR.mono ?_;clear hR;rintro e W1 ⟨ok,rfl,hp⟩)
  go_ret
  exact⟨ok,rfl,by simpa[zX] using hp⟩
 |cons hd rest ih=>
  intro s tl pre W hs hb hl hj hE
  rw[qhk] at hE ⊢
  obtain⟨sb,so,sv,e1,e2,e3,e4,e5⟩:=hs.2.2 0 hd rfl
  have hn1:=hs.1
  have hn2:=hs.2.1
  simp only[List.length_cons] at hn1 hl
  have htail:=hs.tail
  obtain⟨sa,sn,sc⟩:=s
  obtain⟨va,vn,vc⟩:=sv
  dsimp only at e1 hn1 hn2
  subst e1
  have hvn:vn=hd.length:=e4.1
  rw[Nat.add_zero] at e3
  unfold SlV.v at e3
  dsimp only at e3
  have hn0:(sn:Int)≠0:=by omega
  have hn3:(0:Int)<sn:=by omega
  have hn4:(1:Int)<=sn:=by omega
  have hsn:sn≠0:=by omega
  have ihH:=vH ih
  have hstH:=vH hst
  clear ih hY hs
  replace hn1:=vH hn1
  go_enter func191,ntmps191
  go_wp2_with fail
  go_loopw [19] (fun i wr=>∃k:Nat,i = .int .i64 k/\k<=hd.length/\J (pre++Xc tl rest (hd.take k)) wr/\jJ wr Bf N tl/\xO n₀ W wr) (fun i _=>hd.length-(intOf i).toNat)
  case atStart=>exact⟨0,rfl,vO _,by simpa[Xc] using hj,hb,xO.refl _ _⟩
  case round=>
   obtain⟨k,rfl,hk,hjk,hbk,hsk⟩:=hrel
   subst hvn
   by_cases hlt:k<hd.length
   ·obtain⟨b2,o2,rfl,e42,e43⟩:=e4.2.2 k hd[k] (vE hlt)
    have hcell:=hsk _ _ _ e42 e43
    have k0:(0:Int)<=(k:Int):=vN _
    have k1:(k:Int)<hd.length:=by omega
    have hwk:IntKind.i64.wrap ((k:Int)+1)=k+1:=vI _ (by omega)
    have hroom:tl.length<N:=by omega
    obtain⟨r,hr⟩:∃r,r=hd[k]:=⟨_,rfl⟩
    rw[←hr] at hcell
    have hb0:BX wr (wr.alloc (.cells #[.int .i64 r] 3)):=qi
    have hbuf1:=(hbk.below hb0).put r hroom
    have hB2:Below n₀ wr ((wr.alloc (.cells #[.int .i64 r] 3)).setCells Bf tl.length [.int .i64 r]):=(hb0.mono (by have:=hbk.lt;omega)).trans (Lib.below_setCells_w hB _ _ _)
    have hj2:=hstH.out _ _ _ hjk hB2
    have hsame2:=hsk.trans (xO.of_below hB2)
    have hl2:=htail.same hsame2
    have C:∀V,Below ((wr.alloc (.cells #[.int .i64 r] 3)).setCells Bf tl.length [.int .i64 r]).heap.size ((wr.alloc (.cells #[.int .i64 r] 3)).setCells Bf tl.length [.int .i64 r]) V ->
     Calls prog 191 #[.slice (if sc=1 then some ⟨sb,so,none⟩ else some ⟨sb,so+1,none⟩) (sn-1) (sc-1),.slice (some ⟨Bf,0,none⟩) (tl.length+1) N,.func (.yield l) #[] #[]] V
      fun e B=>∃ok,e = .returned (.bool ok)/\(ok=true->J (pre++Xc tl rest (hd.take (k+1))) B/\jJ B Bf N tl/\xO n₀ W B)/\(ok=false->Jx B):=fun V hV=>by
     have hVn:Below n₀ ((wr.alloc (.cells #[.int .i64 r] 3)).setCells Bf tl.length [.int .i64 r]) V:=hV.mono (by have:=hbuf1.lt;omega)
     have:=ihH.out (SlV.tail ⟨some ⟨sb,so,none⟩,sn,sc⟩) (tl++[r]) (pre++Xc tl rest (hd.take k)) V (hl2.same (xO.of_below hVn)) (hbuf1.below hV) (by simp;omega) (hstH.out _ _ _ hj2 hVn) (by
      refine List.IsPrefix.trans ?_ hE
      rw[hr,List.append_assoc,←qaF tl hd rest k hlt]
      exact(List.prefix_append_right_inj pre).2 (qcM tl hd rest (k+1)))
     rw[kA,List.length_singleton] at this
     refine this.mono fun e B ⟨ok,he,h1,h2⟩=>⟨ok,he,fun h=>?_,h2⟩
     obtain⟨g1,g2,g3⟩:=h1 h
     rw[hr,List.append_assoc,←qaF tl hd rest k hlt] at g1
     exact⟨g1,g2.cut,(hsame2.trans (xO.of_below hVn)).trans g3⟩
    have hbT:=vH ((hbk.below hb0).there tl.length hroom)
    obtain⟨j0,hj0,hj1,hj2',hj3⟩:=info_parts ji
    clear hbk hsk hjk hj hb hE hl2 hj2 hsame2 htail e43 hr e42 e5 hl
    go_wp2_with fail
    go_region_law (first
     |(refine step_append_room (by rfl) _ _ _ (by rfl) _ j0 1 underlying55 hj0 hj2' Bf 0 tl.length N (by rfl) ⟨wr.heap.size,0,none⟩ 1 1 [.int .i64 r] (by rfl) (by rfl) (World.news_of_block (cs:=#[.int .i64 r]) (t:=3) (fr:=(0,0)) (heap_alloc_new wr _)) (by simp[Value.oneCell']) (by omega) (fun j hj=>by have hj0:j=0:=(by simpa using hj);subst hj0;rw[Nat.zero_add,Nat.mul_one,Nat.add_zero];exact hbT.out) ?_)
     |(go_simp;go_at_call 191;refine(C _ (by first|exact kB _ _|exact(kB _ _).drew)).mono ?_;rintro e B ⟨ok,rfl,h1,h2⟩))
    cases ok
    ·have h2':=h2 rfl
     clear h1 h2
     go_wp2_with fail
     all_goals
      go_ret
      exact⟨false,rfl,(fun h=>by cases h),fun _=>h2'⟩
    ·obtain⟨g1,g2,g3⟩:=h1 rfl
     clear h1 h2
     go_wp2_with fail
     all_goals exact⟨⟨k+1,by go_num,by omega,g1,g2,g3⟩,by simp[intOf];omega⟩
   ·have hkk:k=hd.length:=by omega
    subst hkk
    rw[List.take_length] at hjk
    go_wp2_with fail
    go_ret
    exact⟨true,rfl,fun _=>⟨hjk,hbk,hsk⟩,fun h=>by cases h⟩
end
section
attribute [local go_sem] Oper.semAt_some
theorem qdN(s:SlV)(w:World):Calls prog 162 #[.slice s.a s.n s.c] w fun e w'=>
 e = .returned (.func (.func 190) #[] #[.pointer (some ⟨w.heap.size,0,none⟩)])/\w'=w.alloc (.cells #[.slice s.a s.n s.c] 65):=by
 go_enter func162,ntmps162
 go_wp2
 go_ret
 exact⟨rfl,rfl⟩
theorem qhl(w:World)(N:Nat):jJ (w.alloc (.cells (madeCells #[.int .i64 0] N) 3)) w.heap.size N []:=by
 refine⟨by simp,by simp,fun j x hj=>by simp at hj,fun j hj=>⟨?_,?_⟩⟩
 ·have hz:(madeCells #[Value.int .i64 0] N).toList=List.replicate N (.int .i64 0):=toList_madeCells_one _ _
  have:(madeCells #[Value.int .i64 0] N)[j]?=some (.int .i64 0):=by
   rw[←Array.getElem?_toList,hz,List.getElem?_replicate];simp[hj]
  rw[zr w _ _ this];rfl
 ·exact World.frozen?_alloc_at _ _ _ _ rfl
theorem qbq(n:Nat)(bx:Nat)(s:SlV)(ls:List (List Int))(w0:World)(hbx:w0.cell? ⟨bx,0,none⟩=some (.slice s.a s.n s.c))(hs:jX w0.heap.size w0 s ls)(hN:ls.length<=1000) :
 qiz n prog 190 #[.pointer (some ⟨bx,0,none⟩)] (zX ls) w0:=by
 intro l J Jx W hbW hst hY hJ
 have hbx':=qb hbW hbx
 have hsl:s.n=ls.length:=hs.1
 have hs':jX W.heap.size W s ls:=⟨hs.1,hs.2.1,fun i k hk=>by
  obtain⟨b,o,v,h1,h2,h3,⟨h4,h5,h6⟩,h7⟩:=hs.2.2 i k hk
  have hle:=hbW.size
  refine⟨b,o,v,h1,by omega,xO.of_below hbW _ _ _ h2 h3,⟨h4,h5,fun j x hj=>?_⟩,h7⟩
  obtain⟨b2,o2,e1,e2,e3⟩:=h6 j x hj
  exact⟨b2,o2,e1,by omega,xO.of_below hbW _ _ _ e2 e3⟩⟩
 have hb1:BX W (W.alloc (.cells (madeCells #[.int .i64 0] ls.length) 3)):=qi
 have hmk:=fun w=>run_make_room (P:=prog) 55 3 (.int .i64 0) 8 underlying55 ji rfl .i64 .i64 ls.length (by omega) (by omega) w
 have C:∀V,Below (W.alloc (.cells (madeCells #[.int .i64 0] ls.length) 3)).heap.size (W.alloc (.cells (madeCells #[.int .i64 0] ls.length) 3)) V ->
  Calls prog 191 #[.slice s.a ls.length s.c,.slice (some ⟨W.heap.size,0,none⟩) 0 ls.length,.func (.yield l) #[] #[]] V
   fun e B=>∃ok,e = .returned (.bool ok)/\(J (zX ls) B∨Jx B):=fun V hV=>by
  have hVn:BX W V:=hb1.trans (hV.mono hb1.size)
  have:=qfv l W.heap.size ls.length W.heap.size J Jx (zX ls) hst (fun pre x A v hj hp hi=>xN (hY pre x A v hj hp hi)) (vL _) ls s [] [] V (hs'.same (xO.of_below hVn)) ((qhl W ls.length).below hV) (by simp) (hst _ _ _ hJ hVn) (by simp)
  rw[hsl,List.length_nil] at this
  refine this.mono fun e B ⟨ok,he,h1,h2⟩=>⟨ok,he,?_⟩
  cases ok with
  | true=>exact .inl (by simpa using(h1 rfl).1)
  | false=>exact .inr (h2 rfl)
 rw[hsl] at hbx'
 have hbx2:=qk (.cells (madeCells #[.int .i64 0] ls.length) 3) hbx'
 clear hs hs' hbx hY hJ hsl
 refine callsIn_wide.2 ?_
 show Calls _ _ #[.func (.yield l) #[] #[],.pointer (some ⟨bx,0,none⟩)] _ _
 go_enter func190,ntmps190
 go_wp2_with fail
 go_region_law (go_simp;go_at_call 191;refine(C _ (by first|exact kB _ _|exact(kB _ _).drew)).mono ?_;rintro e B ⟨ok,rfl,hp⟩)
 all_goals
  go_wp2_with fail
  exact bodyPost_end (results_none rfl _ _ _) rfl ⟨⟨_,rfl⟩,hp⟩
end
section
attribute [local go_sem] Oper.semAt_some
def qiL(C:Nat)(s:SlV)(w:World)(v:SlV):Act:=
 { tmps:=#[Value.pointer (some ⟨C,0,none⟩),Value.slice s.a s.n s.c,Value.pointer (some ⟨w.heap.size,0,none⟩),undef,Value.pointer (some ⟨w.heap.size+1,0,none⟩),Value.slice v.a v.n v.c,Value.slice s.a s.n s.c,Value.func (.func 190) #[] #[.pointer (some ⟨w.heap.size+1+1,0,none⟩)],Value.slice v.a v.n v.c,undef,undef,undef],defers:=[] }
theorem JM{ps:List Plc} : ∀ (ls:List (List Int)),(∀l,l∈ls->∀x,x∈l->Num ps x)->∀t,t∈zX ls->(∀x,x∈t->Num ps x)/\t.length=ls.length
 |[],_,t,ht=>by
  have:t = []:=by simpa[zX] using ht
  subst this;exact⟨(fun x hx=>by cases hx),rfl⟩
 |l::rest,h,t,ht=>by
  simp only[zX,List.mem_flatMap,List.mem_map] at ht
  obtain⟨r,hr,t2,ht2,rfl⟩:=ht
  have ih:=JM rest (fun k hk=>h k (by simp[hk])) t2 ht2
  refine⟨fun x hx=>?_,by simp[ih.2]⟩
  rcases List.mem_cons.1 hx with rfl|hx
  ·exact h l (by simp) _ hr
  ·exact ih.1 x hx
theorem Je{W W':World}(hb:BX W W'):KeepsOthers W W':=⟨hb.size,fun i _ hi _=>(hb.block i (qD hi)).trans hi⟩
theorem JN(C:Nat)(c:CV)(ps:List Plc)(s:SlV)(ls:List (List Int))(w:World)(hC:jq w C c)(hP:xg w c ps)(hs:jX w.heap.size w s ls)(hN:ls.length<=1000)(hx:∀l,l∈ls->∀x,x∈l->Num ps x) :
 Calls prog 122 #[.pointer (some ⟨C,0,none⟩),.slice s.a s.n s.c] w fun e w'=>e = .returned (.bool (qP ps ls))/\BX w w':=by
 have hlt:=hC.lt
 have hB0:BX w (((w.alloc (.cells #[.pointer (some ⟨C,0,none⟩)] 146)).alloc (.cells #[.bool false] 4)).alloc (.cells #[.slice s.a s.n s.c] 65)):=
  (qi.alloc (by simp) _).alloc (by simp;omega) _
 refine(callsIn_wide (n:=4)).1 ?_
 refine callsIn_of_wp_marks func122 rfl trivial ?_ rfl
 simp only[ntmps122,List.size_toArray,List.length_cons,List.length_nil,Nat.reduceAdd,Nat.reduceSub,Array.replicate_succ,Array.replicate_zero,List.push_toArray,List.append_toArray,List.nil_append,List.cons_append]
 gi_wp2_with (refine⟨trivial,?_⟩;gi_at_call 162;refine(callsIn_wide.2 (qdN s _)).mono ?_;rintro e w' ⟨rfl,rfl⟩)
 generalize hW:(((w.alloc (.cells #[.pointer (some ⟨C,0,none⟩)] 146)).alloc (.cells #[.bool false] 4)).alloc (.cells #[.slice s.a s.n s.c] 65))=W0 at hB0 ⊢
 have hz0:W0.heap.size=w.heap.size+3:=by rw[←hW];simp
 have hbox:qd W0 w.heap.size 146 #[.pointer (some ⟨C,0,none⟩)]:=by rw[←hW];exact((qd.new _ _ _).alloc _).alloc _
 have hres:qd W0 (w.heap.size+1) 4 #[.bool false]:=by
  rw[←hW]
  have:=(qd.new (w.alloc (.cells #[.pointer (some ⟨C,0,none⟩)] 146)) 4 #[.bool false]).alloc (.cells #[.slice s.a s.n s.c] 65)
  rw[vZ] at this;exact this
 have hsl:W0.cell? ⟨w.heap.size+1+1,0,none⟩=some (.slice s.a s.n s.c):=by
  rw[←hW]
  have:=zr ((w.alloc (.cells #[.pointer (some ⟨C,0,none⟩)] 146)).alloc (.cells #[.bool false] 4)) #[.slice s.a s.n s.c] 65 (j:=0) rfl
  rw[vZ,vZ] at this;exact this
 have hs0:jX W0.heap.size W0 s ls:=⟨hs.1,hs.2.1,fun i k hk=>by
  obtain⟨b,o,v,h1,h2,h3,⟨h4,h5,h6⟩,h7⟩:=hs.2.2 i k hk
  refine⟨b,o,v,h1,by omega,xO.of_below hB0 _ _ _ h2 h3,⟨h4,h5,fun j x hj=>?_⟩,h7⟩
  obtain⟨b2,o2,e1,e2,e3⟩:=h6 j x hj
  exact⟨b2,o2,e1,by omega,xO.of_below hB0 _ _ _ e2 e3⟩⟩
 have hx2:=vH (JM ls hx)
 have hC2:=vH hC
 have hP2:=vH hP
 have hall:=qbq 3 (w.heap.size+1+1) s ls W0 hsl hs0 hN
 clear hW hC hP hs hx hs0 hsl
 refine qfl (n:=4) (w:=W0) (gf:=190) (lb:=#[.pointer (some ⟨w.heap.size+1+1,0,none⟩)]) (p:=zS ps) (E:=zX ls) (by omega) rfl (enters_of func190 (by kernel_rfl) rfl) hall rfl
  (fun W=>BX w W/\qd W (w.heap.size+1) 4 #[.bool true])
  (fun A l o o' hl h1 h2 ⟨hb,hc⟩=>⟨Qr _ hb (by omega),(kP (by omega)).trans hc⟩)
  (fun v a' _=>a'=qiL C s w v) (fun _ _ _ _ _ _ _ _ _ h=>h) ?assign ?body ?done ?stop
 case assign=>
  intro l v W K hb hK
  gi_wp2
  exact hK _ _ (kB _ _) rfl
 case body=>
  rintro l x v a' W hmem hb rfl hI
  have hbW:BX w W:=hB0.trans (hb.mono (by omega))
  have c0:=(hbox.below hb (by omega)).cell (j:=0) (v:=.pointer (some ⟨C,0,none⟩)) rfl
  have hrW:=hres.below hb (by omega)
  have hxx:=hx2.out x hmem
  have K:=Yr C c ps v x W (hC2.out.below hbW hlt) (hP2.out.below hbW) hI (by have:=hI.1;have:=hxx.2;omega) hxx.1
  unfold qiL
  cases hp:zS ps x with
  |true=>
   rw[hp] at K
   gi_wp2_with (refine⟨trivial,?_⟩;gi_at_call 117;refine(CallsIn.inRound l (callsIn_wide.2 K)).mono ?_;clear K;rintro e W1 ⟨rfl,hb1⟩;have hr1:=hrW.below hb1 hrW.lt;have r0:=hr1.cell (j:=0) rfl;have r1:=hr1.frozen 0)
   exact⟨hp,(Je hb1).trans (KeepsOthers.setCell _ _ _),(hbW.trans (hb1.mono hbW.size)).setCell (p:=⟨w.heap.size+1,0,none⟩) (by simp) _,hr1.set (.bool true) (j:=0)⟩
  |false=>
   rw[hp] at K
   gi_wp2_with (refine⟨trivial,?_⟩;gi_at_call 117;refine(CallsIn.inRound l (callsIn_wide.2 K)).mono ?_;clear K;rintro e W1 ⟨rfl,hb1⟩)
   exact⟨hp,jC.of_below hb1,Je hb1,hb.trans (hb1.mono hb.size)⟩
 case done=>
  intro D W hD hb hno hK
  have hrW:=hres.below hb (by omega)
  have hbW:BX w W:=hB0.trans (hb.mono (by omega))
  have c0:=hrW.cell (j:=0) rfl
  have f0:=hrW.frozen 0
  have hans:qP ps ls=false:=by
   unfold qP
   rw[List.any_eq_false]
   intro x hx;rw[hno x hx];simp
  gi_wp2
  have hK':=(KeepsOthers.setCell W ⟨w.heap.size+1,0,none⟩ (.bool false)).same D _ hK rfl
  refine⟨by simp,.inl ⟨_,_,rfl,run_takeDeferred hK',?_⟩⟩
  have hc5:=cell_kept (World.cell?_setCell_same' W ⟨w.heap.size+1,0,none⟩ (.bool false) (by rw[c0];rfl)) (grownBy_putObj' _ D (.deferred none)) (fun r e=>by cases e;exact⟨_,hK',rfl⟩)
  refine⟨.bool false,?_,by rw[hans],(hbW.setCell (p:=⟨w.heap.size+1,0,none⟩) (by simp) _).trans (belowK_b (w:=w) (vL _) _ D _ _ (by omega) hK' rfl rfl)⟩
  simp[results,f122,go_sem,hc5]
 case stop=>
  rintro D W hD ⟨hb,hc⟩ ⟨x,hm,hp⟩ hK
  have hans:qP ps ls=true:=by
   unfold qP
   exact vU.2 ⟨x,hm,hp⟩
  gi_wp2
  refine⟨by simp,.inl ⟨_,_,rfl,run_takeDeferred hK,?_⟩⟩
  have hc5:=cell_kept (hc.cell (j:=0) (v:=.bool true) rfl) (grownBy_putObj' _ D (.deferred none)) (fun r e=>by cases e;exact⟨_,hK,rfl⟩)
  refine⟨.bool true,?_,by rw[hans],hb.trans (belowK_b (w:=w) (vL _) _ D _ _ (by omega) hK rfl rfl)⟩
  simp[results,f122,go_sem,hc5]
end
end Go.Proofs.YtomlgdnafeeeiaaGreatDoor
