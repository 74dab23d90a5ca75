/-
  take: all ways to take one of each list, told one after the other in one buffer. And what follows: see the heads within.
-/
import Derived.Test.YtkoloennfejaaaaGreatDoorMdOne
import Derived.Test.YtkoloennfejaaaaGreatDoorGeoOne
import Derived.Deep.RegionLaw
import Derived.Deep.Upon
import Derived.OwnWalk
import Derived.Lib.EndianMore
import Derived.Lib.JoinLaws
set_option maxHeartbeats 4000000
set_option maxRecDepth 100000
namespace Go.Proofs.YtkoloennfejaaaaGreatDoor
open Go.RowKit
attribute [local go_sem] Oper.semAt_some
def yI(n₀:Nat)(W:World)(s:SlV)(l:List Int):Prop:=
 s.n=l.length/\s.n<=s.c/\∀j x,l[j]?=some x->∃b o,s.a=some ⟨b,o,none⟩/\b<n₀/\W.cell? ⟨b,o+j,none⟩=some (.int .i64 x)
def zO(n₀:Nat)(W:World)(s:SlV)(ls:List (List Int)):Prop:=
 s.n=ls.length/\s.n<=s.c/\∀i l,ls[i]?=some l->∃b o v,s.a=some ⟨b,o,none⟩/\b<n₀/\W.cell? ⟨b,o+i,none⟩=some (SlV.v v)/\yI n₀ W v l/\l.length<=1000
def zf(n₀:Nat)(A B:World):Prop:=∀b j v,b<n₀->A.cell? ⟨b,j,none⟩=some v->B.cell? ⟨b,j,none⟩=some v
theorem zf.refl(n₀:Nat)(A:World):zf n₀ A A:=fun _ _ _ _ h=>h
theorem zf.trans{n₀:Nat}{A B C:World}(h:zf n₀ A B)(k:zf n₀ B C):zf n₀ A C:=fun b j v hb hc=>k b j v hb (h b j v hb hc)
theorem zf.of_kept{n₀:Nat}{A B:World}(h:zC A B):zf n₀ A B:=fun _ _ _ _ hc=>h.cell hc
theorem zf.of_below{n₀:Nat}{A B:World}(h:Below n₀ A B):zf n₀ A B:=fun b j _ hb hc=>(h.cell (p:=⟨b,j,none⟩) hb).trans hc
theorem yI.same{n₀:Nat}{A B:World}{s:SlV}{l:List Int}(h:yI n₀ A s l)(k:zf n₀ A B):yI n₀ B s l:=
 ⟨h.1,h.2.1,fun j x hj=>by obtain⟨b,o,h1,h2,h3⟩:=h.2.2 j x hj;exact⟨b,o,h1,h2,k _ _ _ h2 h3⟩⟩
theorem zO.same{n₀:Nat}{A B:World}{s:SlV}{ls:List (List Int)}(h:zO n₀ A s ls)(k:zf n₀ A B):zO n₀ B s ls:=
 ⟨h.1,h.2.1,fun i l hi=>by obtain⟨b,o,v,h1,h2,h3,h4,h5⟩:=h.2.2 i l hi;exact⟨b,o,v,h1,h2,k _ _ _ h2 h3,h4.same k,h5⟩⟩
def SlV.tail(s:SlV):SlV:=⟨if s.c=1 then s.a else s.a.map (·.add 1),s.n-1,s.c-1⟩
theorem zO.tail{n₀:Nat}{W:World}{s:SlV}{l:List Int}{ls:List (List Int)}(h:zO n₀ W s (l::ls)):zO n₀ W s.tail ls:=by
 obtain⟨h1,h2,h3⟩:=h
 simp only[List.length_cons] at h1
 refine⟨by unfold SlV.tail;dsimp only;omega,by unfold SlV.tail;dsimp only;omega,fun i k hk=>?_⟩
 have hi:i<ls.length:=(List.getElem?_eq_some_iff.1 hk).1
 obtain⟨b,o,v,e1,e2,e3,e4,e5⟩:=h3 (i+1) k (by simpa using hk)
 refine⟨b,o+1,v,?_,e2,?_,e4,e5⟩
 ·unfold SlV.tail;dsimp only
  rw[if_neg (by omega),e1];rfl
 ·rw[show o+1+i=o+(i+1) by omega];exact e3
structure zI(W:World)(Bf N:Nat)(tl:List Int):Prop where
 lt:Bf<W.heap.size
 le:tl.length<=N
 at_:∀j x,tl[j]?=some x->W.cell? ⟨Bf,j,none⟩=some (.int .i64 x)
 there:∀j,j<N->(W.cell? ⟨Bf,j,none⟩).isSome=true/\W.frozen? ⟨Bf,j,none⟩=false
theorem zI.of_block{A B:World}{Bf N:Nat}{tl:List Int}(h:zI A Bf N tl)(hs:A.heap.size<=B.heap.size)(hb:0<N->B.heap[Bf]?=A.heap[Bf]?):zI B Bf N tl:=by
 refine⟨Nat.lt_of_lt_of_le h.lt hs,h.le,fun j x hj=>?_,fun j hj=>?_⟩
 ·have:j<tl.length:=(List.getElem?_eq_some_iff.1 hj).1
  have:=h.le
  rw[World.cell?_of_block (w:=A) (hb (by omega))];exact h.at_ j x hj
 ·rw[World.cell?_of_block (w:=A) (hb (by omega)),World.frozen?_of_block (w:=A) (hb (by omega))];exact h.there j hj
theorem zI.kept{A B:World}{Bf N:Nat}{tl:List Int}(h:zI A Bf N tl)(k:zC A B):zI B Bf N tl:=by
 refine h.of_block k.1 fun h0=>?_
 obtain⟨v,hv⟩:=Option.isSome_iff_exists.1 (h.there 0 h0).1
 cases hh:A.heap[Bf]? with
 | none=>simp[World.cell?,hh] at hv
 | some o=>exact k.2 _ _ hh (by cases o <;> simp[World.cell?,hh,Obj.isCells] at hv ⊢)
theorem zI.below{A B:World}{Bf N:Nat}{tl:List Int}(h:zI A Bf N tl)(k:Below A.heap.size A B):zI B Bf N tl:=h.of_block k.size fun _=>k.block _ h.lt
theorem zI.ints{W:World}{Bf N:Nat}{tl:List Int}(h:zI W Bf N tl):IntsAt W ⟨some ⟨Bf,0,none⟩,tl.length,N⟩ tl:=
 ⟨rfl,h.le,fun j x hj=>⟨Bf,0,rfl,by rw[Nat.zero_add];exact h.at_ j x hj⟩⟩
theorem zI.put{W:World}{Bf N:Nat}{tl:List Int}(h:zI W Bf N tl)(r:Int)(hr:tl.length<N):zI (W.setCells Bf tl.length [.int .i64 r]) Bf N (tl++[r]):=by
 refine⟨?_,by simp;omega,fun j x hj=>?_,fun j hj=>⟨?_,?_⟩⟩
 ·exact Nat.lt_of_lt_of_le h.lt (Lib.below_setCells_w (B:=Bf) (g:=Bf) (Nat.le_refl _) _ _ _).size
 ·by_cases hjl:j<tl.length
  ·rw[World.cell?_setCells_out _ _ _ _ _ (fun _ _=>.inl hjl)]
   rw[List.getElem?_append_left hjl] at hj
   exact h.at_ j x hj
  ·have hj2:j=tl.length:=by have:=(List.getElem?_eq_some_iff.1 hj).1;simp at this;omega
   subst hj2
   have hx:r=x:=by simpa using hj
   subst hx
   exact World.cell?_setCells_in Bf [.int .i64 r] tl.length W (fun i hi=>by
    have:i=0:=by simpa using hi
    subst this;exact(h.there _ hr).1) 0 (by simp)
 ·exact Lib.isSome_setCells _ _ _ _ _ (h.there j hj).1
 ·rw[World.frozen?_setCells];exact(h.there j hj).2
theorem zI.cut{W:World}{Bf N:Nat}{tl:List Int}{r:Int}(h:zI W Bf N (tl++[r])):zI W Bf N tl:=
 ⟨h.lt,by have:=h.le;simp at this;omega,fun j x hj=>h.at_ j x (by rw[List.getElem?_append_left (List.getElem?_eq_some_iff.1 hj).1];exact hj),h.there⟩
end Go.Proofs.YtkoloennfejaaaaGreatDoor
namespace Go.Proofs.YtkoloennfejaaaaGreatDoor
open Go.RowKit
attribute [local go_sem] Oper.semAt_some
def yJ(tl:List Int)(rest:List (List Int))(xs:List Int):List (List Int):=xs.flatMap fun r=>(choicesS rest).map fun t=>(tl++[r])++t
theorem qdx(tl l:List Int)(rest:List (List Int)):(choicesS (l::rest)).map (tl++·)=yJ tl rest l:=by
 simp[choicesS,yJ,List.map_flatMap,Function.comp_def]
theorem XR(tl l:List Int)(rest:List (List Int))(k:Nat)(h:k<l.length):yJ tl rest (l.take (k+1))=yJ tl rest (l.take k)++(choicesS rest).map ((tl++[l[k]])++·):=by
 unfold yJ
 rw[List.take_succ_eq_append_getElem h,List.flatMap_append]
 simp
theorem YJ(tl l:List Int)(rest:List (List Int))(k:Nat):yJ tl rest (l.take k) <+: yJ tl rest l:=by
 have:l=l.take k++l.drop k:=(List.take_append_drop k l).symm
 conv=>rhs;rw[this]
 unfold yJ
 rw[List.flatMap_append]
 exact List.prefix_append _ _
def qeK(n₀ Bf N:Nat)(J:List (List Int)->World->Prop)(Jx:World->Prop)(tl:List Int)(all:List (List Int))(W:World)(e:Ending)(B:World):Prop:=
 ∃ok,e = .returned (.bool ok)/\(ok=true->J all B/\zI B Bf N tl/\zf n₀ W B)/\(ok=false->Jx B)
theorem qbQ(l Bf N n₀:Nat)(J:List (List Int)->World->Prop)(Jx:World->Prop)(E:List (List Int))
 (hst:∀pre A B,J pre A->Below n₀ A B->J pre B)
 (hY:∀pre x A (v:SlV),J pre A->pre++[x] <+: E->IntsAt A v x->YieldAt Fence.wide 0 Tryz.prog l #[.slice v.a v.n v.c] A fun e B=>(e = .returned (.bool true)/\J (pre++[x]) B/\zC A B)∨(e = .returned (.bool false)/\Jx B))
 (hB:n₀<=Bf) :
 ∀ (ls:List (List Int)) (s:SlV) (tl:List Int) (pre:List (List Int)) (W:World),zO n₀ W s ls->zI W Bf N tl->tl.length+ls.length=N->J pre W->pre++(choicesS ls).map (tl++·) <+: E ->
  Calls Tryz.prog 208 #[.slice s.a s.n s.c,.slice (some ⟨Bf,0,none⟩) tl.length N,.func (.yield l) #[] #[]] W (qeK n₀ Bf N J Jx tl (pre++(choicesS ls).map (tl++·)) W):=by
 intro ls
 induction ls with
 |nil=>
  intro s tl pre W hs hb hl hj hE
  have hn:s.n=0:=by simpa using hs.1
  rw[hn]
  have hY0:=YieldAt.mono (R':=fun e B=>∃ok,e = .returned (.bool ok)/\(ok=true->J (pre++[tl]) B/\zI B Bf N tl/\zf n₀ W B)/\(ok=false->Jx B))
   (hY pre tl W ⟨some ⟨Bf,0,none⟩,tl.length,N⟩ hj (by simpa[choicesS] using hE) hb.ints)
   (fun e B h=>by
     rcases h with⟨he,h1,h2⟩|⟨he,h1⟩
     ·exact⟨true,he,fun _=>⟨h1,hb.kept h2,zf.of_kept h2⟩,fun h=>by cases h⟩
     ·exact⟨false,he,(fun h=>by cases h),fun _=>h1⟩)
  obtain⟨fn,tmps,assign,body,hy,hR⟩:=hY0
  dsimp only at hy
  clear hY hs hb hj hE hst
  refine(callsIn_wide (n:=1)).1 ?_
  refine callsIn_of_wp Tryz.func208 rfl trivial ?_ rfl
  simp only[Tryz.ntmps208,List.size_toArray,List.length_cons,List.length_nil,Nat.reduceAdd,Nat.reduceSub,Array.replicate_succ,Array.replicate_zero,List.push_toArray,List.append_toArray,List.nil_append,List.cons_append]
  gi_wp2_with (refine hR.mono ?_;clear hR;rintro e W1 ⟨ok,rfl,hp⟩)
  go_ret
  exact⟨ok,rfl,by simpa[choicesS] using hp⟩
 |cons hd rest ih=>
  intro s tl pre W hs hb hl hj hE
  rw[qdx] at hE ⊢
  obtain⟨sb,so,sv,e1,e2,e3,e4,e5⟩:=hs.2.2 0 hd rfl
  have hn1:=hs.1
  have hn2:=hs.2.1
  simp only[List.length_cons] at hn1 hl
  have htail:=hs.tail
  obtain⟨sa,sn,sc⟩:=s
  obtain⟨va,vn,vc⟩:=sv
  dsimp only at e1 hn1 hn2
  subst e1
  have hvn:vn=hd.length:=e4.1
  rw[Nat.add_zero] at e3
  unfold SlV.v at e3
  dsimp only at e3
  have hn0:(sn:Int)≠0:=by omega
  have hn3:(0:Int)<sn:=by omega
  have hn4:(1:Int)<=sn:=by omega
  have hsn:sn≠0:=by omega
  have ihH:=Lib.hid ih
  have hstH:=Lib.hid hst
  clear ih hY hs
  replace hn1:=Lib.hid hn1
  go_enter Tryz.func208,Tryz.ntmps208
  go_wp2_with fail
  go_loopw [19] (fun i wr=>∃k:Nat,i = .int .i64 k/\k<=hd.length/\J (pre++yJ tl rest (hd.take k)) wr/\zI wr Bf N tl/\zf n₀ W wr) (fun i _=>hd.length-(intOf i).toNat)
  case atStart=>exact⟨0,rfl,Nat.zero_le _,by simpa[yJ] using hj,hb,zf.refl _ _⟩
  case round=>
   obtain⟨k,rfl,hk,hjk,hbk,hsk⟩:=hrel
   subst hvn
   by_cases hlt:k<hd.length
   ·obtain⟨b2,o2,rfl,e42,e43⟩:=e4.2.2 k hd[k] (List.getElem?_eq_getElem hlt)
    have hcell:=hsk _ _ _ e42 e43
    have k0:(0:Int)<=(k:Int):=Int.natCast_nonneg _
    have k1:(k:Int)<hd.length:=by omega
    have hwk:IntKind.i64.wrap ((k:Int)+1)=k+1:=IntWalk.i64_in _ (by omega)
    have hroom:tl.length<N:=by omega
    obtain⟨r,hr⟩:∃r,r=hd[k]:=⟨_,rfl⟩
    rw[←hr] at hcell
    have hb0:Below wr.heap.size wr (wr.alloc (.cells #[.int .i64 r] 3)):=qe
    have hbuf1:=(hbk.below hb0).put r hroom
    have hB2:Below n₀ wr ((wr.alloc (.cells #[.int .i64 r] 3)).setCells Bf tl.length [.int .i64 r]):=(hb0.mono (by have:=hbk.lt;omega)).trans (Lib.below_setCells_w hB _ _ _)
    have hj2:=hstH.out _ _ _ hjk hB2
    have hsame2:=hsk.trans (zf.of_below hB2)
    have hl2:=htail.same hsame2
    have C:∀V,Below ((wr.alloc (.cells #[.int .i64 r] 3)).setCells Bf tl.length [.int .i64 r]).heap.size ((wr.alloc (.cells #[.int .i64 r] 3)).setCells Bf tl.length [.int .i64 r]) V ->
     Calls Tryz.prog 208 #[.slice (if sc=1 then some ⟨sb,so,none⟩ else some ⟨sb,so+1,none⟩) (sn-1) (sc-1),.slice (some ⟨Bf,0,none⟩) (tl.length+1) N,.func (.yield l) #[] #[]] V
      fun e B=>∃ok,e = .returned (.bool ok)/\(ok=true->J (pre++yJ tl rest (hd.take (k+1))) B/\zI B Bf N tl/\zf n₀ W B)/\(ok=false->Jx B):=fun V hV=>by
     have hVn:Below n₀ ((wr.alloc (.cells #[.int .i64 r] 3)).setCells Bf tl.length [.int .i64 r]) V:=hV.mono (by have:=hbuf1.lt;omega)
     have:=ihH.out (SlV.tail ⟨some ⟨sb,so,none⟩,sn,sc⟩) (tl++[r]) (pre++yJ tl rest (hd.take k)) V (hl2.same (zf.of_below hVn)) (hbuf1.below hV) (by simp;omega) (hstH.out _ _ _ hj2 hVn) (by
      refine List.IsPrefix.trans ?_ hE
      rw[hr,List.append_assoc,←XR tl hd rest k hlt]
      exact(List.prefix_append_right_inj pre).2 (YJ tl hd rest (k+1)))
     rw[List.length_append,List.length_singleton] at this
     refine this.mono fun e B ⟨ok,he,h1,h2⟩=>⟨ok,he,fun h=>?_,h2⟩
     obtain⟨g1,g2,g3⟩:=h1 h
     rw[hr,List.append_assoc,←XR tl hd rest k hlt] at g1
     exact⟨g1,g2.cut,(hsame2.trans (zf.of_below hVn)).trans g3⟩
    have hbT:=Lib.hid ((hbk.below hb0).there tl.length hroom)
    obtain⟨j0,hj0,hj1,hj2',hj3⟩:=info_parts Tryz.infoInt
    clear hbk hsk hjk hj hb hE hl2 hj2 hsame2 htail e43 hr e42 e5 hl
    go_wp2_with fail
    go_region_law (first
     |(refine step_append_room (by rfl) _ _ _ (by rfl) _ j0 1 Tryz.underlying41 hj0 hj2' Bf 0 tl.length N (by rfl) ⟨wr.heap.size,0,none⟩ 1 1 [.int .i64 r] (by rfl) (by rfl) (World.news_of_block (cs:=#[.int .i64 r]) (t:=3) (fr:=(0,0)) (heap_alloc_new wr _)) (by simp[Value.oneCell']) (by omega) (fun j hj=>by have hj0:j=0:=(by simpa using hj);subst hj0;rw[Nat.zero_add,Nat.mul_one,Nat.add_zero];exact hbT.out) ?_)
     |(go_simp;go_at_call 208;refine(C _ (by first|exact Below.refl _ _|exact(Below.refl _ _).drew)).mono ?_;rintro e B ⟨ok,rfl,h1,h2⟩))
    cases ok
    ·have h2':=h2 rfl
     clear h1 h2
     go_wp2_with fail
     all_goals
      go_ret
      exact⟨false,rfl,(fun h=>by cases h),fun _=>h2'⟩
    ·obtain⟨g1,g2,g3⟩:=h1 rfl
     clear h1 h2
     go_wp2_with fail
     all_goals exact⟨⟨k+1,by go_num,by omega,g1,g2,g3⟩,by simp[intOf];omega⟩
   ·have hkk:k=hd.length:=by omega
    subst hkk
    rw[List.take_length] at hjk
    go_wp2_with fail
    go_ret
    exact⟨true,rfl,fun _=>⟨hjk,hbk,hsk⟩,fun h=>by cases h⟩
end Go.Proofs.YtkoloennfejaaaaGreatDoor
namespace Go.Proofs.YtkoloennfejaaaaGreatDoor
open Go.RowKit
attribute [local go_sem] Oper.semAt_some
theorem qap(s:SlV)(w:World):Calls Tryz.prog 180 #[.slice s.a s.n s.c] w fun e w'=>
 e = .returned (.func (.func 207) #[] #[.pointer (some ⟨w.heap.size,0,none⟩)])/\w'=w.alloc (.cells #[.slice s.a s.n s.c] 38):=by
 go_enter Tryz.func180,Tryz.ntmps180
 go_wp2
 go_ret
 exact⟨rfl,rfl⟩
theorem qdy(w:World)(N:Nat):zI (w.alloc (.cells (madeCells #[.int .i64 0] N) 3)) w.heap.size N []:=by
 refine⟨by simp,by simp,fun j x hj=>by simp at hj,fun j hj=>⟨?_,?_⟩⟩
 ·have hz:(madeCells #[Value.int .i64 0] N).toList=List.replicate N (.int .i64 0):=toList_madeCells_one _ _
  have:(madeCells #[Value.int .i64 0] N)[j]?=some (.int .i64 0):=by
   rw[←Array.getElem?_toList,hz,List.getElem?_replicate];simp[hj]
  rw[qC w _ _ this];rfl
 ·exact World.frozen?_alloc_at _ _ _ _ rfl
theorem Jw(n:Nat)(bx:Nat)(s:SlV)(ls:List (List Int))(w0:World)(hbx:w0.cell? ⟨bx,0,none⟩=some (.slice s.a s.n s.c))(hs:zO w0.heap.size w0 s ls)(hN:ls.length<=1000) :
 qez n Tryz.prog 207 #[.pointer (some ⟨bx,0,none⟩)] (choicesS ls) w0:=by
 intro l J Jx W hbW hst hY hJ
 have hbx':=cell_below hbW hbx
 have hsl:s.n=ls.length:=hs.1
 have hs':zO W.heap.size W s ls:=⟨hs.1,hs.2.1,fun i k hk=>by
  obtain⟨b,o,v,h1,h2,h3,⟨h4,h5,h6⟩,h7⟩:=hs.2.2 i k hk
  have hle:=hbW.size
  refine⟨b,o,v,h1,by omega,zf.of_below hbW _ _ _ h2 h3,⟨h4,h5,fun j x hj=>?_⟩,h7⟩
  obtain⟨b2,o2,e1,e2,e3⟩:=h6 j x hj
  exact⟨b2,o2,e1,by omega,zf.of_below hbW _ _ _ e2 e3⟩⟩
 have hb1:Below W.heap.size W (W.alloc (.cells (madeCells #[.int .i64 0] ls.length) 3)):=qe
 have hmk:=fun w=>run_make_room (P:=Tryz.prog) 41 3 (.int .i64 0) 8 Tryz.underlying41 Tryz.infoInt rfl .i64 .i64 ls.length (by omega) (by omega) w
 have C:∀V,Below (W.alloc (.cells (madeCells #[.int .i64 0] ls.length) 3)).heap.size (W.alloc (.cells (madeCells #[.int .i64 0] ls.length) 3)) V ->
  Calls Tryz.prog 208 #[.slice s.a ls.length s.c,.slice (some ⟨W.heap.size,0,none⟩) 0 ls.length,.func (.yield l) #[] #[]] V
   fun e B=>∃ok,e = .returned (.bool ok)/\(J (choicesS ls) B∨Jx B):=fun V hV=>by
  have hVn:Below W.heap.size W V:=hb1.trans (hV.mono hb1.size)
  have:=qbQ l W.heap.size ls.length W.heap.size J Jx (choicesS ls) hst (fun pre x A v hj hp hi=>ze (hY pre x A v hj hp hi)) (Nat.le_refl _) ls s [] [] V (hs'.same (zf.of_below hVn)) ((qdy W ls.length).below hV) (by simp) (hst _ _ _ hJ hVn) (by simp)
  rw[hsl,List.length_nil] at this
  refine this.mono fun e B ⟨ok,he,h1,h2⟩=>⟨ok,he,?_⟩
  cases ok with
  | true=>exact .inl (by simpa using(h1 rfl).1)
  | false=>exact .inr (h2 rfl)
 rw[hsl] at hbx'
 have hbx2:=qf (.cells (madeCells #[.int .i64 0] ls.length) 3) hbx'
 clear hs hs' hbx hY hJ hsl
 refine callsIn_wide.2 ?_
 show Calls _ _ #[.func (.yield l) #[] #[],.pointer (some ⟨bx,0,none⟩)] _ _
 go_enter Tryz.func207,Tryz.ntmps207
 go_wp2_with fail
 go_region_law (go_simp;go_at_call 208;refine(C _ (by first|exact Below.refl _ _|exact(Below.refl _ _).drew)).mono ?_;rintro e B ⟨ok,rfl,hp⟩)
 all_goals
  go_wp2_with fail
  exact bodyPost_end (results_none rfl _ _ _) rfl ⟨⟨_,rfl⟩,hp⟩
end Go.Proofs.YtkoloennfejaaaaGreatDoor
namespace Go.Proofs.YtkoloennfejaaaaGreatDoor
open Go.RowKit
attribute [local go_sem] Oper.semAt_some
def qeL(C:Nat)(s:SlV)(w:World)(v:SlV):Act:=
 { tmps:=#[Value.pointer (some ⟨C,0,none⟩),Value.slice s.a s.n s.c,Value.pointer (some ⟨w.heap.size,0,none⟩),undef,Value.pointer (some ⟨w.heap.size+1,0,none⟩),Value.slice v.a v.n v.c,Value.slice s.a s.n s.c,Value.func (.func 207) #[] #[.pointer (some ⟨w.heap.size+1+1,0,none⟩)],Value.slice v.a v.n v.c,undef,undef,undef],defers:=[] }
theorem Zf{ps:List Plc} : ∀ (ls:List (List Int)),(∀l,l∈ls->∀x,x∈l->Num ps x)->∀t,t∈choicesS ls->(∀x,x∈t->Num ps x)/\t.length=ls.length
 |[],_,t,ht=>by
  have:t = []:=by simpa[choicesS] using ht
  subst this;exact⟨(fun x hx=>by cases hx),rfl⟩
 |l::rest,h,t,ht=>by
  simp only[choicesS,List.mem_flatMap,List.mem_map] at ht
  obtain⟨r,hr,t2,ht2,rfl⟩:=ht
  have ih:=Zf rest (fun k hk=>h k (by simp[hk])) t2 ht2
  refine⟨fun x hx=>?_,by simp[ih.2]⟩
  rcases List.mem_cons.1 hx with rfl|hx
  ·exact h l (by simp) _ hr
  ·exact ih.1 x hx
theorem Qy{W W':World}(hb:Below W.heap.size W W'):KeepsOthers W W':=⟨hb.size,fun i _ hi _=>(hb.block i (qm hi)).trans hi⟩
theorem Zg(C:Nat)(c:CV)(ps:List Plc)(s:SlV)(ls:List (List Int))(w:World)(hC:ChkAt w C c)(hP:qP w c ps)(hs:zO w.heap.size w s ls)(hN:ls.length<=1000)(hx:∀l,l∈ls->∀x,x∈l->Num ps x) :
 Calls Tryz.prog 149 #[.pointer (some ⟨C,0,none⟩),.slice s.a s.n s.c] w fun e w'=>e = .returned (.bool (qt ps ls))/\Below w.heap.size w w':=by
 have hlt:=hC.lt
 have hB0:Below w.heap.size w (((w.alloc (.cells #[.pointer (some ⟨C,0,none⟩)] 158)).alloc (.cells #[.bool false] 4)).alloc (.cells #[.slice s.a s.n s.c] 38)):=
  (qe.alloc (by simp) _).alloc (by simp;omega) _
 refine(callsIn_wide (n:=4)).1 ?_
 refine callsIn_of_wp_marks Tryz.func149 rfl trivial ?_ rfl
 simp only[Tryz.ntmps149,List.size_toArray,List.length_cons,List.length_nil,Nat.reduceAdd,Nat.reduceSub,Array.replicate_succ,Array.replicate_zero,List.push_toArray,List.append_toArray,List.nil_append,List.cons_append]
 gi_wp2_with (refine⟨trivial,?_⟩;gi_at_call 180;refine(callsIn_wide.2 (qap s _)).mono ?_;rintro e w' ⟨rfl,rfl⟩)
 generalize hW:(((w.alloc (.cells #[.pointer (some ⟨C,0,none⟩)] 158)).alloc (.cells #[.bool false] 4)).alloc (.cells #[.slice s.a s.n s.c] 38))=W0 at hB0 ⊢
 have hz0:W0.heap.size=w.heap.size+3:=by rw[←hW];simp
 have hbox:Cells W0 w.heap.size 158 #[.pointer (some ⟨C,0,none⟩)]:=by rw[←hW];exact((Cells.new _ _ _).alloc _).alloc _
 have hres:Cells W0 (w.heap.size+1) 4 #[.bool false]:=by
  rw[←hW]
  have:=(Cells.new (w.alloc (.cells #[.pointer (some ⟨C,0,none⟩)] 158)) 4 #[.bool false]).alloc (.cells #[.slice s.a s.n s.c] 38)
  rw[World.size_alloc] at this;exact this
 have hsl:W0.cell? ⟨w.heap.size+1+1,0,none⟩=some (.slice s.a s.n s.c):=by
  rw[←hW]
  have:=qC ((w.alloc (.cells #[.pointer (some ⟨C,0,none⟩)] 158)).alloc (.cells #[.bool false] 4)) #[.slice s.a s.n s.c] 38 (j:=0) rfl
  rw[World.size_alloc,World.size_alloc] at this;exact this
 have hs0:zO W0.heap.size W0 s ls:=⟨hs.1,hs.2.1,fun i k hk=>by
  obtain⟨b,o,v,h1,h2,h3,⟨h4,h5,h6⟩,h7⟩:=hs.2.2 i k hk
  refine⟨b,o,v,h1,by omega,zf.of_below hB0 _ _ _ h2 h3,⟨h4,h5,fun j x hj=>?_⟩,h7⟩
  obtain⟨b2,o2,e1,e2,e3⟩:=h6 j x hj
  exact⟨b2,o2,e1,by omega,zf.of_below hB0 _ _ _ e2 e3⟩⟩
 have hx2:=Lib.hid (Zf ls hx)
 have hC2:=Lib.hid hC
 have hP2:=Lib.hid hP
 have hall:=Jw 3 (w.heap.size+1+1) s ls W0 hsl hs0 hN
 clear hW hC hP hs hx hs0 hsl
 refine qbG (n:=4) (w:=W0) (gf:=207) (lb:=#[.pointer (some ⟨w.heap.size+1+1,0,none⟩)]) (p:=apartB ps) (E:=choicesS ls) (by omega) rfl (enters_of Tryz.func207 (by kernel_rfl) rfl) hall rfl
  (fun W=>Below w.heap.size w W/\Cells W (w.heap.size+1) 4 #[.bool true])
  (fun A l o o' hl h1 h2 ⟨hb,hc⟩=>⟨ja _ hb (by omega),(World.putObj_heap_other (by omega)).trans hc⟩)
  (fun v a' _=>a'=qeL C s w v) (fun _ _ _ _ _ _ _ _ _ h=>h) ?assign ?body ?done ?stop
 case assign=>
  intro l v W K hb hK
  gi_wp2
  exact hK _ _ (Below.refl _ _) rfl
 case body=>
  rintro l x v a' W hmem hb rfl hI
  have hbW:Below w.heap.size w W:=hB0.trans (hb.mono (by omega))
  have c0:=(hbox.below hb (by omega)).cell (j:=0) (v:=.pointer (some ⟨C,0,none⟩)) rfl
  have hrW:=hres.below hb (by omega)
  have hxx:=hx2.out x hmem
  have K:=ZD C c ps v x W (hC2.out.below hbW hlt) (hP2.out.below hbW) hI (by have:=hI.1;have:=hxx.2;omega) hxx.1
  unfold qeL
  cases hp:apartB ps x with
  |true=>
   rw[hp] at K
   gi_wp2_with (refine⟨trivial,?_⟩;gi_at_call 144;refine(CallsIn.inRound l (callsIn_wide.2 K)).mono ?_;clear K;rintro e W1 ⟨rfl,hb1⟩;have hr1:=hrW.below hb1 hrW.lt;have r0:=hr1.cell (j:=0) rfl;have r1:=hr1.frozen 0)
   exact⟨hp,(Qy hb1).trans (KeepsOthers.setCell _ _ _),(hbW.trans (hb1.mono hbW.size)).setCell (p:=⟨w.heap.size+1,0,none⟩) (by simp) _,hr1.set (.bool true) (j:=0)⟩
  |false=>
   rw[hp] at K
   gi_wp2_with (refine⟨trivial,?_⟩;gi_at_call 144;refine(CallsIn.inRound l (callsIn_wide.2 K)).mono ?_;clear K;rintro e W1 ⟨rfl,hb1⟩)
   exact⟨hp,zC.of_below hb1,Qy hb1,hb.trans (hb1.mono hb.size)⟩
 case done=>
  intro D W hD hb hno hK
  have hrW:=hres.below hb (by omega)
  have hbW:Below w.heap.size w W:=hB0.trans (hb.mono (by omega))
  have c0:=hrW.cell (j:=0) rfl
  have f0:=hrW.frozen 0
  have hans:qt ps ls=false:=by
   unfold qt
   rw[List.any_eq_false]
   intro x hx;rw[hno x hx];simp
  gi_wp2
  have hK':=(KeepsOthers.setCell W ⟨w.heap.size+1,0,none⟩ (.bool false)).same D _ hK rfl
  refine⟨by simp,.inl ⟨_,_,rfl,run_takeDeferred hK',?_⟩⟩
  have hc5:=cell_kept (World.cell?_setCell_same' W ⟨w.heap.size+1,0,none⟩ (.bool false) (by rw[c0];rfl)) (grownBy_putObj' _ D (.deferred none)) (fun r e=>by cases e;exact⟨_,hK',rfl⟩)
  refine⟨.bool false,?_,by rw[hans],(hbW.setCell (p:=⟨w.heap.size+1,0,none⟩) (by simp) _).trans (belowK_b (w:=w) (Nat.le_refl _) _ D _ _ (by omega) hK' rfl rfl)⟩
  simp[results,Tryz.f149,go_sem,hc5]
 case stop=>
  rintro D W hD ⟨hb,hc⟩ ⟨x,hm,hp⟩ hK
  have hans:qt ps ls=true:=by
   unfold qt
   exact List.any_eq_true.2 ⟨x,hm,hp⟩
  gi_wp2
  refine⟨by simp,.inl ⟨_,_,rfl,run_takeDeferred hK,?_⟩⟩
  have hc5:=cell_kept (hc.cell (j:=0) (v:=.bool true) rfl) (grownBy_putObj' _ D (.deferred none)) (fun r e=>by cases e;exact⟨_,hK,rfl⟩)
  refine⟨.bool true,?_,by rw[hans],hb.trans (belowK_b (w:=w) (Nat.le_refl _) _ D _ _ (by omega) hK rfl rfl)⟩
  simp[results,Tryz.f149,go_sem,hc5]
end Go.Proofs.YtkoloennfejaaaaGreatDoor
