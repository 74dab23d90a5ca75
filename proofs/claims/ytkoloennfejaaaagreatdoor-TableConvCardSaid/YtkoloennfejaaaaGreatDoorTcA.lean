/-
  Registers within registers that are the same but for where their slices lie; registers in blocks of which something is known.
-/
import Derived.Test.YtkoloennfejaaaaGreatDoorMeAll
namespace Go.Proofs.YtkoloennfejaaaaGreatDoor
open Go.RowKit
def RegL.Like:RegL->RegL->Prop
 | .nil,.nil=>True
 | .cons n w a _ s r,.cons n' w' a' _ s' r'=>n=n'/\w=w'/\a=a'/\RegL.Like s s'/\RegL.Like r r'
 | _,_=>False
theorem RegL.Like.refl:∀L:RegL,L.Like L
 | .nil=>trivial
 | .cons _ _ _ _ s r=>⟨rfl,rfl,rfl,RegL.Like.refl s,RegL.Like.refl r⟩
theorem RegL.Like.length:∀ {L M:RegL},L.Like M->L.length=M.length
 | .nil,.nil,_=>rfl
 | .cons ..,.cons ..,h=>by simp only[RegL.length,RegL.Like.length h.2.2.2.2]
 | .nil,.cons ..,h=>h.elim
 | .cons ..,.nil,h=>h.elim
theorem RegL.Like.total:∀ {L M:RegL},L.Like M->L.total=M.total
 | .nil,.nil,_=>rfl
 | .cons ..,.cons ..,h=>by simp only[RegL.total,RegL.Like.total h.2.2.2.2,RegL.Like.total h.2.2.2.1]
 | .nil,.cons ..,h=>h.elim
 | .cons ..,.nil,h=>h.elim
def qcT(r:qD):ByteArray×Int×Int:=(r.name,r.wd,r.at_)
def jT(p:Spot×List qD):(ByteArray×Int×Int)×(Int×Int×Int×Int)×List (ByteArray×Int×Int):=((p.1.name,p.1.wd,p.1.at_),(p.1.deep,p.1.root,p.1.aAt,p.1.aW),p.2.map qcT)
theorem jJ:∀ (L M:RegL),L.Like M->∀ (deep root aAt aW:Int) (sv sv':Value) (i:Nat) (ahead ahead':List qD),ahead.map qcT=ahead'.map qcT ->
 (spotsInA deep root aAt aW sv i ahead L).map jT=(spotsInA deep root aAt aW sv' i ahead' M).map jT
 | .nil,.nil,_,_,_,_,_,_,_,_,_,_,_=>rfl
 |.cons n w a v s r,.cons n' w' a' v' s' r',h,deep,root,aAt,aW,sv,sv',i,ahead,ahead',he=>by
  obtain⟨rfl,rfl,rfl,h1,h2⟩:=h
  simp only[spotsInA,List.map_cons,List.map_append]
  rw[jJ s s' h1 (deep+1) root (aAt+a) w v v' 0 [] [] rfl,jJ r r' h2 deep root aAt aW sv sv' (i+1) (ahead++[qD.mk n w a v]) (ahead'++[qD.mk n w a v']) (by simp only[List.map_append,he];rfl)]
  simp only[jT,he]
 | .nil,.cons ..,h,_,_,_,_,_,_,_,_,_,_=>h.elim
 | .cons ..,.nil,h,_,_,_,_,_,_,_,_,_,_=>h.elim
theorem xg:∀ (L M:RegL),L.Like M->∀i:Nat,(spotsOutA i L).map jT=(spotsOutA i M).map jT
 | .nil,.nil,_,_=>rfl
 |.cons n w a v s r,.cons n' w' a' v' s' r',h,i=>by
  obtain⟨rfl,rfl,rfl,h1,h2⟩:=h
  simp only[spotsOutA,List.map_cons,List.map_append,List.cons_append]
  rw[jJ s s' h1 (1+1) i (0+a) w v v' 0 [] [] rfl,xg r r' h2 (i+1)]
  rfl
 | .nil,.cons ..,h,_=>h.elim
 | .cons ..,.nil,h,_=>h.elim
theorem qcq(nm:ByteArray->Bool)(names:List ByteArray){p q:Spot×List qD}(h:jT p=jT q):qK nm names p=qK nm names q:=by
 obtain⟨⟨n,w,a,v,d,r,aA,aW,av⟩,l⟩:=p
 obtain⟨⟨n',w',a',v',d',r',aA',aW',av'⟩,l'⟩:=q
 simp only[jT,Prod.mk.injEq] at h
 obtain⟨⟨rfl,rfl,rfl⟩,⟨rfl,rfl,rfl,rfl⟩,hl⟩:=h
 have ha:∀k:List qD,(k.any fun r=>lapB (aA+r.at_) r.wd (aA+a) w)=(k.map qcT).any fun r=>lapB (aA+r.2.2) r.2.1 (aA+a) w:=fun k=>by rw[List.any_map];rfl
 simp only[qK,ha,hl]
theorem Qe(nm:ByteArray->Bool):∀ (l m:List (Spot×List qD)) (names:List ByteArray),l.map jT=m.map jT->placesErr nm names l=placesErr nm names m
 | [],[],_,_=>rfl
 |p::r,q::s,names,h=>by
  simp only[List.map_cons,List.cons.injEq] at h
  have hn:p.1.name=q.1.name:=by have:=h.1;simp only[jT,Prod.mk.injEq] at this;exact this.1.1
  simp only[placesErr,qcq nm names h.1,Qe nm r s _ h.2,hn]
 | [],_::_,_,h=>by simp at h
 | _::_,[],_,h=>by simp at h
theorem qcr{L M:RegL}(h:L.Like M):regsE L=regsE M:=Qe _ _ _ _ (xg L M h 0)
theorem qaT{L M:RegL}(h:L.Like M):(spotsOut 0 L).map (·.name)=(spotsOut 0 M).map (·.name):=by
 have:=congrArg (List.map fun q=>q.1.1) (xg L M h 0)
 rw[←qJ,←qJ]
 simpa[List.map_map,Function.comp_def,jT] using this
theorem qfy{L M:RegL}(h:L.Like M):(spotsOut 0 L).map Spot.place=(spotsOut 0 M).map Spot.place:=by
 have:=congrArg (List.map fun q=>(q.2.1.2.1,q.2.1.2.2.1+q.1.2.2,q.1.2.1)) (xg L M h 0)
 rw[←qJ,←qJ]
 simpa[List.map_map,Function.comp_def,jT,Spot.place] using this
structure Xr where
 name:ByteArray
 wd:Int
 at_:Int
 sv:Value
 subs:RegL
def RegL.toL:RegL->List Xr
 | .nil=>[]
 | .cons n w a v s r=>⟨n,w,a,v,s⟩::r.toL
def RegL.ofL:List Xr->RegL
 | []=>.nil
 | x::r=>.cons x.name x.wd x.at_ x.sv x.subs (RegL.ofL r)
theorem RegL.ofL_toL:∀L:RegL,RegL.ofL L.toL=L
 | .nil=>rfl
 | .cons n w a v s r=>by simp only[RegL.toL,RegL.ofL,RegL.ofL_toL r]
theorem RegL.toL_length:∀L:RegL,L.toL.length=L.length
 | .nil=>rfl
 | .cons n w a v s r=>by simp only[RegL.toL,List.length_cons,RegL.length,RegL.toL_length r]
theorem RegL.ofL_length:∀l:List Xr,(RegL.ofL l).length=l.length
 | []=>rfl
 | x::r=>by simp only[RegL.ofL,RegL.length,List.length_cons,RegL.ofL_length r]
theorem RegL.like_of:∀ {l m:List Xr},l.length=m.length->(∀ (i:Nat) x y,l[i]?=some x->m[i]?=some y->x.name=y.name/\x.wd=y.wd/\x.at_=y.at_/\x.subs.Like y.subs)->(RegL.ofL l).Like (RegL.ofL m)
 | [],[],_,_=>trivial
 |x::r,y::s,h,hp=>by
  obtain⟨h1,h2,h3,h4⟩:=hp 0 x y rfl rfl
  exact⟨h1,h2,h3,h4,RegL.like_of (by simpa using h) (fun i a b ha hb=>hp (i+1) a b ha hb)⟩
 | [],_::_,h,_=>by simp at h
 | _::_,[],h,_=>by simp at h
theorem RegL.sub_total:∀ {L:RegL} {i:Nat} {x:Xr},L.toL[i]?=some x->x.subs.total<L.total
 | .cons n w a v s r,0,x,h=>by cases h;simp only[RegL.total];omega
 |.cons n w a v s r,i+1,x,h=>by
  have:=RegL.sub_total (L:=r) (i:=i) (x:=x) h
  simp only[RegL.total];omega
theorem RegL.length_total:∀L:RegL,L.length<=L.total
 | .nil=>Nat.le_refl _
 | .cons n w a v s r=>by have:=RegL.length_total r;simp only[RegL.length,RegL.total];omega
def RegL.AllN(P:ByteArray->Prop):RegL->Prop
 | .nil=>True
 | .cons n _ _ _ s r=>P n/\RegL.AllN P s/\RegL.AllN P r
theorem RegL.name_in{P:ByteArray->Prop} : ∀ {L:RegL} {i:Nat} {x:Xr},L.AllN P->L.toL[i]?=some x->P x.name/\x.subs.AllN P
 | .cons n w a v s r,0,x,hP,h=>by cases h;exact⟨hP.1,hP.2.1⟩
 | .cons n w a v s r,i+1,x,hP,h=>RegL.name_in (L:=r) (i:=i) hP.2.2 h
theorem RegL.allN_in{P:ByteArray->Prop} : ∀ (L:RegL) (deep root aAt aW:Int) (sv:Value) (i:Nat),(∀x,x∈spotsIn deep root aAt aW sv i L->P x.name)->L.AllN P
 | .nil,_,_,_,_,_,_,_=>trivial
 |.cons n w a v s r,deep,root,aAt,aW,sv,i,h=>by
  simp only[spotsIn,List.mem_cons,List.mem_append] at h
  exact⟨h _ (.inl rfl),RegL.allN_in s _ _ _ _ _ _ (fun x hx=>h x (.inr (.inl hx))),RegL.allN_in r _ _ _ _ _ _ (fun x hx=>h x (.inr (.inr hx)))⟩
theorem RegL.allN_out{P:ByteArray->Prop} : ∀ (L:RegL) (i:Nat),(∀x,x∈spotsOut i L->P x.name)->L.AllN P
 | .nil,_,_=>trivial
 |.cons n w a v s r,i,h=>by
  simp only[spotsOut,List.cons_append,List.mem_cons,List.mem_append] at h
  exact⟨h _ (.inl rfl),RegL.allN_in s _ _ _ _ _ _ (fun x hx=>h x (.inr (.inl hx))),RegL.allN_out r _ (fun x hx=>h x (.inr (.inr hx)))⟩
theorem RegL.total_in:∀ (L:RegL) (deep root aAt aW:Int) (sv:Value) (i:Nat),(spotsIn deep root aAt aW sv i L).length=L.total
 | .nil,_,_,_,_,_,_=>rfl
 |.cons n w a v s r,deep,root,aAt,aW,sv,i=>by
  simp only[spotsIn,List.length_cons,List.length_append,RegL.total,RegL.total_in s,RegL.total_in r];omega
theorem RegL.total_out:∀ (L:RegL) (i:Nat),(spotsOut i L).length=L.total
 | .nil,_=>rfl
 |.cons n w a v s r,i=>by
  simp only[spotsOut,List.cons_append,List.length_cons,List.length_append,RegL.total,RegL.total_in s,RegL.total_out r];omega
def zj(S:Nat->Prop)(W:World)(b:Nat):Nat->RegL->Prop
 | _,.nil=>True
 | o,.cons nm wd at_ sv subs rest=>S b/\RegAt W b o ⟨nm,wd,at_,sv⟩/\zj S W b (o+4) rest /\
    ((sv = .slice none 0 0/\subs = .nil)∨∃b' o' c',sv = .slice (some ⟨b',o',none⟩) subs.length c'/\subs.length<=c'/\subs.length<=100000/\zj S W b' o' subs)
def SliceIn(S:Nat->Prop)(W:World)(sv:Value)(subs:RegL):Prop:=
 (sv = .slice none 0 0/\subs = .nil)∨∃b' o' c',sv = .slice (some ⟨b',o',none⟩) subs.length c'/\subs.length<=c'/\subs.length<=100000/\zj S W b' o' subs
theorem zj.of{S S':Nat->Prop}{W W':World}(hS:∀b,S b->S' b)(hc:∀b j v,S b->W.cell? ⟨b,j,none⟩=some v->W'.cell? ⟨b,j,none⟩=some v):∀ {L:RegL} {b o:Nat},zj S W b o L->zj S' W' b o L
 | .nil,_,_,_=>trivial
 | .cons _ _ _ _ _ _,_,_,⟨hb,hr,hrest,hs⟩=>⟨hS _ hb,yT hr (fun j v=>hc _ j v hb),zj.of hS hc hrest,hs.elim .inl (fun⟨b',o',c',e,h1,h2,h3⟩=>.inr ⟨b',o',c',e,h1,h2,zj.of hS hc h3⟩)⟩
theorem SliceIn.of{S S':Nat->Prop}{W W':World}(hS:∀b,S b->S' b)(hc:∀b j v,S b->W.cell? ⟨b,j,none⟩=some v->W'.cell? ⟨b,j,none⟩=some v){sv:Value}{L:RegL}(h:SliceIn S W sv L):SliceIn S' W' sv L:=
 h.elim .inl (fun⟨b',o',c',e,h1,h2,h3⟩=>.inr ⟨b',o',c',e,h1,h2,zj.of hS hc h3⟩)
theorem zj.at_{S:Nat->Prop}{W:World}{n₀:Nat}(hS:∀b,S b->b<n₀):∀ {L:RegL} {b o:Nat},zj S W b o L->ql n₀ W b o L
 | .nil,_,_,_=>trivial
 | .cons _ _ _ _ _ _,_,_,⟨hb,hr,hrest,hs⟩=>⟨hS _ hb,hr,zj.at_ hS hrest,hs.elim (fun h=>.inl ⟨⟨none,h.1⟩,h.2⟩) (fun⟨b',o',c',e,h1,h2,h3⟩=>.inr ⟨b',o',c',e,h1,h2,zj.at_ hS h3⟩)⟩
theorem zj.of_list{S:Nat->Prop}{W:World}{b:Nat} : ∀ {l:List Xr} {o:Nat},(∀ (i:Nat) x,l[i]?=some x->S b/\RegAt W b (o+i*4) ⟨x.name,x.wd,x.at_,x.sv⟩/\SliceIn S W x.sv x.subs)->zj S W b o (RegL.ofL l)
 | [],_,_=>trivial
 |x::r,o,h=>by
  obtain⟨h1,h2,h3⟩:=h 0 x rfl
  refine⟨h1,by simpa using h2,zj.of_list (fun i y hy=>?_),h3⟩
  have:=h (i+1) y hy
  rw[show o+(i+1)*4=o+4+i*4 by omega] at this
  exact this
theorem ql.get{n₀:Nat}{W:World}{b:Nat} : ∀ {L:RegL} {o i:Nat} {x:Xr},ql n₀ W b o L->L.toL[i]?=some x->b<n₀/\RegAt W b (o+i*4) ⟨x.name,x.wd,x.at_,x.sv⟩/\qu n₀ W x.sv x.subs
 | .cons n w a v s r,o,0,x,h,hx=>by cases hx;exact⟨h.1,by simpa using h.2.1,h.2.2.2⟩
 |.cons n w a v s r,o,i+1,x,h,hx=>by
  have:=ql.get (L:=r) h.2.2.1 hx
  rw[show o+4+i*4=o+(i+1)*4 by omega] at this
  exact this
end Go.Proofs.YtkoloennfejaaaaGreatDoor
