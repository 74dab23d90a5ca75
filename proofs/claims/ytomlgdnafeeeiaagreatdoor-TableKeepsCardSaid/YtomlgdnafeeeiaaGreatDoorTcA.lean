
import Derived.Test.YtomlgdnafeeeiaaGreatDoorMeAll
/-
 Registers within registers that are the same but for where their slices lie;registers in blocks of which something is known.
-/
namespace Go.Proofs.YtomlgdnafeeeiaaGreatDoor
open Go.RowKit
def qg.Like:qg->qg->Prop
 | .nil,.nil=>True
 | .cons n w a _ s r,.cons n' w' a' _ s' r'=>n=n'/\w=w'/\a=a'/\qg.Like s s'/\qg.Like r r'
 | _,_=>False
theorem qg.Like.refl:∀L:qg,L.Like L
 | .nil=>trivial
 | .cons _ _ _ _ s r=>⟨rfl,rfl,rfl,qg.Like.refl s,qg.Like.refl r⟩
theorem qg.Like.length:∀ {L M:qg},L.Like M->L.length=M.length
 | .nil,.nil,_=>rfl
 | .cons ..,.cons ..,h=>by simp only[qg.length,qg.Like.length h.2.2.2.2]
 | .nil,.cons ..,h=>h.elim
 | .cons ..,.nil,h=>h.elim
theorem qg.Like.total:∀ {L M:qg},L.Like M->L.total=M.total
 | .nil,.nil,_=>rfl
 | .cons ..,.cons ..,h=>by simp only[qg.total,qg.Like.total h.2.2.2.2,qg.Like.total h.2.2.2.1]
 | .nil,.cons ..,h=>h.elim
 | .cons ..,.nil,h=>h.elim
def qgz(r:zt):ByteArray×Int×Int:=(r.name,r.wd,r.at_)
def Zp(p:qA×List zt):(ByteArray×Int×Int)×(Int×Int×Int×Int)×List (ByteArray×Int×Int):=((p.1.name,p.1.wd,p.1.at_),(p.1.deep,p.1.root,p.1.aAt,p.1.aW),p.2.map qgz)
theorem Zd:∀ (L M:qg),L.Like M->∀ (deep root aAt aW:Int) (sv sv':Value) (i:Nat) (ahead ahead':List zt),ahead.map qgz=ahead'.map qgz ->
 (zG deep root aAt aW sv i ahead L).map Zp=(zG deep root aAt aW sv' i ahead' M).map Zp
 | .nil,.nil,_,_,_,_,_,_,_,_,_,_,_=>rfl
 |.cons n w a v s r,.cons n' w' a' v' s' r',h,deep,root,aAt,aW,sv,sv',i,ahead,ahead',he=>by
  obtain⟨rfl,rfl,rfl,h1,h2⟩:=h
  simp only[zG,List.map_cons,kM]
  rw[Zd s s' h1 (deep+1) root (aAt+a) w v v' 0 [] [] rfl,Zd r r' h2 deep root aAt aW sv sv' (i+1) (ahead++[zt.mk n w a v]) (ahead'++[zt.mk n w a v']) (by simp only[kM,he];rfl)]
  simp only[Zp,he]
 | .nil,.cons ..,h,_,_,_,_,_,_,_,_,_,_=>h.elim
 | .cons ..,.nil,h,_,_,_,_,_,_,_,_,_,_=>h.elim
theorem yx:∀ (L M:qg),L.Like M->∀i:Nat,(qH i L).map Zp=(qH i M).map Zp
 | .nil,.nil,_,_=>rfl
 |.cons n w a v s r,.cons n' w' a' v' s' r',h,i=>by
  obtain⟨rfl,rfl,rfl,h1,h2⟩:=h
  simp only[qH,List.map_cons,kM,List.cons_append]
  rw[Zd s s' h1 (1+1) i (0+a) w v v' 0 [] [] rfl,yx r r' h2 (i+1)]
  rfl
 | .nil,.cons ..,h,_=>h.elim
 | .cons ..,.nil,h,_=>h.elim
theorem qfV(nm:ByteArray->Bool)(names:List ByteArray){p q:qA×List zt}(h:Zp p=Zp q):zK nm names p=zK nm names q:=by
 obtain⟨⟨n,w,a,v,d,r,aA,aW,av⟩,l⟩:=p
 obtain⟨⟨n',w',a',v',d',r',aA',aW',av'⟩,l'⟩:=q
 simp only[Zp,Prod.mk.injEq] at h
 obtain⟨⟨rfl,rfl,rfl⟩,⟨rfl,rfl,rfl,rfl⟩,hl⟩:=h
 have ha:∀k:List zt,(k.any fun r=>jN (aA+r.at_) r.wd (aA+a) w)=(k.map qgz).any fun r=>jN (aA+r.2.2) r.2.1 (aA+a) w:=fun k=>by rw[List.any_map];rfl
 simp only[zK,ha,hl]
theorem Xz(nm:ByteArray->Bool):∀ (l m:List (qA×List zt)) (names:List ByteArray),l.map Zp=m.map Zp->qw nm names l=qw nm names m
 | [],[],_,_=>rfl
 |p::r,q::s,names,h=>by
  simp only[List.map_cons,List.cons.injEq] at h
  have hn:p.1.name=q.1.name:=by have:=h.1;simp only[Zp,Prod.mk.injEq] at this;exact this.1.1
  simp only[qw,qfV nm names h.1,Xz nm r s _ h.2,hn]
 | [],_::_,_,h=>by simp at h
 | _::_,[],_,h=>by simp at h
theorem qaT{L M:qg}(h:L.Like M):zB L=zB M:=Xz _ _ _ _ (yx L M h 0)
theorem Ya{L M:qg}(h:L.Like M):(qo 0 L).map (·.name)=(qo 0 M).map (·.name):=by
 have:=congrArg (List.map fun q=>q.1.1) (yx L M h 0)
 rw[←zz,←zz]
 simpa[List.map_map,Function.comp_def,Zp] using this
theorem qaU{L M:qg}(h:L.Like M):(qo 0 L).map qA.place=(qo 0 M).map qA.place:=by
 have:=congrArg (List.map fun q=>(q.2.1.2.1,q.2.1.2.2.1+q.1.2.2,q.1.2.1)) (yx L M h 0)
 rw[←zz,←zz]
 simpa[List.map_map,Function.comp_def,Zp,qA.place] using this
structure YD where
 name:ByteArray
 wd:Int
 at_:Int
 sv:Value
 subs:qg
def qg.toL:qg->List YD
 | .nil=>[]
 | .cons n w a v s r=>⟨n,w,a,v,s⟩::r.toL
def qg.ofL:List YD->qg
 | []=>.nil
 | x::r=>.cons x.name x.wd x.at_ x.sv x.subs (qg.ofL r)
theorem qg.ofL_toL:∀L:qg,qg.ofL L.toL=L
 | .nil=>rfl
 | .cons n w a v s r=>by simp only[qg.toL,qg.ofL,qg.ofL_toL r]
theorem qg.toL_length:∀L:qg,L.toL.length=L.length
 | .nil=>rfl
 | .cons n w a v s r=>by simp only[qg.toL,List.length_cons,qg.length,qg.toL_length r]
theorem qg.ofL_length:∀l:List YD,(qg.ofL l).length=l.length
 | []=>rfl
 | x::r=>by simp only[qg.ofL,qg.length,List.length_cons,qg.ofL_length r]
theorem qg.like_of:∀ {l m:List YD},l.length=m.length->(∀ (i:Nat) x y,l[i]?=some x->m[i]?=some y->x.name=y.name/\x.wd=y.wd/\x.at_=y.at_/\x.subs.Like y.subs)->(qg.ofL l).Like (qg.ofL m)
 | [],[],_,_=>trivial
 |x::r,y::s,h,hp=>by
  obtain⟨h1,h2,h3,h4⟩:=hp 0 x y rfl rfl
  exact⟨h1,h2,h3,h4,qg.like_of (by simpa using h) (fun i a b ha hb=>hp (i+1) a b ha hb)⟩
 | [],_::_,h,_=>by simp at h
 | _::_,[],h,_=>by simp at h
theorem qg.sub_total:∀ {L:qg} {i:Nat} {x:YD},L.toL[i]?=some x->x.subs.total<L.total
 | .cons n w a v s r,0,x,h=>by cases h;simp only[qg.total];omega
 |.cons n w a v s r,i+1,x,h=>by
  have:=qg.sub_total (L:=r) (i:=i) (x:=x) h
  simp only[qg.total];omega
theorem qg.length_total:∀L:qg,L.length<=L.total
 | .nil=>vL _
 | .cons n w a v s r=>by have:=qg.length_total r;simp only[qg.length,qg.total];omega
def qg.AllN(P:ByteArray->Prop):qg->Prop
 | .nil=>True
 | .cons n _ _ _ s r=>P n/\qg.AllN P s/\qg.AllN P r
theorem qg.name_in{P:ByteArray->Prop} : ∀ {L:qg} {i:Nat} {x:YD},L.AllN P->L.toL[i]?=some x->P x.name/\x.subs.AllN P
 | .cons n w a v s r,0,x,hP,h=>by cases h;exact⟨hP.1,hP.2.1⟩
 | .cons n w a v s r,i+1,x,hP,h=>qg.name_in (L:=r) (i:=i) hP.2.2 h
theorem qg.allN_in{P:ByteArray->Prop} : ∀ (L:qg) (deep root aAt aW:Int) (sv:Value) (i:Nat),(∀x,x∈qV deep root aAt aW sv i L->P x.name)->L.AllN P
 | .nil,_,_,_,_,_,_,_=>trivial
 |.cons n w a v s r,deep,root,aAt,aW,sv,i,h=>by
  simp only[qV,List.mem_cons,vC] at h
  exact⟨h _ (.inl rfl),qg.allN_in s _ _ _ _ _ _ (fun x hx=>h x (.inr (.inl hx))),qg.allN_in r _ _ _ _ _ _ (fun x hx=>h x (.inr (.inr hx)))⟩
theorem qg.allN_out{P:ByteArray->Prop} : ∀ (L:qg) (i:Nat),(∀x,x∈qo i L->P x.name)->L.AllN P
 | .nil,_,_=>trivial
 |.cons n w a v s r,i,h=>by
  simp only[qo,List.cons_append,List.mem_cons,vC] at h
  exact⟨h _ (.inl rfl),qg.allN_in s _ _ _ _ _ _ (fun x hx=>h x (.inr (.inl hx))),qg.allN_out r _ (fun x hx=>h x (.inr (.inr hx)))⟩
theorem qg.total_in:∀ (L:qg) (deep root aAt aW:Int) (sv:Value) (i:Nat),(qV deep root aAt aW sv i L).length=L.total
 | .nil,_,_,_,_,_,_=>rfl
 |.cons n w a v s r,deep,root,aAt,aW,sv,i=>by
  simp only[qV,List.length_cons,kA,qg.total,qg.total_in s,qg.total_in r];omega
theorem qg.total_out:∀ (L:qg) (i:Nat),(qo i L).length=L.total
 | .nil,_=>rfl
 |.cons n w a v s r,i=>by
  simp only[qo,List.cons_append,List.length_cons,kA,qg.total,qg.total_in s,qg.total_out r];omega
def xL(S:Nat->Prop)(W:World)(b:Nat):Nat->qg->Prop
 | _,.nil=>True
 | o,.cons nm wd at_ sv subs rest=>S b/\yW W b o ⟨nm,wd,at_,sv⟩/\xL S W b (o+4) rest /\
    ((sv = .slice none 0 0/\subs = .nil)∨∃b' o' c',sv = .slice (some ⟨b',o',none⟩) subs.length c'/\subs.length<=c'/\subs.length<=140737488355328/\xL S W b' o' subs)
def xX(S:Nat->Prop)(W:World)(sv:Value)(subs:qg):Prop:=
 (sv = .slice none 0 0/\subs = .nil)∨∃b' o' c',sv = .slice (some ⟨b',o',none⟩) subs.length c'/\subs.length<=c'/\subs.length<=140737488355328/\xL S W b' o' subs
theorem xL.of{S S':Nat->Prop}{W W':World}(hS:∀b,S b->S' b)(hc:∀b j v,S b->W.cell? ⟨b,j,none⟩=some v->W'.cell? ⟨b,j,none⟩=some v):∀ {L:qg} {b o:Nat},xL S W b o L->xL S' W' b o L
 | .nil,_,_,_=>trivial
 | .cons _ _ _ _ _ _,_,_,⟨hb,hr,hrest,hs⟩=>⟨hS _ hb,Xm hr (fun j v=>hc _ j v hb),xL.of hS hc hrest,hs.elim .inl (fun⟨b',o',c',e,h1,h2,h3⟩=>.inr ⟨b',o',c',e,h1,h2,xL.of hS hc h3⟩)⟩
theorem xX.of{S S':Nat->Prop}{W W':World}(hS:∀b,S b->S' b)(hc:∀b j v,S b->W.cell? ⟨b,j,none⟩=some v->W'.cell? ⟨b,j,none⟩=some v){sv:Value}{L:qg}(h:xX S W sv L):xX S' W' sv L:=
 h.elim .inl (fun⟨b',o',c',e,h1,h2,h3⟩=>.inr ⟨b',o',c',e,h1,h2,xL.of hS hc h3⟩)
theorem xL.at_{S:Nat->Prop}{W:World}{n₀:Nat}(hS:∀b,S b->b<n₀):∀ {L:qg} {b o:Nat},xL S W b o L->qB n₀ W b o L
 | .nil,_,_,_=>trivial
 | .cons _ _ _ _ _ _,_,_,⟨hb,hr,hrest,hs⟩=>⟨hS _ hb,hr,xL.at_ hS hrest,hs.elim (fun h=>.inl ⟨⟨none,h.1⟩,h.2⟩) (fun⟨b',o',c',e,h1,h2,h3⟩=>.inr ⟨b',o',c',e,h1,h2,xL.at_ hS h3⟩)⟩
theorem xL.of_list{S:Nat->Prop}{W:World}{b:Nat} : ∀ {l:List YD} {o:Nat},(∀ (i:Nat) x,l[i]?=some x->S b/\yW W b (o+i*4) ⟨x.name,x.wd,x.at_,x.sv⟩/\xX S W x.sv x.subs)->xL S W b o (qg.ofL l)
 | [],_,_=>trivial
 |x::r,o,h=>by
  obtain⟨h1,h2,h3⟩:=h 0 x rfl
  refine⟨h1,by simpa using h2,xL.of_list (fun i y hy=>?_),h3⟩
  have:=h (i+1) y hy
  rw[show o+(i+1)*4=o+4+i*4 by omega] at this
  exact this
theorem qB.get{n₀:Nat}{W:World}{b:Nat} : ∀ {L:qg} {o i:Nat} {x:YD},qB n₀ W b o L->L.toL[i]?=some x->b<n₀/\yW W b (o+i*4) ⟨x.name,x.wd,x.at_,x.sv⟩/\qM n₀ W x.sv x.subs
 | .cons n w a v s r,o,0,x,h,hx=>by cases hx;exact⟨h.1,by simpa using h.2.1,h.2.2.2⟩
 |.cons n w a v s r,o,i+1,x,h,hx=>by
  have:=qB.get (L:=r) h.2.2.1 hx
  rw[show o+4+i*4=o+(i+1)*4 by omega] at this
  exact this
end Go.Proofs.YtomlgdnafeeeiaaGreatDoor
