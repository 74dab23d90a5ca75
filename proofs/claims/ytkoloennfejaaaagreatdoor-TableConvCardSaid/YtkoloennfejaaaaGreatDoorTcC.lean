/-
  A table's rows of classes and of operations: at. What a row's slice reads as, from the row.
-/
import Derived.Test.YtkoloennfejaaaaGreatDoorTcB
import Derived.Test.YtkoloennfejaaaaGreatDoorTcDP
set_option maxHeartbeats 1600000
set_option maxRecDepth 100000
namespace Go.Proofs.YtkoloennfejaaaaGreatDoor
open Go.RowKit
def zk(W:World)(s:SlV)(l:List ClsT):Prop:=
 s.n=l.length/\s.n<=s.c/\∀ (j:Nat) (x:ClsT),l[j]?=some x->∃b o,s.a=some ⟨b,o,Option.none⟩/\W.cell? ⟨b,o+j*3,Option.none⟩=some (.slice x.list.a x.list.n x.list.c)/\W.cell? ⟨b,o+j*3+1,Option.none⟩=some (.slice x.set.a x.set.n x.set.c)/\W.cell? ⟨b,o+j*3+2,Option.none⟩=some (.int .i64 x.width)
theorem Zs(s:SlV)(m:Value)(l:List ClsT)(n:Int)(w:World)(h:zk w s l) :
 Calls Tryz.prog 47 #[.agg #[.slice s.a s.n s.c,m],.int .i64 n] w fun e w'=>e = .returned (.agg (if 0<=n then l.getD n.toNat ClsT.none else ClsT.none).v)/\Below w.heap.size w w':=by
 obtain⟨a,k,c⟩:=s
 obtain⟨hn,hc,hx⟩:=h
 dsimp only at hn hc hx ⊢
 subst hn
 by_cases h0:0<=n
 ·obtain⟨j,rfl⟩:∃j:Nat,n=j:=⟨n.toNat,by omega⟩
  rw[if_pos h0,Int.toNat_natCast]
  by_cases hlt:j<l.length
  ·obtain⟨b,o,rfl,c0,c1,c2⟩:=hx j l[j] (List.getElem?_eq_getElem hlt)
   have hg:l.getD j ClsT.none=l[j]:=by rw[List.getD_eq_getElem?_getD,List.getElem?_eq_getElem hlt];rfl
   rw[hg]
   have k1:(j:Int)<l.length:=by omega
   generalize l[j]=x at *
   obtain⟨⟨xa,xn,xc⟩,⟨ya,yn,yc⟩,xw⟩:=x
   dsimp only at c0 c1 c2
   have hB:Below w.heap.size w ((w.alloc (.cells #[.slice (some ⟨b,o,Option.none⟩) l.length c,m] 80)).alloc (.cells ClsT.none.v 90)):=qe.alloc (by simp) _
   have d0:=cell_below hB c0
   have d1:=cell_below hB c1
   have d2:=cell_below hB c2
   simp only[ClsT.none,ClsT.v] at d0 d1 d2
   clear hx hg c0 c1 c2
   go_enter Tryz.func47,Tryz.ntmps47
   go_wp2_with fail
   (try simp only[Exit.inBlock,Exit.then])
   refine bodyPost_ret (v:=.agg (ClsT.mk ⟨xa,xn,xc⟩ ⟨ya,yn,yc⟩ xw).v) ?_ rfl ⟨rfl,?_⟩
   ·rw[qr rfl]
    go_simp
    rfl
   ·(repeat' (first|exact Below.refl _ _|refine Below.setCell ?_ (by simp) _|refine Below.alloc ?_ (by simp <;> omega) _))
  ·have hg:l.getD j ClsT.none=ClsT.none:=by rw[List.getD_eq_getElem?_getD,List.getElem?_eq_none (by omega)];rfl
   rw[hg]
   clear hx hg
   go_enter Tryz.func47,Tryz.ntmps47
   go_wp2_with fail
   (try simp only[Exit.inBlock,Exit.then])
   refine bodyPost_ret (v:=.agg ClsT.none.v) ?_ rfl ⟨rfl,?_⟩
   ·rw[qr rfl]
    go_simp
    rfl
   ·(repeat' (first|exact Below.refl _ _|refine Below.setCell ?_ (by simp) _|refine Below.alloc ?_ (by simp <;> omega) _))
 ·rw[if_neg h0]
  clear hx
  go_enter Tryz.func47,Tryz.ntmps47
  go_wp2_with fail
  (try simp only[Exit.inBlock,Exit.then])
  refine bodyPost_ret (v:=.agg ClsT.none.v) ?_ rfl ⟨rfl,?_⟩
  ·rw[qr rfl]
   go_simp
   rfl
  ·(repeat' (first|exact Below.refl _ _|refine Below.setCell ?_ (by simp) _|refine Below.alloc ?_ (by simp <;> omega) _))
theorem zk.of_row{W:World}{base:Nat}{s:SlV}{l:List ClsT}(h:W.ownsRow base 90 3 s.v l.length (l.flatMap fun x=>x.v.toList)):zk W s l:=by
 obtain⟨h1,h2⟩:=yM h
 refine⟨h1,by omega,fun j x hj=>?_⟩
 obtain⟨b0,e0,c0⟩:=qz h (qG (f:=fun x:ClsT=>x.v.toList) (size:=3) (fun _=>rfl) hj (r:=0) rfl)
 obtain⟨b1,e1,c1⟩:=qz h (qG (f:=fun x:ClsT=>x.v.toList) (size:=3) (fun _=>rfl) hj (r:=1) rfl)
 obtain⟨b2,e2,c2⟩:=qz h (qG (f:=fun x:ClsT=>x.v.toList) (size:=3) (fun _=>rfl) hj (r:=2) rfl)
 rw[e0] at e1
 cases e1
 rw[e0] at e2
 cases e2
 exact⟨b0,0,e0,by rw[Nat.zero_add];exact c0,by rw[Nat.zero_add];exact c1,by rw[Nat.zero_add];exact c2⟩
theorem zk.below{W W':World}{s:SlV}{l:List ClsT}(h:zk W s l)(hb:Below W.heap.size W W'):zk W' s l:=
 ⟨h.1,h.2.1,fun j x hj=>by obtain⟨b,o,h1,q0,q1,q2⟩:=h.2.2 j x hj;exact⟨b,o,h1,cell_below hb q0,cell_below hb q1,cell_below hb q2⟩⟩
def zQ(W:World)(s:SlV)(l:List OpT):Prop:=
 s.n=l.length/\s.n<=s.c/\∀ (j:Nat) (x:OpT),l[j]?=some x->∃b o,s.a=some ⟨b,o,Option.none⟩/\W.cell? ⟨b,o+j*3,Option.none⟩=some (.slice x.may.a x.may.n x.may.c)/\W.cell? ⟨b,o+j*3+1,Option.none⟩=some (.int .i64 x.tie)/\W.cell? ⟨b,o+j*3+2,Option.none⟩=some (.slice x.clob.a x.clob.n x.clob.c)
theorem zQ.of_row{W:World}{base:Nat}{s:SlV}{l:List OpT}(h:W.ownsRow base 99 3 s.v l.length (l.flatMap fun x=>x.v.toList)):zQ W s l:=by
 obtain⟨h1,h2⟩:=yM h
 refine⟨h1,by omega,fun j x hj=>?_⟩
 obtain⟨b0,e0,c0⟩:=qz h (qG (f:=fun x:OpT=>x.v.toList) (size:=3) (fun _=>rfl) hj (r:=0) rfl)
 obtain⟨b1,e1,c1⟩:=qz h (qG (f:=fun x:OpT=>x.v.toList) (size:=3) (fun _=>rfl) hj (r:=1) rfl)
 obtain⟨b2,e2,c2⟩:=qz h (qG (f:=fun x:OpT=>x.v.toList) (size:=3) (fun _=>rfl) hj (r:=2) rfl)
 rw[e0] at e1
 cases e1
 rw[e0] at e2
 cases e2
 exact⟨b0,0,e0,by rw[Nat.zero_add];exact c0,by rw[Nat.zero_add];exact c1,by rw[Nat.zero_add];exact c2⟩
theorem zQ.below{W W':World}{s:SlV}{l:List OpT}(h:zQ W s l)(hb:Below W.heap.size W W'):zQ W' s l:=
 ⟨h.1,h.2.1,fun j x hj=>by obtain⟨b,o,h1,q0,q1,q2⟩:=h.2.2 j x hj;exact⟨b,o,h1,cell_below hb q0,cell_below hb q1,cell_below hb q2⟩⟩
theorem zr.of_row{W:World}{base:Nat}{s:SlV}{l:List RegT}(h:W.ownsRow base 112 5 s.v l.length (l.flatMap fun x=>x.v.toList)):zr W s l:=by
 obtain⟨h1,h2⟩:=yM h
 refine⟨h1,by omega,fun j x hj=>?_⟩
 obtain⟨b0,e0,c0⟩:=qz h (qG (f:=fun x:RegT=>x.v.toList) (size:=5) (fun _=>rfl) hj (r:=0) rfl)
 obtain⟨b1,e1,c1⟩:=qz h (qG (f:=fun x:RegT=>x.v.toList) (size:=5) (fun _=>rfl) hj (r:=1) rfl)
 obtain⟨b2,e2,c2⟩:=qz h (qG (f:=fun x:RegT=>x.v.toList) (size:=5) (fun _=>rfl) hj (r:=2) rfl)
 obtain⟨b3,e3,c3⟩:=qz h (qG (f:=fun x:RegT=>x.v.toList) (size:=5) (fun _=>rfl) hj (r:=3) rfl)
 obtain⟨b4,e4,c4⟩:=qz h (qG (f:=fun x:RegT=>x.v.toList) (size:=5) (fun _=>rfl) hj (r:=4) rfl)
 rw[e0] at e1 e2 e3 e4
 cases e1
 cases e2
 cases e3
 cases e4
 exact⟨b0,0,e0,by rw[Nat.zero_add];exact c0,by rw[Nat.zero_add];exact c1,by rw[Nat.zero_add];exact c2,by rw[Nat.zero_add];exact c3,by rw[Nat.zero_add];exact c4⟩
end Go.Proofs.YtkoloennfejaaaaGreatDoor
