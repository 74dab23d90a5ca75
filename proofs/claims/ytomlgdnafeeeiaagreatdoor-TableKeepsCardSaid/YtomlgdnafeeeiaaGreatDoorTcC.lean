
import Derived.Test.YtomlgdnafeeeiaaGreatDoorTcB
import Derived.Test.YtomlgdnafeeeiaaGreatDoorTcDP
set_option maxHeartbeats 1600000
set_option maxRecDepth 100000
/-
 A table's rows of classes and of operations: at. What a row's slice reads as,from the row.
-/
namespace Go.Proofs.YtomlgdnafeeeiaaGreatDoor
open Proofs.Tryz
open Go.RowKit
def Qn(W:World)(s:SlV)(l:List zZ):Prop:=
 s.n=l.length/\s.n<=s.c/\∀ (j:Nat) (x:zZ),l[j]?=some x->∃b o,s.a=some ⟨b,o,Option.none⟩/\W.cell? ⟨b,o+j*3,Option.none⟩=some (.slice x.list.a x.list.n x.list.c)/\W.cell? ⟨b,o+j*3+1,Option.none⟩=some (.slice x.set.a x.set.n x.set.c)/\W.cell? ⟨b,o+j*3+2,Option.none⟩=some (.int .i64 x.width)
theorem qjA(s:SlV)(m:Value)(l:List zZ)(n:Int)(w:World)(h:Qn w s l) :
 Calls prog 134 #[.agg #[.slice s.a s.n s.c,m],.int .i64 n] w fun e w'=>e = .returned (.agg (if 0<=n then l.getD n.toNat zZ.none else zZ.none).v)/\BX w w':=by
 obtain⟨a,k,c⟩:=s
 obtain⟨hn,hc,hx⟩:=h
 dsimp only at hn hc hx ⊢
 subst hn
 by_cases h0:0<=n
 ·obtain⟨j,rfl⟩:∃j:Nat,n=j:=⟨n.toNat,by omega⟩
  rw[if_pos h0,Int.toNat_natCast]
  by_cases hlt:j<l.length
  ·obtain⟨b,o,rfl,c0,c1,c2⟩:=hx j l[j] (vE hlt)
   have hg:l.getD j zZ.none=l[j]:=by rw[vG,vE hlt];rfl
   rw[hg]
   have k1:(j:Int)<l.length:=by omega
   generalize l[j]=x at *
   obtain⟨⟨xa,xn,xc⟩,⟨ya,yn,yc⟩,xw⟩:=x
   dsimp only at c0 c1 c2
   have hB:BX w ((w.alloc (.cells #[.slice (some ⟨b,o,Option.none⟩) l.length c,m] 77)).alloc (.cells zZ.none.v 126)):=qi.alloc (by simp) _
   have d0:=qb hB c0
   have d1:=qb hB c1
   have d2:=qb hB c2
   simp only[zZ.none,zZ.v] at d0 d1 d2
   clear hx hg c0 c1 c2
   go_enter func134,ntmps134
   go_wp2_with fail
   (try simp only[Exit.inBlock,Exit.then])
   refine bodyPost_ret (v:=.agg (zZ.mk ⟨xa,xn,xc⟩ ⟨ya,yn,yc⟩ xw).v) ?_ rfl ⟨rfl,?_⟩
   ·rw[qO rfl]
    go_simp
    rfl
   ·(repeat' (first|exact kB _ _|refine Below.setCell ?_ (by simp) _|refine Below.alloc ?_ (by simp <;> omega) _))
  ·have hg:l.getD j zZ.none=zZ.none:=by rw[vG,List.getElem?_eq_none (by omega)];rfl
   rw[hg]
   clear hx hg
   go_enter func134,ntmps134
   go_wp2_with fail
   (try simp only[Exit.inBlock,Exit.then])
   refine bodyPost_ret (v:=.agg zZ.none.v) ?_ rfl ⟨rfl,?_⟩
   ·rw[qO rfl]
    go_simp
    rfl
   ·(repeat' (first|exact kB _ _|refine Below.setCell ?_ (by simp) _|refine Below.alloc ?_ (by simp <;> omega) _))
 ·rw[if_neg h0]
  clear hx
  go_enter func134,ntmps134
  go_wp2_with fail
  (try simp only[Exit.inBlock,Exit.then])
  refine bodyPost_ret (v:=.agg zZ.none.v) ?_ rfl ⟨rfl,?_⟩
  ·rw[qO rfl]
   go_simp
   rfl
  ·(repeat' (first|exact kB _ _|refine Below.setCell ?_ (by simp) _|refine Below.alloc ?_ (by simp <;> omega) _))
theorem Qn.of_row{W:World}{base:Nat}{s:SlV}{l:List zZ}(h:W.ownsRow base 126 3 s.v l.length (l.flatMap fun x=>x.v.toList)):Qn W s l:=by
 obtain⟨h1,h2⟩:=jk h
 refine⟨h1,by omega,fun j x hj=>?_⟩
 obtain⟨b0,e0,c0⟩:=zj h (ze (f:=fun x:zZ=>x.v.toList) (size:=3) (fun _=>rfl) hj (r:=0) rfl)
 obtain⟨b1,e1,c1⟩:=zj h (ze (f:=fun x:zZ=>x.v.toList) (size:=3) (fun _=>rfl) hj (r:=1) rfl)
 obtain⟨b2,e2,c2⟩:=zj h (ze (f:=fun x:zZ=>x.v.toList) (size:=3) (fun _=>rfl) hj (r:=2) rfl)
 rw[e0] at e1
 cases e1
 rw[e0] at e2
 cases e2
 exact⟨b0,0,e0,by rw[Nat.zero_add];exact c0,by rw[Nat.zero_add];exact c1,by rw[Nat.zero_add];exact c2⟩
theorem Qn.below{W W':World}{s:SlV}{l:List zZ}(h:Qn W s l)(hb:BX W W'):Qn W' s l:=
 ⟨h.1,h.2.1,fun j x hj=>by obtain⟨b,o,h1,q0,q1,q2⟩:=h.2.2 j x hj;exact⟨b,o,h1,qb hb q0,qb hb q1,qb hb q2⟩⟩
def qaV(W:World)(s:SlV)(l:List OpT):Prop:=
 s.n=l.length/\s.n<=s.c/\∀ (j:Nat) (x:OpT),l[j]?=some x->∃b o,s.a=some ⟨b,o,Option.none⟩/\W.cell? ⟨b,o+j*3,Option.none⟩=some (.slice x.may.a x.may.n x.may.c)/\W.cell? ⟨b,o+j*3+1,Option.none⟩=some (.int .i64 x.tie)/\W.cell? ⟨b,o+j*3+2,Option.none⟩=some (.slice x.clob.a x.clob.n x.clob.c)
theorem qaV.of_row{W:World}{base:Nat}{s:SlV}{l:List OpT}(h:W.ownsRow base 133 3 s.v l.length (l.flatMap fun x=>x.v.toList)):qaV W s l:=by
 obtain⟨h1,h2⟩:=jk h
 refine⟨h1,by omega,fun j x hj=>?_⟩
 obtain⟨b0,e0,c0⟩:=zj h (ze (f:=fun x:OpT=>x.v.toList) (size:=3) (fun _=>rfl) hj (r:=0) rfl)
 obtain⟨b1,e1,c1⟩:=zj h (ze (f:=fun x:OpT=>x.v.toList) (size:=3) (fun _=>rfl) hj (r:=1) rfl)
 obtain⟨b2,e2,c2⟩:=zj h (ze (f:=fun x:OpT=>x.v.toList) (size:=3) (fun _=>rfl) hj (r:=2) rfl)
 rw[e0] at e1
 cases e1
 rw[e0] at e2
 cases e2
 exact⟨b0,0,e0,by rw[Nat.zero_add];exact c0,by rw[Nat.zero_add];exact c1,by rw[Nat.zero_add];exact c2⟩
theorem qaV.below{W W':World}{s:SlV}{l:List OpT}(h:qaV W s l)(hb:BX W W'):qaV W' s l:=
 ⟨h.1,h.2.1,fun j x hj=>by obtain⟨b,o,h1,q0,q1,q2⟩:=h.2.2 j x hj;exact⟨b,o,h1,qb hb q0,qb hb q1,qb hb q2⟩⟩
theorem xH.of_row{W:World}{base:Nat}{s:SlV}{l:List qY}(h:W.ownsRow base 95 5 s.v l.length (l.flatMap fun x=>x.v.toList)):xH W s l:=by
 obtain⟨h1,h2⟩:=jk h
 refine⟨h1,by omega,fun j x hj=>?_⟩
 obtain⟨b0,e0,c0⟩:=zj h (ze (f:=fun x:qY=>x.v.toList) (size:=5) (fun _=>rfl) hj (r:=0) rfl)
 obtain⟨b1,e1,c1⟩:=zj h (ze (f:=fun x:qY=>x.v.toList) (size:=5) (fun _=>rfl) hj (r:=1) rfl)
 obtain⟨b2,e2,c2⟩:=zj h (ze (f:=fun x:qY=>x.v.toList) (size:=5) (fun _=>rfl) hj (r:=2) rfl)
 obtain⟨b3,e3,c3⟩:=zj h (ze (f:=fun x:qY=>x.v.toList) (size:=5) (fun _=>rfl) hj (r:=3) rfl)
 obtain⟨b4,e4,c4⟩:=zj h (ze (f:=fun x:qY=>x.v.toList) (size:=5) (fun _=>rfl) hj (r:=4) rfl)
 rw[e0] at e1 e2 e3 e4
 cases e1
 cases e2
 cases e3
 cases e4
 exact⟨b0,0,e0,by rw[Nat.zero_add];exact c0,by rw[Nat.zero_add];exact c1,by rw[Nat.zero_add];exact c2,by rw[Nat.zero_add];exact c3,by rw[Nat.zero_add];exact c4⟩
end Go.Proofs.YtomlgdnafeeeiaaGreatDoor
