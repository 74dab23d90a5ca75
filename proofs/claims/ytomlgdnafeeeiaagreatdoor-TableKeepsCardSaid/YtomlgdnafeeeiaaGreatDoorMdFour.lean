
import Derived.Test.YtomlgdnafeeeiaaGreatDoorMdTwo
import Derived.Test.YtomlgdnafeeeiaaGreatDoorMdThree
import Derived.Test.YtomlgdnafeeeiaaGreatDoorPan
set_option maxHeartbeats 8000000
set_option maxRecDepth 100000
/-
 fits: the operands of an operation can be in registers at once. And what follows: see the heads within.
-/
namespace Go.Proofs.YtomlgdnafeeeiaaGreatDoor
open Proofs.Tryz
open Go.RowKit
theorem qho(C:Nat)(c:CV)(ps:List Plc)(r:Int)(kv:SlV)(cl:List Int)(b2 b3:Nat)(W:World)(h2:W.cell? ⟨b2,0,none⟩=some (.pointer (some ⟨C,0,none⟩)))(h3:W.cell? ⟨b3,3,none⟩=some (.slice kv.a kv.n kv.c))
 (hC:jq W C c) (hP:xg W c ps) (hr:Num ps r) (hk:qJ W kv cl) (hbig:kv.n<4611686018427387904) (hx:∀x,x∈cl->Num ps x) :
 Calls prog 160 #[.int .i64 r,.pointer (some ⟨b2,0,none⟩),.pointer (some ⟨b3,0,none⟩)] W fun e w'=>e = .returned (.bool (zN ps r cl))/\BX W w':=by
 have K:=YM C c ps r kv cl W hC hP hr hk hbig hx
 clear hC hP hr hk hx
 go_enter func160,ntmps160
 go_wp2_with (go_at_call 156;refine K.mono ?_;clear K;rintro e W1 ⟨rfl,hb⟩)
 go_ret
 exact⟨rfl,hb⟩
theorem qJ.ahead{W:World}{s:SlV}{l:List Int}(h:qJ W s l):Xb W.heap.size W s l:=
 ⟨h.1,h.2.1,fun j x hj=>by obtain⟨b,o,h1,h2⟩:=h.2.2 j x hj;exact⟨b,o,h1,kW _ _ h2,h2⟩⟩
theorem Xb.mono{n m:Nat}{W:World}{s:SlV}{l:List Int}(h:Xb n W s l)(hm:n<=m):Xb m W s l:=
 ⟨h.1,h.2.1,fun j x hj=>by obtain⟨b,o,h1,h2,h3⟩:=h.2.2 j x hj;exact⟨b,o,h1,by omega,h3⟩⟩
theorem ZI{n₀:Nat}{W:World}{us:SlV}{vs:List SlV}{ls:List (List Int)}(hH:ju W us vs)(hl:vs.length=ls.length)(hn:n₀<=W.heap.size)(hI:∀ (i:Nat) v l,vs[i]?=some v->ls[i]?=some l->Xb n₀ W v l/\l.length<=1000) :
 jX W.heap.size W us ls:=by
 refine⟨hH.1.trans hl,hH.2.1,fun i l hi=>?_⟩
 have hlt:i<vs.length:=by have:=(vS.1 hi).1;omega
 have hv:vs[i]?=some vs[i]:=vE hlt
 obtain⟨b,o,e1,e2⟩:=hH.2.2 i _ hv
 exact⟨b,o,vs[i],e1,kW _ _ e2,e2,(hI i _ _ hv hi).1.mono hn,(hI i _ _ hv hi).2⟩
theorem qhp{W:World}{us d:SlV}{vs:List SlV}{b o k:Nat}(hH:ju W us vs)(ha:us.a=some ⟨b,o,none⟩)(hk:k<vs.length):ju (W.setCell ⟨b,o+k,none⟩ d.v) us (vs.set k d):=by
 refine⟨by simpa using hH.1,hH.2.1,fun j x hj=>?_⟩
 have hj2:j<vs.length:=by have:=(vS.1 hj).1;simpa using this
 obtain⟨b',o',e1,e2⟩:=hH.2.2 j _ (vE hj2)
 rw[ha] at e1
 cases e1
 refine⟨b,o,ha,?_⟩
 by_cases h:k=j
 ·subst h
  rw[List.getElem?_set_self hk] at hj
  cases hj
  exact World.cell?_setCell_same _ _ _ e2
 ·rw[List.getElem?_set_ne h] at hj
  rw[World.cell?_setCell_other _ _ _ _ (by intro e;injection e with _ e2 _;omega)]
  rw[vE hj2] at hj
  cases hj
  exact e2
theorem qbV{W:World}{base n:Nat}{us:SlV}{xs:List Value}(h:W.ownsRow base 55 1 us.v n xs)(hn:0<n):∃g cur,us.a=some ⟨g,0,none⟩/\base<=g/\qd W g 55 cur/\us.n=n/\us.n<=us.c/\n<=cur.size:=by
 rcases h.2 with⟨_,h2⟩|⟨g,cap,cur,h1,h2,h3,h4,_,h5,_⟩
 ·omega
 ·unfold SlV.v at h1
  injection h1 with e1 e2 e3
  exact⟨g,cur,e1,h2,h3,e2,by omega,by omega⟩
theorem qiO(C:Nat)(c:CV)(ps:List Plc)(dv uv kv:SlV)(tie:Int)(d:List Int)(uses:List (List Int))(clob:List Int)(w:World)(hC:jq w C c)(hP:xg w c ps)(hO:Ky w dv uv kv ⟨d,uses,tie,clob⟩)(htie:tie<uses.length)(hu:uses.length<=1000)
 (hnd:∀x,x∈d->Num ps x) (hnu:∀l,l∈uses->∀x,x∈l->Num ps x) (hnk:∀x,x∈clob->Num ps x) :
 Calls prog 121 #[.pointer (some ⟨C,0,none⟩),.agg #[.slice dv.a dv.n dv.c,.slice uv.a uv.n uv.c,.int .i64 tie,.slice kv.a kv.n kv.c]] w fun e w'=>e = .returned (.bool (yf ps ⟨d,uses,tie,clob⟩))/\BX w w':=by
 obtain⟨hOd,hdn,hdz,⟨vs,hvl,hvr,hvi⟩,hOk,hkn⟩:=hO
 dsimp only at hOd hdn hdz hvl hvr hvi hOk hkn
 have hlt:=hC.lt
 have hB1:BX w ((w.alloc (.cells #[.pointer (some ⟨C,0,none⟩)] 146)).alloc (.cells #[.slice dv.a dv.n dv.c,.slice uv.a uv.n uv.c,.int .i64 tie,.slice kv.a kv.n kv.c] 155)):=
  qi.alloc (by simp) _
 have hc0:=(qd.new w 146 #[.pointer (some ⟨C,0,none⟩)]).alloc (.cells #[.slice dv.a dv.n dv.c,.slice uv.a uv.n uv.c,.int .i64 tie,.slice kv.a kv.n kv.c] 155)
 have ho0:=qd.new (w.alloc (.cells #[.pointer (some ⟨C,0,none⟩)] 146)) 155 #[.slice dv.a dv.n dv.c,.slice uv.a uv.n uv.c,.int .i64 tie,.slice kv.a kv.n kv.c]
 rw[vZ] at ho0
 generalize hW:((w.alloc (.cells #[.pointer (some ⟨C,0,none⟩)] 146)).alloc (.cells #[.slice dv.a dv.n dv.c,.slice uv.a uv.n uv.c,.int .i64 tie,.slice kv.a kv.n kv.c] 155))=W1 at hB1 hc0 ho0
 have hz1:W1.heap.size=w.heap.size+2:=by rw[←hW];simp
 have hC1:=hC.below hB1 hlt
 have hP1:=hP.below hB1
 have hd1:=hOd.below hB1
 have hk1:=hOk.below hB1
 have hvr1:=qe hvr hB1
 have hvi1:∀ (i:Nat) v l,vs[i]?=some v->uses[i]?=some l->Xb W1.heap.size W1 v l/\l.length<=1000:=fun i v l h1 h2=>⟨(((hvi i v l h1 h2).1.below hB1).at_).ahead,(hvi i v l h1 h2).2.1⟩
 have huz:uv.a=none->uv.c=0:=fun h=>by
  rcases hvr.2 with⟨h1,_⟩|⟨g,cap,cur,h1,_⟩
  ·unfold SlV.v at h1;injection h1
  ·unfold SlV.v at h1;injection h1 with e1 _ _;rw[h] at e1;cases e1
 have hun:=(ju.of_row hvr hvl.symm).1
 have hknn:=hk1.at_.1
 have K1:=Ys dv d W1 hd1.at_ (by have:=hd1.at_.1;omega) hdz
 have K2:∀ (s:SlV) (W:World),W.ownsRow W1.heap.size 3 1 s.v d.length (d.map (Value.int .i64))->BX W1 W ->
  Calls prog 159 #[.slice s.a s.n s.c,.func (.func 160) #[] #[.pointer (some ⟨w.heap.size,0,none⟩),.pointer (some ⟨w.heap.size+1,0,none⟩)]] W (qak W1.heap.size W d (fun x=>zN ps x clob)):=fun s W hr hb=>
  qay W1.heap.size 160 #[.pointer (some ⟨w.heap.size,0,none⟩),.pointer (some ⟨w.heap.size+1,0,none⟩)] _ (enters_of func160 (by kernel_rfl) rfl) s d W hr (by omega) hb.size
   (fun x hx V hV=>by
     have hbV:=hb.trans hV
     exact qho C c ps x kv clob w.heap.size (w.heap.size+1) V ((hc0.below hbV (by omega)).cell rfl) ((ho0.below hbV (by omega)).cell rfl) (hC1.below hbV (by omega)) (hP1.below hbV) (hnd x hx) (hk1.at_.below hbV) (by omega) hnk)
 have K3:∀W,BX W1 W->Calls prog 161 #[.slice uv.a uv.n uv.c] W (qbg W vs):=fun W hb=>qfp uv vs W ((ju.of_row hvr1 hvl.symm).below hb) (by omega) huz
 have hdl:(d.filter fun x=>!zN ps x clob)=xq ps ⟨d,uses,tie,clob⟩:=rfl
 have hdm:∀x,x∈xq ps ⟨d,uses,tie,clob⟩->Num ps x:=fun x hx=>hnd x (List.mem_filter.1 (hdl ▸ hx)).1
 have hdln:(xq ps ⟨d,uses,tie,clob⟩).length<=1000:=vR (List.length_filter_le _ _) hdn
 have hum:∀l,l∈xx ps ⟨d,uses,tie,clob⟩->∀x,x∈l->Num ps x:=fun l hl=>by
  unfold xx at hl
  dsimp only at hl
  split at hl
  ·rcases List.mem_or_eq_of_mem_set hl with h|h
   ·exact hnu l h
   ·rw[h];exact hdm
  ·exact hnu l hl
 have hull:(xx ps ⟨d,uses,tie,clob⟩).length=uses.length:=by unfold xx;dsimp only;split <;> simp
 have K4:∀ (s:SlV) W,BX W1 W->jX W.heap.size W s (xx ps ⟨d,uses,tie,clob⟩)->Calls prog 122 #[.pointer (some ⟨C,0,none⟩),.slice s.a s.n s.c] W fun e w'=>e = .returned (.bool (qP ps (xx ps ⟨d,uses,tie,clob⟩)))/\BX W w':=fun s W hb hl=>
  JN C c ps s (xx ps ⟨d,uses,tie,clob⟩) W (hC1.below hb (by omega)) (hP1.below hb) hl (by omega) hum
 have c1:=hc0.cell (j:=0) (v:=.pointer (some ⟨C,0,none⟩)) rfl
 have o0:=ho0.cell (j:=0) (v:=.slice dv.a dv.n dv.c) rfl
 have o1:=ho0.cell (j:=1) (v:=.slice uv.a uv.n uv.c) rfl
 have o2:=ho0.cell (j:=2) (v:=.int .i64 tie) rfl
 have hans:yf ps ⟨d,uses,tie,clob⟩=(!decide (xq ps ⟨d,uses,tie,clob⟩ = [])&&qP ps (xx ps ⟨d,uses,tie,clob⟩)):=rfl
 have hlen3:∀ (s:SlV) (W:World),W.ownsRow W1.heap.size 3 1 s.v (d.filter fun x=>!zN ps x clob).length ((d.filter fun x=>!zN ps x clob).map (Value.int .i64))->s.n=(xq ps ⟨d,uses,tie,clob⟩).length/\Xb W.heap.size W s (xq ps ⟨d,uses,tie,clob⟩):=fun s W h=>
  ⟨(qJ.of_row h rfl).1,(qJ.of_row h rfl).ahead⟩
 have hL4:∀ (us:SlV) (W3 W4:World),BX W1 W3->W4.ownsRow W3.heap.size 55 1 us.v vs.length (vs.map SlV.v)->BX W3 W4->tie<0->jX W4.heap.size W4 us (xx ps ⟨d,uses,tie,clob⟩):=fun us W3 W4 h3 hr h4 hneg=>by
  have:xx ps ⟨d,uses,tie,clob⟩=uses:=by unfold xx;dsimp only;rw[if_neg (by omega)]
  rw[this]
  refine ZI (n₀:=W1.heap.size) (ju.of_row hr rfl) hvl (vR h3.size h4.size) fun i v l e1 e2=>?_
  exact⟨(hvi1 i v l e1 e2).1.same (xO.of_below (h3.trans (h4.mono h3.size))),(hvi1 i v l e1 e2).2⟩
 have hL5:∀ (us dS:SlV) (W3 W4:World) (k g:Nat),BX W1 W3->W4.ownsRow W3.heap.size 55 1 us.v vs.length (vs.map SlV.v)->BX W3 W4->tie=k->us.a=some ⟨g,0,none⟩->W3.heap.size<=g->Xb W3.heap.size W3 dS (xq ps ⟨d,uses,tie,clob⟩) ->
  jX (W4.setCell ⟨g,k,none⟩ (.slice dS.a dS.n dS.c)).heap.size (W4.setCell ⟨g,k,none⟩ (.slice dS.a dS.n dS.c)) us (xx ps ⟨d,uses,tie,clob⟩)/\BX W3 (W4.setCell ⟨g,k,none⟩ (.slice dS.a dS.n dS.c)):=fun us dS W3 W4 k g h3 hr h4 hk ha hg hI=>by
  have hkl:k<vs.length:=by omega
  have hu:xx ps ⟨d,uses,tie,clob⟩=uses.set k (xq ps ⟨d,uses,tie,clob⟩):=by unfold xx;dsimp only;rw[if_pos (by omega),hk];rfl
  rw[hu]
  have hb5:BX W3 (W4.setCell ⟨g,k,none⟩ (.slice dS.a dS.n dS.c)):=h4.setCell (p:=⟨g,k,none⟩) hg _
  have hhs:=qhp (d:=dS) (ju.of_row hr rfl) ha hkl
  rw[Nat.zero_add] at hhs
  refine⟨ZI (n₀:=W3.heap.size) hhs (by simp;exact hvl) hb5.size fun i v l e1 e2=>?_,hb5⟩
  by_cases hi:k=i
  ·subst hi
   rw[List.getElem?_set_self (by omega)] at e1 e2
   cases e1;cases e2
   exact⟨hI.same (xO.of_below hb5),hdln⟩
  ·rw[List.getElem?_set_ne hi] at e1 e2
   exact⟨(((hvi1 i v l e1 e2).1.same (xO.of_below h3)).mono h3.size).same (xO.of_below hb5),(hvi1 i v l e1 e2).2⟩
 replace hL4:=vH hL4
 replace hL5:=vH hL5
 replace K2:=vH K2
 replace K3:=vH K3
 replace K4:=vH K4
 replace hlen3:=vH hlen3
 replace hans:=vH hans
 replace hun:=vH hun
 clear hOd hdz hvr hvi hOk hC hP hnd hnu hnk hC1 hP1 hd1 hk1 hvr1 hvi1 huz hdl hdm hum hull hc0 ho0 hknn
 by_cases hz:xq ps ⟨d,uses,tie,clob⟩ = []
 ·have hans2:Hid (yf ps ⟨d,uses,tie,clob⟩=false):=vH (by rw[hans.out,hz];simp)
  have hln0:Hid ((xq ps ⟨d,uses,tie,clob⟩).length=0):=vH (by rw[hz];rfl)
  clear hz hans K4
  by_cases ht:0<=tie
  ·obtain⟨k,rfl⟩:∃k:Nat,tie=k:=⟨tie.toNat,by omega⟩
   have hkl:k<vs.length:=by omega
   have k0:(0:Int)<=k:=vN _
   go_enter func121,ntmps121
   go_wp2_with (first
    |(go_at_call 155;refine K1.mono ?_;clear K1;rintro e W2 ⟨s2,rfl,hr2,hb2⟩)
    |(go_at_call 159;refine(K2.out s2 W2 hr2 hb2).mono ?_;rintro e W3 ⟨dS,rfl,hr3,hb3⟩;have p1:=qb (hb2.trans hb3) o1;have p2:=qb (hb2.trans hb3) o2;have hdp:=vH (hlen3.out dS W3 hr3);have hdpos:¬ (0:Int)<dS.n:=(by have:=hdp.out.1;have:=hln0.out;omega))
    |(go_at_call 161;refine(K3.out W3 (hb2.trans hb3)).mono ?_;rintro e W4 ⟨us,rfl,hr4,hb4⟩;have q2:=qb ((hb2.trans hb3).trans (hb4.mono (hb2.trans hb3).size)) o2;obtain⟨g,cur,hg1,hg2,hg3,hg4,hg5,hg6⟩:=qbV hr4 (by omega);have hh5:=hL5.out us dS W3 W4 k g (hb2.trans hb3) hr4 hb4 rfl hg1 hg2 hdp.out.2;obtain⟨ua,un,uc⟩:=us;dsimp only at hg1 hg4 hg5 hh5;subst hg1;have k1:(k:Int)<un:=(by omega);replace hg4:=vH hg4;have gf:=hg3.frozen k;have gc:=hg3.cell (j:=k) (Array.getElem?_eq_getElem (by omega));have q1:=qb ((hb2.trans hb3).trans (hh5.2.mono (hb2.trans hb3).size)) c1))
   go_ret
   exact⟨qq hans2.out.symm,hB1.trans (((hb2.trans hb3).trans (hh5.2.mono (hb2.trans hb3).size)).mono hB1.size)⟩
  ·have htn:tie<0:=by omega
   go_enter func121,ntmps121
   go_wp2_with (first
    |(go_at_call 155;refine K1.mono ?_;clear K1;rintro e W2 ⟨s2,rfl,hr2,hb2⟩)
    |(go_at_call 159;refine(K2.out s2 W2 hr2 hb2).mono ?_;rintro e W3 ⟨dS,rfl,hr3,hb3⟩;have p1:=qb (hb2.trans hb3) o1;have p2:=qb (hb2.trans hb3) o2;have hdp:=vH (hlen3.out dS W3 hr3);have hdpos:¬ (0:Int)<dS.n:=(by have:=hdp.out.1;have:=hln0.out;omega))
    |(go_at_call 161;refine(K3.out W3 (hb2.trans hb3)).mono ?_;rintro e W4 ⟨us,rfl,hr4,hb4⟩;have hb14:=(hb2.trans hb3).trans (hb4.mono (hb2.trans hb3).size);have q2:=qb hb14 o2;have q1:=qb hb14 c1;have hh4:=vH (hL4.out us W3 W4 (hb2.trans hb3) hr4 hb4 htn)))
   go_ret
   exact⟨qq hans2.out.symm,hB1.trans (hb14.mono hB1.size)⟩
 ·have hans2:Hid (yf ps ⟨d,uses,tie,clob⟩=qP ps (xx ps ⟨d,uses,tie,clob⟩)):=vH (by rw[hans.out,vF hz];simp)
  have hln0:Hid (0<(xq ps ⟨d,uses,tie,clob⟩).length):=vH (List.length_pos_iff.2 hz)
  clear hz hans
  by_cases ht:0<=tie
  ·obtain⟨k,rfl⟩:∃k:Nat,tie=k:=⟨tie.toNat,by omega⟩
   have hkl:k<vs.length:=by omega
   have k0:(0:Int)<=k:=vN _
   go_enter func121,ntmps121
   go_wp2_with (first
    |(go_at_call 155;refine K1.mono ?_;clear K1;rintro e W2 ⟨s2,rfl,hr2,hb2⟩)
    |(go_at_call 159;refine(K2.out s2 W2 hr2 hb2).mono ?_;rintro e W3 ⟨dS,rfl,hr3,hb3⟩;have p1:=qb (hb2.trans hb3) o1;have p2:=qb (hb2.trans hb3) o2;have hdp:=vH (hlen3.out dS W3 hr3);have hdpos:(0:Int)<dS.n:=(by have:=hdp.out.1;have:=hln0.out;omega))
    |(go_at_call 161;refine(K3.out W3 (hb2.trans hb3)).mono ?_;rintro e W4 ⟨us,rfl,hr4,hb4⟩;have q2:=qb ((hb2.trans hb3).trans (hb4.mono (hb2.trans hb3).size)) o2;obtain⟨g,cur,hg1,hg2,hg3,hg4,hg5,hg6⟩:=qbV hr4 (by omega);have hh5:=hL5.out us dS W3 W4 k g (hb2.trans hb3) hr4 hb4 rfl hg1 hg2 hdp.out.2;obtain⟨ua,un,uc⟩:=us;dsimp only at hg1 hg4 hg5 hh5;subst hg1;have k1:(k:Int)<un:=(by omega);replace hg4:=vH hg4;have gf:=hg3.frozen k;have gc:=hg3.cell (j:=k) (Array.getElem?_eq_getElem (by omega));have q1:=qb ((hb2.trans hb3).trans (hh5.2.mono (hb2.trans hb3).size)) c1)
    |(go_at_call 122;refine(K4.out ⟨some ⟨g,0,none⟩,un,uc⟩ _ ((hb2.trans hb3).trans (hh5.2.mono (hb2.trans hb3).size)) hh5.1).mono ?_;rintro e W6 ⟨rfl,hb6⟩))
   go_ret
   exact⟨qq hans2.out.symm,hB1.trans ((((hb2.trans hb3).trans (hh5.2.mono (hb2.trans hb3).size)).trans (hb6.mono ((hb2.trans hb3).trans (hh5.2.mono (hb2.trans hb3).size)).size)).mono hB1.size)⟩
  ·have htn:tie<0:=by omega
   go_enter func121,ntmps121
   go_wp2_with (first
    |(go_at_call 155;refine K1.mono ?_;clear K1;rintro e W2 ⟨s2,rfl,hr2,hb2⟩)
    |(go_at_call 159;refine(K2.out s2 W2 hr2 hb2).mono ?_;rintro e W3 ⟨dS,rfl,hr3,hb3⟩;have p1:=qb (hb2.trans hb3) o1;have p2:=qb (hb2.trans hb3) o2;have hdp:=vH (hlen3.out dS W3 hr3);have hdpos:(0:Int)<dS.n:=(by have:=hdp.out.1;have:=hln0.out;omega))
    |(go_at_call 161;refine(K3.out W3 (hb2.trans hb3)).mono ?_;rintro e W4 ⟨us,rfl,hr4,hb4⟩;have hb14:=(hb2.trans hb3).trans (hb4.mono (hb2.trans hb3).size);have q2:=qb hb14 o2;have q1:=qb hb14 c1;have hh4:=vH (hL4.out us W3 W4 (hb2.trans hb3) hr4 hb4 htn))
    |(go_at_call 122;refine(K4.out us W4 hb14 hh4.out).mono ?_;rintro e W6 ⟨rfl,hb6⟩))
   go_ret
   exact⟨qq hans2.out.symm,hB1.trans ((hb14.trans (hb6.mono hb14.size)).mono hB1.size)⟩
theorem yS:∀ (vs:List (SlV×SlV×SlV×Int)) (i j:Nat) (v:SlV×SlV×SlV×Int),vs[i]?=some v->j<4->(vs.flatMap ZH)[i*4+j]?=(ZH v)[j]?
 | [],i,j,v,h,_=>by simp at h
 |u::vs,0,j,v,h,hj=>by
  have:u=v:=by simpa using h
  subst this
  rw[List.flatMap_cons,Nat.zero_mul,Nat.zero_add,List.getElem?_append_left (by simpa[ZH] using hj)]
 |u::vs,i+1,j,v,h,hj=>by
  have hl:(ZH u).length=4:=rfl
  rw[List.flatMap_cons,kR (by omega),hl,show(i+1)*4+j-4=i*4+j by omega]
  exact yS vs i j v (by simpa using h) hj
theorem XG.get{w0 W:World}{s:SlV}{os:List OpR}(h:XG w0 W s os){i:Nat}{o:OpR}(ho:os[i]?=some o) :
 ∃ (b:Nat) (v:SlV×SlV×SlV×Int),s.a=some ⟨b,0,none⟩/\s.n=os.length/\s.n<=s.c/\W.cell? ⟨b,i*4,none⟩=some (.slice v.1.a v.1.n v.1.c)/\W.cell? ⟨b,i*4+1,none⟩=some (.slice v.2.1.a v.2.1.n v.2.1.c) /\
  W.cell? ⟨b,i*4+2,none⟩=some (.int .i64 o.tie)/\W.cell? ⟨b,i*4+3,none⟩=some (.slice v.2.2.1.a v.2.2.1.n v.2.2.1.c)/\Ky W v.1 v.2.1 v.2.2.1 o:=by
 obtain⟨vs,h1,h2,h3⟩:=h
 have hi:i<os.length:=(vS.1 ho).1
 have hv:vs[i]?=some vs[i]:=vE (by omega)
 obtain⟨e1,e2⟩:=h3 i _ _ hv ho
 rcases h2.2 with⟨_,h4⟩|⟨g,cap,cur,g1,g2,g3,g4,_⟩
 ·omega
 ·unfold SlV.v at g1
  injection g1 with f1 f2 f3
  have hs:s.v = .slice (some ⟨g,0,none⟩) s.n s.c:=by unfold SlV.v;rw[f1]
  rw[hs] at h2
  refine⟨g,vs[i],f1,f2,by omega,qu h2 (j:=i*4) ?_,qu h2 (j:=i*4+1) ?_,qu h2 (j:=i*4+2) ?_,qu h2 (j:=i*4+3) ?_,e2⟩
  ·exact yS vs i 0 _ hv (by omega)
  ·exact yS vs i 1 _ hv (by omega)
  ·rw[←e1];exact yS vs i 2 _ hv (by omega)
  ·exact yS vs i 3 _ hv (by omega)
theorem XG.len{w0 W:World}{s:SlV}{os:List OpR}(h:XG w0 W s os):s.n=os.length:=by
 obtain⟨vs,h1,h2,h3⟩:=h
 rcases h2.2 with⟨g1,h4⟩|⟨g,cap,cur,g1,_⟩
 ·unfold SlV.v at g1;injection g1 with f1 f2 f3;omega
 ·unfold SlV.v at g1;injection g1
structure qka(ps:List Plc)(o:OpR):Prop where
 tie:o.tie<o.uses.length
 few:o.uses.length<=1000
 d:∀x,x∈o.d->Num ps x
 u:∀l,l∈o.uses->∀x,x∈l->Num ps x
 k:∀x,x∈o.clob->Num ps x
theorem qfx{W:World}{va vb:SlV}{la lb:List Int}(ha:qJ W va la)(hb:qJ W vb lb)(ka:la.length<=1000)(kb:lb.length<=1000) :
 jX (W.alloc (.cells #[.slice va.a va.n va.c,.slice vb.a vb.n vb.c] 55)).heap.size (W.alloc (.cells #[.slice va.a va.n va.c,.slice vb.a vb.n vb.c] 55)) ⟨some ⟨W.heap.size,0,none⟩,2,2⟩ [la,lb]:=by
 have hb1:BX W (W.alloc (.cells #[.slice va.a va.n va.c,.slice vb.a vb.n vb.c] 55)):=qi
 refine ZI (n₀:=W.heap.size) (vs:=[va,vb]) ⟨rfl,vL _,fun j x hj=>⟨W.heap.size,0,rfl,?_⟩⟩ rfl (by simp) fun i v l e1 e2=>?_
 ·match j,hj with
  | 0,hj=>cases hj;exact zr W _ _ (j:=0) rfl
  | 1,hj=>cases hj;exact zr W _ _ (j:=1) rfl
  | j+2,hj=>simp at hj
 ·match i,e1,e2 with
  | 0,e1,e2=>cases e1;cases e2;exact⟨ha.ahead.same (xO.of_below hb1),ka⟩
  | 1,e1,e2=>cases e1;cases e2;exact⟨hb.ahead.same (xO.of_below hb1),kb⟩
  | i+2,e1,e2=>simp at e1
theorem qcO(ps:List Plc)(cls:List (List Int))(k:Nat)(a:List Int)(h:cls[k]?=some a):jb ps (cls.drop k)=(((cls.drop k).all fun b=>qP ps [a,b])&&jb ps (cls.drop (k+1))):=by
 have hlt:k<cls.length:=(vS.1 h).1
 have:cls[k]=a:=(vS.1 h).2
 rw[List.drop_eq_getElem_cons hlt,this];rfl
theorem qiP{α:Type}(f:α->Bool)(l:List α)(k:Nat)(a:α)(h:l[k]?=some a):(l.drop k).all f=(f a&&(l.drop (k+1)).all f):=by
 have hlt:k<l.length:=(vS.1 h).1
 have:l[k]=a:=(vS.1 h).2
 rw[List.drop_eq_getElem_cons hlt,this];rfl
def qiQ(w:World)(ps:List Plc)(cls:List (List Int))(os:List OpR)(e:Ending)(w':World):Prop:=
 e = .returned (.int .i64 (if zQ ps cls os=true then 0 else 11))/\BX w w'
theorem qbt[Inhabited zH](C:Nat)(m:MV)(nV pV cV oV aV:SlV)(r:Int)(ns:List ByteArray)(ps:List Plc)(cls:List (List Int))(os:List OpR)(w0 w:World)(hR:Rd w0 w C ⟨m,nV,pV,cV,oV,aV,r⟩ ns ps cls os)(hol:os.length<=1000)(hcl:cls.length<=1000)
 (hon:∀o,o∈os->qka ps o) (hcn:∀l,l∈cls->∀x,x∈l->Num ps x) :
 Calls prog 65 #[.pointer (some ⟨C,0,none⟩)] w (qiQ w ps cls os):=by
 obtain⟨oa,on,oc⟩:=oV
 have hlo:on=os.length:=hR.ops.len
 subst hlo
 obtain⟨ca,cn,cc⟩:=cV
 have hlc:cn=cls.length:=hR.cls.lists.len
 subst hlc
 have c11:=hR.st.chk.cell (j:=11) (v:=.slice oa os.length oc) rfl
 have hR':=vH hR
 have hon':=vH hon
 have hcn':=vH hcn
 clear hR hon hcn
 go_enter func65,ntmps65
 go_wp2_with fail
 go_loopw [14] (fun i wr=>∃k:Nat,k<=os.length/\i = .int .i64 k/\BX w wr/\Hid (os.all (yf ps)=(os.drop k).all (yf ps))) (fun i _=>os.length-(intOf i).toNat)
 case atStart=>exact⟨0,vO _,rfl,kB _ _,vH (by simp)⟩
 case round=>
  obtain⟨k,hk,rfl,hb,hT⟩:=hrel
  have k0:(0:Int)<=k:=vN _
  have hR2:=vH (hR'.out.step hb)
  by_cases hlt:k<os.length
  ·obtain⟨o,ho⟩:∃o,os[k]?=some o:=⟨os[k],vE hlt⟩
   obtain⟨b,⟨dv,uv,kv,tv⟩,e1,e2,e3,z0,z1,z2,z3,hO⟩:=hR2.out.ops.get ho
   dsimp only at z0 z1 z2 z3 e1 e3 hO
   have hmem:o∈os:=vM ho
   have hN:=hon'.out o hmem
   obtain⟨d,uses,tie,clob⟩:=o
   dsimp only at z2
   subst e1
   have k1:(k:Int)<os.length:=by omega
   have hi:IntKind.i64.wrap ((k:Int)+1)=k+1:=vI _ (by omega)
   have hT2:=vH (hT.out.trans (qiP (yf ps) os k _ ho))
   have hbl:BX wr (wr.alloc (.cells #[.slice dv.a dv.n dv.c,.slice uv.a uv.n uv.c,.int .i64 tie,.slice kv.a kv.n kv.c] 155)):=qi
   have hS:=(hR2.out.st.step hbl)
   have K:=qiO C _ ps dv uv kv tie d uses clob _ hS.chk hS.placesAt (hO.below hbl) hN.tie hN.few hN.d hN.u hN.k
   clear hS hO hN ho hmem hT hR2 e2 e3
   cases hq:yf ps ⟨d,uses,tie,clob⟩ with
   |false=>
    have hf:Hid (zQ ps cls os=false):=vH (by unfold zQ;rw[hT2.out,hq];rfl)
    rw[hq] at K
    clear hq
    go_wp2_with (go_at_call 121;refine K.mono ?_;clear K;rintro e W9 ⟨rfl,hb9⟩)
    go_ret
    exact⟨qI (by rw[hf.out];rfl),hb.trans ((hbl.trans (hb9.mono hbl.size)).mono hb.size)⟩
   |true=>
    have hf:Hid (os.all (yf ps)=(os.drop (k+1)).all (yf ps)):=vH (by rw[hT2.out,hq,Bool.true_and])
    rw[hq] at K
    clear hq
    go_wp2_with (go_at_call 121;refine K.mono ?_;clear K;rintro e W9 ⟨rfl,hb9⟩)
    exact⟨⟨k+1,by omega,by go_num,hb.trans ((hbl.trans (hb9.mono hbl.size)).mono hb.size),hf⟩,by simp[intOf];omega⟩
  ·have hall:Hid (os.all (yf ps)=true):=vH (by rw[hT.out,List.drop_eq_nil_of_le (by omega)];rfl)
   have c10:=hR2.out.st.chk.cell (j:=10) (v:=.slice ca cls.length cc) rfl
   clear hT c11 hR'
   go_wp2_with fail
   go_loopw [28] (fun i wl=>∃k:Nat,k<=cls.length/\i = .int .i64 k/\BX wr wl/\Hid (jb ps cls=jb ps (cls.drop k))) (fun i _=>cls.length-(intOf i).toNat)
   case atStart=>exact⟨0,vO _,rfl,kB _ _,vH (by simp)⟩
   case round=>
    obtain⟨i,hi,rfl,hbl,hP⟩:=hrel
    have i0:(0:Int)<=i:=vN _
    have hR3:=vH (hR2.out.step hbl)
    by_cases hil:i<cls.length
    ·obtain⟨a,ha⟩:∃a,cls[i]?=some a:=⟨cls[i],vE hil⟩
     obtain⟨b,o,va,e1,e2,e3,e4,_,e5⟩:=hR3.out.cls.lists.get ha
     dsimp only at e1 e5
     subst e1
     have i1:(i:Int)<cls.length:=by omega
     have i2:(i:Int)<=cls.length:=by omega
     have hwi:IntKind.i64.wrap ((i:Int)+1)=i+1:=vI _ (by omega)
     have hcci:cc≠i:=by omega
     have hP2:=vH (hP.out.trans (qcO ps cls i a ha))
     have c10':=qb hbl c10
     go_wp2_with fail
     have hIa:=vH e3
     clear e3 hP c10
     go_loopw [40] (fun u wj=>∃j:Nat,j<=cls.length-i/\u = .int .i64 j/\BX wr wj/\Hid (((cls.drop i).all fun b=>qP ps [a,b])=((cls.drop (i+j)).all fun b=>qP ps [a,b]))) (fun u _=>cls.length-i-(intOf u).toNat)
     case atStart=>exact⟨0,vO _,rfl,kB _ _,vH rfl⟩
     case round=>
      obtain⟨j,hj,rfl,hbj,hQ⟩:=hrel
      have j0:(0:Int)<=j:=vN _
      by_cases hjl:j<cls.length-i
      ·obtain⟨x,hx⟩:∃x,cls[i+j]?=some x:=⟨cls[i+j],vE (by omega)⟩
       have hR4:=vH (hR3.out.step hbj)
       obtain⟨b2,o2,vb,f1,f2,f3,f4,_,_⟩:=hR4.out.cls.lists.get hx
       dsimp only at f1
       cases f1
       rw[←Nat.add_assoc] at f2
       have j1:(j:Int)<((cls.length-i:Nat):Int):=by omega
       have hwj:IntKind.i64.wrap ((j:Int)+1)=j+1:=vI _ (by omega)
       have hbn:BX wr (wr.alloc (.cells #[.slice va.a va.n va.c,.slice vb.a vb.n vb.c] 55)):=qi
       have hS:=hR4.out.st.step hbn
       have K:=JN C _ ps ⟨some ⟨wr.heap.size,0,none⟩,2,2⟩ [a,x] _ hS.chk hS.placesAt (qfx (hIa.out.below hbj).at_ f3.at_ e4 f4) (by simp) (fun l hl=>by
        rcases List.mem_cons.1 hl with rfl|hl
        ·exact hcn'.out _ (vM ha)
        ·have:l=x:=by simpa using hl
         subst this;exact hcn'.out _ (vM hx))
       have hQ2:=vH (hQ.out.trans (qiP (fun b=>qP ps [a,b]) cls (i+j) x hx))
       clear hS f3 hQ hx hR4
       cases hq:qP ps [a,x] with
       |false=>
        have hf:Hid (zQ ps cls os=false):=vH (by unfold zQ;rw[hP2.out,hQ2.out,hq];simp)
        rw[hq] at K
        clear hq
        go_wp2_with (go_at_call 122;refine K.mono ?_;clear K;rintro e W9 ⟨rfl,hb9⟩)
        go_ret
        exact⟨qI (by rw[hf.out];rfl),hb.trans ((hbl.trans ((hbj.trans ((hbn.trans (hb9.mono hbn.size)).mono hbj.size)).mono hbl.size)).mono hb.size)⟩
       |true=>
        have hf:Hid (((cls.drop i).all fun b=>qP ps [a,b])=((cls.drop (i+(j+1))).all fun b=>qP ps [a,b])):=vH (by rw[hQ2.out,hq,Bool.true_and];rfl)
        rw[hq] at K
        clear hq
        go_wp2_with (go_at_call 122;refine K.mono ?_;clear K;rintro e W9 ⟨rfl,hb9⟩)
        exact⟨⟨j+1,by omega,by go_num,hbj.trans ((hbn.trans (hb9.mono hbn.size)).mono hbj.size),hf⟩,by simp[intOf];omega⟩
      ·have hq:Hid (jb ps cls=jb ps (cls.drop (i+1))):=vH (by rw[hP2.out,hQ.out,List.drop_eq_nil_of_le (by omega)];rfl)
       have hjn:¬ ((j:Int)<((cls.length-i:Nat):Int)):=by omega
       clear hQ hP2 hR3
       go_wp2_with fail
       exact⟨⟨i+1,by omega,by go_num,hbl.trans (hbj.mono hbl.size),hq⟩,by simp[intOf];omega⟩
    ·have hpp:Hid (jb ps cls=true):=vH (by rw[hP.out,List.drop_eq_nil_of_le (by omega)];rfl)
     have hf:Hid (zQ ps cls os=true):=vH (by unfold zQ;rw[hall.out,hpp.out];rfl)
     clear hP hR2 hR3
     go_wp2_with fail
     go_ret
     exact⟨qI (by rw[hf.out];rfl),hb.trans (hbl.mono hb.size)⟩
theorem Jg(C:Nat)(c:CV)(ok:Bool)(w:World)(hC:jq w C c)(K:Calls prog 106 #[.string c.m.name] w fun e w'=>e = .returned (.bool ok)/\BX w w') :
 Calls prog 59 #[.pointer (some ⟨C,0,none⟩)] w fun e w'=>e = .returned (.int .i64 (if ok=true then 0 else 5))/\BX w w':=by
 have c0:=hC.cell (j:=0) (v:=.string c.m.name) rfl
 clear hC
 cases ok
 ·go_enter func59,ntmps59
  go_wp2_with (go_at_call 106;refine K.mono ?_;clear K;rintro e W1 ⟨rfl,hb⟩)
  go_ret
  exact⟨rfl,hb⟩
 ·go_enter func59,ntmps59
  go_wp2_with (go_at_call 106;refine K.mono ?_;clear K;rintro e W1 ⟨rfl,hb⟩)
  go_ret
  exact⟨rfl,hb⟩
theorem qdO[Inhabited zH](C:Nat)(m:MV)(E:List qA)(w0 w:World)(hB:BX w0 w)(hbase:w0.heap.size<=C)(hC:jq w C ⟨m,⟨none,0,0⟩,⟨none,0,0⟩,⟨none,0,0⟩,⟨none,0,0⟩,⟨none,0,0⟩,0⟩)
 (hF:qd w (default:zH).b 110 (default:zH).cs) (hne:E ≠ []) (hlen:E.length<=200) (hok:∀p,p∈E.map qA.place->xT p)
 (K:Calls prog 74 #[.slice m.regs.a m.regs.n m.regs.c] w (jh w E)) :
 Calls prog 60 #[.pointer (some ⟨C,0,none⟩)] w fun e w'=>e = .returned (.int .i64 0)/\∃nV pV,St w0 w' C ⟨m,nV,pV,⟨none,0,0⟩,⟨none,0,0⟩,⟨none,0,0⟩,0⟩ (E.map (·.name)) (E.map qA.place):=by
 have c1:=hC.cell (j:=1) (v:=.slice m.regs.a m.regs.n m.regs.c) rfl
 have hln:(0:Int)<E.length:=by have:=List.length_pos_iff.2 hne;omega
 have hl0:(E.length:Int)≠0:=by omega
 have hpos:E.length≠0:=by omega
 have hC2:=vH hC
 have hF2:=vH hF
 have hok2:=vH hok
 clear hC hF hok hne
 go_enter func60,ntmps60
 go_wp2_with (go_at_call 74;refine K.mono ?_;clear K;rintro e W1 ⟨nV,pV,rfl,hn,hp,hb1⟩;obtain⟨na,nc,rfl⟩:=qx hn;obtain⟨pa,pc,rfl⟩:=qx hp;have hC1:=hC2.out.below hb1 hC2.out.lt;have d8:=hC1.cell (j:=8) (v:=.slice none 0 0) rfl;have d9:=hC1.cell (j:=9) (v:=.slice none 0 0) rfl;have f8:=hC1.frozen 8;have f9:=hC1.frozen 9;replace hn:=vH hn;replace hp:=vH hp)
 go_ret
 have hBw:=hB.trans (hb1.mono hB.size)
 have hC8:=hC1.set (.slice na E.length nc) (j:=8)
 have hC9:=hC8.set (.slice pa E.length pc) (j:=9)
 have hF1:=hF2.out.below hb1 hF2.out.lt
 have hne:(default:zH).b≠C:=fun eb=>by
  rw[eb] at hF1
  have h2:=Option.some.inj ((show W1.heap[C]?=_ from hF1).symm.trans (show W1.heap[C]?=_ from hC1))
  injection h2 with _ ht _
  exact absurd ht (by decide)
 have hnl:(E.map (·.name)).length=E.length:=by simp
 have hpl:(E.map qA.place).length=E.length:=by simp
 refine⟨rfl,⟨na,E.length,nc⟩,⟨pa,E.length,pc⟩,?_⟩
 exact {
  below:=(hBw.setCell (p:=⟨C,8,none⟩) hbase _).setCell (p:=⟨C,9,none⟩) hbase _
  base:=hbase
  chk:=hC9
  names:=by
   rw[hnl,List.map_map]
   exact zq hC8 (zq hC1 (qm hn.out hB.size) (by decide) 8 _) (by decide) 9 _
  places:=by
   rw[hpl]
   exact zq hC8 (zq hC1 (qm hp.out hB.size) (by decide) 8 _) (by decide) 9 _
  few:=by rw[hnl];exact hlen
  same:=by rw[hnl,hpl]
  ok:=hok2.out
  fns:=(Below.heap_setCell _ ⟨C,9,none⟩ _ _ hne).trans ((Below.heap_setCell W1 ⟨C,8,none⟩ _ _ hne).trans hF1) }
theorem qbu(C:Nat)(c:CV)(n:Int)(w0 w:World)(hB:BX w0 w)(hbase:w0.heap.size<=C)(hC:jq w C c)(hn:n≠0)
 (K:Calls prog 74 #[.slice c.m.regs.a c.m.regs.n c.m.regs.c] w (Qy w n)) :
 Calls prog 60 #[.pointer (some ⟨C,0,none⟩)] w fun e w'=>e = .returned (.int .i64 n)/\BX w0 w':=by
 have c1:=hC.cell (j:=1) (v:=.slice c.m.regs.a c.m.regs.n c.m.regs.c) rfl
 have hC2:=vH hC
 clear hC
 go_enter func60,ntmps60
 go_wp2_with (go_at_call 74;refine K.mono ?_;clear K;rintro e W1 ⟨rfl,hb1⟩;have hC1:=hC2.out.below hb1 hC2.out.lt;have d8:=hC1.cell (j:=8) (v:=.slice c.names.a c.names.n c.names.c) rfl;have d9:=hC1.cell (j:=9) (v:=.slice c.places.a c.places.n c.places.c) rfl;have f8:=hC1.frozen 8;have f9:=hC1.frozen 9)
 go_ret
 exact⟨rfl,((hB.trans (hb1.mono hB.size)).setCell (p:=⟨C,8,none⟩) hbase _).setCell (p:=⟨C,9,none⟩) hbase _⟩
def jE(C:Nat)(fs:List Nat):Array Value:=(fs.map fun f=>Value.func (.func f) #[.pointer (some ⟨C,0,none⟩)] #[]).toArray
def qgh(I:World->Prop)(R:Int->World->Prop)(e:Ending)(w':World):Prop:=∃x,e = .returned (.int .i64 x)/\(x=0->I w')/\(x≠0->R x w')
theorem qbW(C Fb:Nat)(fs:List Nat)(I:Nat->World->Prop)(R:Int->World->Prop)(w:World)(hlen:fs.length<=100)(hF:∀k W,I k W->qd W Fb 110 (jE C fs))
 (eg:∀f,f∈fs->∀args w,(callFunc f args).run prog w = .ok (.enter f args) w)
 (hp:∀k f,fs[k]?=some f->∀W,I k W->Calls prog f #[.pointer (some ⟨C,0,none⟩)] W (qgh (I (k+1)) R)) (h0:I 0 w) :
 Calls prog 58 #[.slice (some ⟨Fb,0,none⟩) fs.length fs.length] w (qgh (I fs.length) R):=by
 replace hp:=vH hp
 replace eg:=vH eg
 replace hF:=vH hF
 go_enter func58,ntmps58
 go_wp2
 go_loopw [8] (fun i wr=>∃k:Nat,k<=fs.length/\i = .int .i64 k/\I k wr) (fun i _=>fs.length-(intOf i).toNat)
 case atStart=>exact⟨0,vO _,rfl,h0⟩
 case round=>
  obtain⟨k,hk,rfl,hI⟩:=hrel
  have k0:(0:Int)<=k:=vN _
  by_cases hlt:k<fs.length
  ·obtain⟨f,hf⟩:∃f,fs[k]?=some f:=⟨fs[k],vE hlt⟩
   have hc:=(hF.out k wr hI).cell (j:=k) (v:=.func (.func f) #[.pointer (some ⟨C,0,none⟩)] #[]) (by unfold jE;simp[hf])
   have k1:(k:Int)<fs.length:=by omega
   have hi:IntKind.i64.wrap ((k:Int)+1)=k+1:=vI _ (by omega)
   have K:=hp.out k f hf wr hI
   have ef:=eg.out f (vM hf)
   clear hf
   go_wp2_with (go_at_fn f;refine K.mono ?_;clear K;rintro e W1 ⟨x,rfl,h1,h2⟩;replace h1:=vH h1;replace h2:=vH h2)
   ·rename_i hx
    have hx':x≠0:=by simpa using hx
    go_ret
    exact⟨x,rfl,fun h=>absurd h hx',fun h=>h2.out h⟩
   ·rename_i hx
    have hx':x=0:=by simpa using hx
    exact⟨⟨k+1,by omega,by go_num,h1.out hx'⟩,by simp[intOf];omega⟩
  ·obtain rfl:k=fs.length:=by omega
   go_wp2_with fail
   go_ret
   exact⟨0,rfl,fun _=>hI,fun h=>absurd rfl h⟩
theorem Xd(nm:ByteArray->Bool)(ns:List ByteArray)(ps:List Plc):∀ (cs pre:List qp),zA nm ns ps pre cs=0->∀k,k∈cs->zw ns ps k=true
 | [],_,_,k,hk=>by cases hk
 |c::rest,pre,h,k,hk=>by
  unfold zA at h
  split at h
  ·rename_i h0
   rcases List.mem_cons.1 hk with rfl|hk
   ·unfold zT at h0
    split at h0
    ·cases h0
    ·split at h0
     ·assumption
     ·cases h0
   ·exact Xd nm ns ps rest _ h k hk
  ·rename_i h0
   exact absurd h h0
theorem xD{nm:ByteArray->Bool}{ns:List ByteArray}{ps:List Plc}{cs:List qp}(h:qy nm ns ps cs=0):cs.length<=64/\∀k,k∈cs->zw ns ps k=true:=by
 unfold qy at h
 split at h
 ·cases h
 ·exact⟨by omega,Xd nm ns ps cs [] h⟩
theorem YQ(ns:List ByteArray)(ps:List Plc)(cs:List qp):∀ (os pre:List OpD),jj ns ps cs pre os=0->∀o,o∈os->jm ns ps cs o=true
 | [],_,_,k,hk=>by cases hk
 |c::rest,pre,h,k,hk=>by
  unfold jj at h
  split at h
  ·rename_i h0
   rcases List.mem_cons.1 hk with rfl|hk
   ·unfold jI at h0
    split at h0
    ·cases h0
    ·split at h0
     ·assumption
     ·cases h0
   ·exact YQ ns ps cs rest _ h k hk
  ·rename_i h0
   exact absurd h h0
theorem Zk{ns:List ByteArray}{ps:List Plc}{cs:List qp}{os:List OpD}(h:jf ns ps cs os=0):os.length<=64/\∀o,o∈os->jm ns ps cs o=true:=by
 unfold jf at h
 split at h
 ·cases h
 ·exact⟨by omega,YQ ns ps cs os [] h⟩
theorem je{ns l:List ByteArray}{most:Nat}(h:zx ns l most=true):l.length<=most/\(qh ns l).contains (-1)=false:=by
 unfold zx at h
 rw[Bool.and_eq_true,Bool.not_eq_true'] at h
 exact⟨of_decide_eq_true h.1,h.2⟩
theorem Zl{nm:ByteArray->Bool}{ns:List ByteArray}{ps:List Plc}{cs:List qp}(hs:ps.length=ns.length)(h:qy nm ns ps cs=0):∀l,l∈qr ns cs->∀x,x∈l->Num ps x:=fun l hl=>by
 obtain⟨k,hk,rfl⟩:=List.mem_map.1 hl
 have hf:=(xD h).2 k hk
 unfold zw at hf
 simp only[Bool.and_eq_true] at hf
 exact Qu hs (je hf.1.1.1).2
theorem qlm{nm:ByteArray->Bool}{ns:List ByteArray}{ps:List Plc}{cs:List qp}{o:OpD}(hs:ps.length=ns.length)(h:qy nm ns ps cs=0)(ho:jm ns ps cs o=true):qka ps (opR ns cs o):=by
 have hcl:=Zl hs h
 have hch:∀q:zL,∀x,x∈ql ns cs q->Num ps x:=fun q x hx=>by
  obtain⟨l,h1,h2⟩:=yI hx
  exact hcl l h1 x h2
 unfold jm at ho
 simp only[Bool.and_eq_true] at ho
 obtain⟨⟨⟨⟨⟨⟨h1,h2⟩,h3⟩,_⟩,_⟩,_⟩,_⟩:=ho
 have hu:o.uses.length=zk o.name:=of_decide_eq_true h1
 have hle:=JO o.name
 have hul:(opR ns cs o).uses.length=o.uses.length:=by simp[opR]
 refine⟨?_,by omega,hch o.d,fun l hl x hx=>?_,Qu hs (je h3).2⟩
 ·rw[hul]
  show o.tie<_
  unfold jd at h2
  simp only[Bool.or_eq_true,Bool.and_eq_true,decide_eq_true_eq] at h2
  omega
 ·obtain⟨q,_,rfl⟩:=List.mem_map.1 hl
  exact hch q x hx
theorem qkj{nm:ByteArray->Bool}{ns:List ByteArray}{ps:List Plc}{cs:List qp}{os:List OpD}(hs:ps.length=ns.length)(h:qy nm ns ps cs=0)(ho:jf ns ps cs os=0):∀o,o∈os.map (opR ns cs)->qka ps o:=fun o h1=>by
 obtain⟨q,hq,rfl⟩:=List.mem_map.1 h1
 exact qlm hs h ((Zk ho).2 q hq)
def PtS(w:World)(x:Int)(J:World->Prop)(e:Ending)(W':World):Prop:=e = .returned (.int .i64 x)/\BX w W'/\(x=0->J W')
def yq:List Nat:=[59,60,61,62,63,64,65]
def MV.fresh(m:MV):CV:=⟨m,⟨none,0,0⟩,⟨none,0,0⟩,⟨none,0,0⟩,⟨none,0,0⟩,⟨none,0,0⟩,0⟩
def yY(w:World)(m:MV)(N:Nat):World:=
 ((w.alloc (.cells #[.string m.name,.slice m.regs.a m.regs.n m.regs.c,.slice m.classes.a m.classes.n m.classes.c,.slice m.ops.a m.ops.n m.ops.c,.slice m.args.a m.args.n m.args.c,.string m.result,.slice m.saved.a m.saved.n m.saved.c,.int .i64 m.slots] 27)).alloc (.cells m.fresh.cells 108)).alloc (.cells (jE (w.heap.size+1) (yq.take N)) 110)
end Go.Proofs.YtomlgdnafeeeiaaGreatDoor
