/-
  The reference's In and Width of any number; what the table and the reference tell of one class.
-/
import Derived.Test.YtkoloennfejaaaaGreatDoorTfA
import Derived.Test.YtkoloennfejaaaaGreatDoorRefThree
set_option maxHeartbeats 1600000
set_option maxRecDepth 100000
namespace Go.Proofs.YtkoloennfejaaaaGreatDoor
open Go.RowKit
theorem YX(T:Nat)(t:TV)(ls:List (List Int))(c:Int)(x:Int)(w:World)(hT:TabAt w T t)(hL:qQ w t.classes ls)(hc:c<0∨(ls.length:Int)<=c) :
 Calls Tryz.prog 17 #[.pointer (some ⟨T,0,none⟩),.int .i64 c,.int .i64 x] w fun e w'=>e = .returned (.bool false)/\Below w.heap.size w w':=by
 have c10:=Cells.cell hT (j:=10) (v:=.slice t.classes.a t.classes.n t.classes.c) rfl
 rw[hL.len] at c10
 clear hT hL
 by_cases h0:0<=c
 ·have h1:¬ c<(ls.length:Int):=by omega
  have d1:decide ((0:Int)<=c)=true:=decide_eq_true h0
  have d2:decide (c<(ls.length:Int))=false:=decide_eq_false h1
  clear hc
  go_enter Tryz.func17,Tryz.ntmps17
  go_wp2_with fail
  go_ret
  exact⟨rfl,Below.refl _ _⟩
 ·have d1:decide ((0:Int)<=c)=false:=decide_eq_false h0
  clear hc
  go_enter Tryz.func17,Tryz.ntmps17
  go_wp2_with fail
  go_ret
  exact⟨rfl,Below.refl _ _⟩
theorem YY(T:Nat)(t:TV)(ls:List (List Int))(c:Int)(w:World)(hT:TabAt w T t)(hL:qQ w t.classes ls)(hc:c<0∨(ls.length:Int)<=c) :
 Calls Tryz.prog 15 #[.pointer (some ⟨T,0,none⟩),.int .i64 c] w fun e w'=>e = .returned (.int .i64 0)/\Below w.heap.size w w':=by
 have c10:=Cells.cell hT (j:=10) (v:=.slice t.classes.a t.classes.n t.classes.c) rfl
 rw[hL.len] at c10
 clear hT hL
 by_cases h0:c<0
 ·have d1:decide (c<(0:Int))=true:=decide_eq_true h0
  clear hc
  go_enter Tryz.func15,Tryz.ntmps15
  go_wp2_with fail
  go_ret
  exact⟨rfl,Below.refl _ _⟩
 ·have h1:(ls.length:Int)<=c:=by omega
  have d1:decide (c<(0:Int))=false:=decide_eq_false h0
  have d2:decide ((ls.length:Int)<=c)=true:=decide_eq_true h1
  clear hc
  go_enter Tryz.func15,Tryz.ntmps15
  go_wp2_with fail
  go_ret
  exact⟨rfl,Below.refl _ _⟩
structure Xz(w:World)(C T:Nat)(c:Int)(L:List Int)(wd:Int):Prop where
 inn:∀W r,Below w.heap.size w W->Calls Tryz.prog 16 #[.pointer (some ⟨C,0,none⟩),.int .i64 c,.int .i64 r] W fun e w'=>e = .returned (.bool (L.contains r))/\Below W.heap.size W w'
 rin:∀W r,Below w.heap.size w W->Calls Tryz.prog 17 #[.pointer (some ⟨T,0,none⟩),.int .i64 c,.int .i64 r] W fun e w'=>e = .returned (.bool (L.contains r))/\Below W.heap.size W w'
 width:∀W,Below w.heap.size w W->Calls Tryz.prog 14 #[.pointer (some ⟨C,0,none⟩),.int .i64 c] W fun e w'=>e = .returned (.int .i64 wd)/\Below W.heap.size W w'
 rwidth:∀W,Below w.heap.size w W->Calls Tryz.prog 15 #[.pointer (some ⟨T,0,none⟩),.int .i64 c] W fun e w'=>e = .returned (.int .i64 wd)/\Below W.heap.size W w'
 of:∀W,Below w.heap.size w W->Calls Tryz.prog 12 #[.pointer (some ⟨C,0,none⟩),.int .i64 c] W (NewL W L)
theorem qgO{l:List Int}{n:Nat}(hn:n<=65536)(h:∀x,x∈l->0<=x/\x<n)(b:Int):(decide (0<=b)&&ofP l b.toNat)=l.contains b:=by
 by_cases h0:0<=b
 ·rw[decide_eq_true h0,Bool.true_and]
  unfold ofP
  rw[Int.toNat_of_nonneg h0]
  by_cases hm:b∈l
  ·have:=h b hm
   rw[decide_eq_true (show b.toNat<=65535 by omega),Bool.true_and]
  ·rw[List.contains_eq_mem,decide_eq_false hm,Bool.and_false]
 ·rw[decide_eq_false h0,Bool.false_and]
  symm
  rw[List.contains_eq_mem]
  exact decide_eq_false fun hm=>h0 (h b hm).1
structure Jp(base:Nat)(w:World)(C T:Nat)(d:MachD)(L M:RegL)(tb:TB)(rl:List RegT)(cl:List ClsT)(ol:List OpT)(t:TV):Prop where
 tab:TabIn base w C d L M tb rl cl ol
 ok:TabOk w T t d (nmsL L) (plsL L) (clsOf (nmsL L) d.classes)
 kls:∀k,k∈d.classes->k.regs ≠ []/\k.regs.length<=64/\(regsL (nmsL L) k.regs).contains (-1)=false
 nodup:(d.classes.map (·.name)).Nodup
 few:d.classes.length<=64
section
variable {base:Nat} {w:World} {C T:Nat} {d:MachD} {L M:RegL} {tb:TB} {rl:List RegT} {cl:List ClsT} {ol:List OpT} {t:TV}
theorem Jp.nums(h:Jp base w C T d L M tb rl cl ol t){k:ClassD}(hk:k∈d.classes):∀x,x∈regsL (nmsL L) k.regs->0<=x/\x<(plsL L).length:=fun x hx=>by
 have h1:=(h.kls k hk).2.2
 obtain⟨s,_,rfl⟩:=List.mem_map.1 hx
 have h2:=qA (nmsL L) s
 have h3:=h.ok.len
 refine⟨?_,by omega⟩
 by_cases h0:0<=regN (nmsL L) s
 ·exact h0
 ·exfalso
  have h4:regN (nmsL L) s = -1:=by omega
  rw[h4] at hx
  rw[List.contains_eq_mem,decide_eq_true hx] at h1
  cases h1
theorem qfT(h:Jp base w C T d L M tb rl cl ol t){j:Nat}{k:ClassD}(hk:d.classes[j]?=some k):Xz w C T j (regsL (nmsL L) k.regs) (plc (plsL L) ((regsL (nmsL L) k.regs).headD 0)).2.2:=by
 have hm:=List.mem_of_getElem? hk
 have hj:=(List.getElem?_eq_some_iff.1 hk).1
 obtain⟨hne,hlen,hno⟩:=h.kls k hm
 obtain⟨x,hx⟩:∃x,cl[j]?=some x:=⟨cl[j]'(by rw[h.tab.cls.len];exact hj),List.getElem?_eq_getElem _⟩
 have hg:clsAtN cl (j:Int)=x:=by unfold clsAtN;rw[if_pos (by omega),List.getD_eq_getElem?_getD,Int.toNat_natCast,hx];rfl
 have hn0:=xi hno
 have hnum:=h.nums hm
 have hll:(regsL (nmsL L) k.regs).length<=64:=by unfold regsL;rw[List.length_map];exact hlen
 have hcl:(clsOf (nmsL L) d.classes)[j]?=some (regsL (nmsL L) k.regs):=by unfold clsOf;rw[List.getElem?_map,hk];rfl
 have hfew:=h.ok.few
 obtain⟨y,hy⟩:∃y,(regsL (nmsL L) k.regs)[0]?=some y:=⟨(regsL (nmsL L) k.regs)[0]'(by unfold regsL;rw[List.length_map];exact List.length_pos_iff.2 hne),List.getElem?_eq_getElem _⟩
 have hhd:(regsL (nmsL L) k.regs).headD 0=y:=by rw[←List.head?_eq_getElem?] at hy;rw[List.headD_eq_head?_getD,hy];rfl
 have hyn:=hnum y (List.mem_of_getElem? hy)
 refine⟨fun W r hb=>?_,fun W r hb=>?_,fun W hb=>?_,fun W hb=>?_,fun W hb=>?_⟩
 ·have hT:=h.tab.below hb
  obtain⟨_,h2,_⟩:=hT.cls.each j x k hx hk
  have:=qhc C tb.cS (.map tb.cM) cl _ j r W (hT.tab.cell (j:=10) rfl) (hT.tab.cell (j:=11) rfl) (zk.of_row hT.cls.row) (by rw[hg];exact h2)
  rw[hn0,qgO (n:=(plsL L).length) (by omega) hnum] at this
  exact this
 ·have hO:=h.ok.below hb
  have:=XV T t (clsOf (nmsL L) d.classes) j r W hO.tab hO.lists (.inr ⟨by omega,by have:=(List.getElem?_eq_some_iff.1 hcl).1;omega⟩)
  rw[decide_eq_true (show(0:Int)<=(j:Int) by omega),Bool.true_and,Int.toNat_natCast,List.getD_eq_getElem?_getD,hcl] at this
  exact this.mono fun e w' ⟨h1,h2⟩=>⟨h1,by rw[←h2];exact Below.refl _ _⟩
 ·have hT:=h.tab.below hb
  obtain⟨_,_,h3⟩:=hT.cls.each j x k hx hk
  have:=qbj C tb.cS (.map tb.cM) cl j W (hT.tab.cell (j:=10) rfl) (hT.tab.cell (j:=11) rfl) (zk.of_row hT.cls.row)
  rw[hg,h3,hn0] at this
  exact this
 ·have hO:=h.ok.below hb
  rw[hhd]
  exact(XZ T t (plsL L) (clsOf (nmsL L) d.classes) j _ y W hO.tab hO.places hO.lists hcl hy hyn).mono fun e w' ⟨h1,m,h2⟩=>⟨h1,by rw[h2];exact below_drewN (Below.refl _ _) _⟩
 ·have hT:=h.tab.below hb
  obtain⟨h1,_,_⟩:=hT.cls.each j x k hx hk
  rw[hn0] at h1
  refine qhd C tb.cS (.map tb.cM) cl _ j W (hT.tab.cell (j:=10) rfl) (hT.tab.cell (j:=11) rfl) (zk.of_row hT.cls.row) (by rw[hg];exact h1.at_) (by omega) (by
   rw[hg]
   intro h0
   rcases h1.2 with⟨e1,_⟩|⟨g,cap,cur,e1,_⟩
   ·unfold SlV.v at e1;injection e1
   ·unfold SlV.v at e1;injection e1 with ea;rw[ea] at h0;cases h0)
theorem qgP(h:Jp base w C T d L M tb rl cl ol t){c:Int}(hc:c<0∨(d.classes.length:Int)<=c):Xz w C T c [] 0:=by
 have hg:clsAtN cl c=ClsT.none:=by
  have:=h.tab.cls.len
  unfold clsAtN
  by_cases h0:0<=c
  ·rw[if_pos h0,List.getD_eq_getElem?_getD,List.getElem?_eq_none (by omega)];rfl
  ·rw[if_neg h0]
 have hcl:(clsOf (nmsL L) d.classes).length=d.classes.length:=by simp[clsOf]
 refine⟨fun W r hb=>?_,fun W r hb=>?_,fun W hb=>?_,fun W hb=>?_,fun W hb=>?_⟩
 ·have hT:=h.tab.below hb
  have:=qhc C tb.cS (.map tb.cM) cl (fun _=>false) c r W (hT.tab.cell (j:=10) rfl) (hT.tab.cell (j:=11) rfl) (zk.of_row hT.cls.row) (by rw[hg];exact SetAt.none W)
  rw[Bool.and_false] at this
  exact this
 ·have hO:=h.ok.below hb
  exact YX T t _ c r W hO.tab hO.lists (by omega)
 ·have hT:=h.tab.below hb
  have:=qbj C tb.cS (.map tb.cM) cl c W (hT.tab.cell (j:=10) rfl) (hT.tab.cell (j:=11) rfl) (zk.of_row hT.cls.row)
  rw[hg] at this
  exact this
 ·have hO:=h.ok.below hb
  exact YY T t _ c W hO.tab hO.lists (by omega)
 ·have hT:=h.tab.below hb
  exact qhd C tb.cS (.map tb.cM) cl [] c W (hT.tab.cell (j:=10) rfl) (hT.tab.cell (j:=11) rfl) (zk.of_row hT.cls.row) (by rw[hg];exact⟨rfl,Nat.le_refl _,fun j x hj=>by simp at hj⟩) (by simp) (by rw[hg];intro _;rfl)
theorem qhX(h:Jp base w C T d L M tb rl cl ol t)(ht:jW d){kl:SlV}(hK:ClassesAt w kl d.classes){k:Nat}(hk:k<d.classes.length) :
 ∃ (nm:ByteArray) (V:List Int) (wd:Int),Xz w C T k V wd/\V.length<=64/\(∃ (b o:Nat) (v:SlV),t.classes.a=some ⟨b,o,none⟩/\w.cell? ⟨b,o+k,none⟩=some (.slice v.a v.n v.c)/\IntsAt w v V) /\
  (∃b o,kl.a=some ⟨b,o,none⟩/\w.cell? ⟨b,o+k*2,none⟩=some (.string nm)) /\
  ∀W,Below w.heap.size w W->Calls Tryz.prog 10 #[.pointer (some ⟨C,0,none⟩),.string nm] W fun e w'=>e = .returned (.tuple #[.int .i64 k,.bool true])/\Below W.heap.size W w':=by
 obtain⟨x,hx⟩:∃x,d.classes[k]?=some x:=⟨d.classes[k],List.getElem?_eq_getElem hk⟩
 have hm:=List.mem_of_getElem? hx
 have hcl:(clsOf (nmsL L) d.classes)[k]?=some (regsL (nmsL L) x.regs):=by unfold clsOf;rw[List.getElem?_map,hx];rfl
 obtain⟨b,o,v,h1,h2,h3,_⟩:=h.ok.lists.get hcl
 obtain⟨b',o',h4,r,h5,_⟩:=hK.2.2 k x hx
 refine⟨x.name,_,_,qfT h hx,?_,⟨b,o,v,h1,h2,h3.at_⟩,⟨b',o',h4,h5⟩,fun W hb=>?_⟩
 ·unfold regsL;rw[List.length_map];exact(h.kls x hm).2.1
 ·have hT:=h.tab.below hb
  have:=Jh C base tb (d.classes.map (·.name)) x.name W hT.tab hT.cls.map (ht.classes x hm).1
  have hi:regN (d.classes.map (·.name)) x.name=k:=by
   have hkm:(d.classes.map (·.name))[k]?=some x.name:=by rw[List.getElem?_map,hx];rfl
   obtain⟨i,g1,g2⟩:=qcS (List.mem_of_getElem? hkm)
   rw[g1,(List.getElem?_inj (List.getElem?_eq_some_iff.1 g2).1 h.nodup).1 (g2.trans hkm.symm)]
  rw[show num0 (d.classes.map (·.name)) x.name=k by unfold num0;rw[hi];omega,show ZN (d.classes.map (·.name)) x.name=true by unfold ZN;rw[hi];exact decide_eq_true (by omega)] at this
  exact this
theorem qhY(h:Jp base w C T d L M tb rl cl ol t)(n:Int) :
 ∃ (V:List Int) (wd:Int),Xz w C T n V wd/\V.length<=64/\((0<=n/\n<(d.classes.length:Int)/\∃ (b o:Nat) (v:SlV),t.classes.a=some ⟨b,o,none⟩/\w.cell? ⟨b,o+n.toNat,none⟩=some (.slice v.a v.n v.c)/\IntsAt w v V)∨((n<0∨(d.classes.length:Int)<=n)/\V = [])):=by
 by_cases hin:0<=n/\n<(d.classes.length:Int)
 ·obtain⟨j,rfl⟩:∃j:Nat,n=j:=⟨n.toNat,by omega⟩
  obtain⟨x,hx⟩:∃x,d.classes[j]?=some x:=⟨d.classes[j]'(by omega),List.getElem?_eq_getElem _⟩
  have hcl:(clsOf (nmsL L) d.classes)[j]?=some (regsL (nmsL L) x.regs):=by unfold clsOf;rw[List.getElem?_map,hx];rfl
  obtain⟨b,o,v,h1,h2,h3,_⟩:=h.ok.lists.get hcl
  exact⟨_,_,qfT h hx,by unfold regsL;rw[List.length_map];exact(h.kls x (List.mem_of_getElem? hx)).2.1,.inl ⟨hin.1,hin.2,b,o,v,h1,by rw[Int.toNat_natCast];exact h2,h3.at_⟩⟩
 ·exact⟨[],0,qgP h (by omega),by simp,.inr ⟨by omega,rfl⟩⟩
theorem qhS(h:Jp base w C T d L M tb rl cl ol t)(nm:ByteArray)(hz:nm.size<=281474976710656) :
 ∃q:Int,(∀W,Below w.heap.size w W->Calls Tryz.prog 10 #[.pointer (some ⟨C,0,none⟩),.string nm] W fun e w'=>e = .returned (.tuple #[.int .i64 (max 0 q),.bool (decide (0<=q))])/\Below W.heap.size W w') /\
  ∀W,Below w.heap.size w W->Calls Tryz.prog 11 #[.pointer (some ⟨T,0,none⟩),.string nm] W fun e w'=>e = .returned (.int .i64 q)/\W=w':=by
 refine⟨cIdx d.classes nm,fun W hb=>?_,fun W hb=>?_⟩
 ·have hT:=h.tab.below hb
  have:=Jh C base tb (d.classes.map (·.name)) nm W hT.tab hT.cls.map hz
  unfold num0 ZN at this
  rw[qbk] at this
  exact this
 ·have hO:=h.ok.below hb
  exact xA T t d.classes nm W hO.tab hO.kls hO.kbig
end
end Go.Proofs.YtkoloennfejaaaaGreatDoor
