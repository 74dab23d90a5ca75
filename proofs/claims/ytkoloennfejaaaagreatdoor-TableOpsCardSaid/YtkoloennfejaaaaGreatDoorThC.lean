/-
  What the table and the reference tell of one operation.
-/
import Derived.Test.YtkoloennfejaaaaGreatDoorTcYP
import Derived.Test.YtkoloennfejaaaaGreatDoorThA
import Derived.Test.YtkoloennfejaaaaGreatDoorThB
namespace Go.Proofs.YtkoloennfejaaaaGreatDoor
open Go.RowKit
theorem qgS(ps:List Plc)(a:Int)(n:Nat):lapsN ps a n=xC ps a n:=by
 unfold lapsN
 by_cases h0:0<=a
 ·by_cases h1:a<(ps.length:Int)
  ·rw[decide_eq_true h0,decide_eq_true h1,qbd ps h0 h1];rfl
  ·unfold xC
   rw[decide_eq_false (p:=a<(ps.length:Int)) h1];simp
 ·unfold xC
  rw[decide_eq_false h0];simp
theorem qhU(ps:List Plc)(a:Int){r:Int}(h:r<0):xC ps a r=false:=by
 unfold xC
 rw[decide_eq_false (p:=0<=r) (by omega)];simp
theorem qbo{ns:List ByteArray}{cs:List ClassD}{o:OperD}(hs:ns.length<=65536)(hk:∀k,k∈cs->(regsL ns k.regs).contains (-1)=false)(ho:operandB ns cs o=true)(n:Nat) :
 zD ns (cs.map (·.name)) (setsOf ns cs) o n=(choiceS ns cs o).contains (n:Int):=by
 unfold operandB at ho
 simp only[Bool.and_eq_true,decide_eq_true_eq,Bool.or_eq_true] at ho
 obtain⟨h0,h1⟩:=ho
 obtain⟨j,hj⟩:∃j:Nat,cIdx cs o.cls=j:=⟨(cIdx cs o.cls).toNat,by omega⟩
 have hrg:=xy cs o.cls
 obtain⟨k,hkj⟩:∃k,cs[j]?=some k:=⟨cs[j]'(by omega),List.getElem?_eq_getElem _⟩
 have hno:=hk k (List.mem_of_getElem? hkj)
 have hcl:(clsOf ns cs).getD j []=regsL ns k.regs:=by unfold clsOf;rw[List.getD_eq_getElem?_getD,List.getElem?_map,hkj];rfl
 have hset:(setsOf ns cs).getD j (fun _=>false)=ofP (regsL ns k.regs):=by unfold setsOf;rw[List.getD_eq_getElem?_getD,List.getElem?_map,hkj,←xi hno];rfl
 have hn0:(num0 (cs.map (·.name)) o.cls).toNat=j:=by unfold num0;rw[qbk,hj];omega
 have hof:∀l:List Int,(∀x,x∈l->x<(ns.length:Int))->ofP l n=l.contains (n:Int):=fun l hl=>by
  unfold ofP
  by_cases hm:(n:Int)∈l
  ·have:=hl _ hm
   rw[decide_eq_true (show n<=65535 by omega),Bool.true_and]
  ·rw[List.contains_eq_mem,decide_eq_false hm,Bool.and_false]
 have hreg:∀x,x∈regsL ns k.regs->x<(ns.length:Int):=fun x hx=>by
  obtain⟨s,_,rfl⟩:=List.mem_map.1 hx
  exact(qA ns s).2
 unfold zD
 rw[hn0,hset,hof _ hreg,jo,if_neg (by omega),hj,Int.toNat_natCast,hcl]
 by_cases hf:o.fix.toList = []
 ·rw[if_pos hf,hf]
  simp
 ·rw[if_neg hf]
  have h2:=h1.resolve_left hf
  unfold inC at h2
  rw[hj,Int.toNat_natCast,hcl] at h2
  simp only[Bool.and_eq_true,decide_eq_true_eq] at h2
  rw[if_pos h2.2]
  have hm:regN ns o.fix∈regsL ns k.regs:=by have:=h2.2;rw[List.contains_eq_mem] at this;exact of_decide_eq_true this
  have h3:0<=regN ns o.fix:=by
   have h4:=qA ns o.fix
   by_cases h5:0<=regN ns o.fix
   ·exact h5
   ·exfalso
    have h6:regN ns o.fix = -1:=by omega
    rw[h6] at hm
    rw[List.contains_eq_mem,decide_eq_true hm] at hno
    cases hno
  have h7:num0 ns o.fix=regN ns o.fix:=by unfold num0;omega
  have he:o.fix.toList.isEmpty=false:=by
   cases hq:o.fix.toList with
   | nil=>exact absurd hq hf
   | cons=>rfl
  rw[he,Bool.false_or,h7,hof _ (fun x hx=>by rw[List.mem_singleton] at hx;rw[hx];exact(qA ns o.fix).2)]
  by_cases hn:(n:Int)=regN ns o.fix
  ·rw[hn]
   have:(regsL ns k.regs).contains (regN ns o.fix)=true:=by rw[List.contains_eq_mem];exact decide_eq_true hm
   rw[this];simp
  ·have : [regN ns o.fix].contains (n:Int)=false:=by rw[List.contains_eq_mem];exact decide_eq_false (by rw[List.mem_singleton];exact hn)
   rw[this,Bool.and_false]
theorem Zy{ns:List ByteArray}{ps:List Plc}{cs:List ClassD}{o:OperD}(hs:ns.length<=65536)(hk:∀k,k∈cs->(regsL ns k.regs).contains (-1)=false)(ho:operandB ns cs o=true)(hn:∀r,r∈choiceS ns cs o->Num ps r)(r:Int) :
 (decide (0<=r)&&zD ns (cs.map (·.name)) (setsOf ns cs) o r.toNat)=(choiceS ns cs o).contains r:=by
 by_cases h0:0<=r
 ·rw[decide_eq_true h0,Bool.true_and,qbo hs hk ho,Int.toNat_of_nonneg h0]
 ·rw[decide_eq_false h0,Bool.false_and]
  symm
  rw[List.contains_eq_mem]
  exact decide_eq_false fun hm=>h0 (hn r hm).1
theorem qfY{ns:List ByteArray}{ps:List Plc}{cs:List ClassD}{x:OpD}(hs:ns.length<=65536)(hk:∀k,k∈cs->(regsL ns k.regs).contains (-1)=false)(hc:(regsL ns x.clob).contains (-1)=false)(ho:OpOk ns ps cs x)(p r:Int) :
 Qi (mayPs ns ps cs x) p r=JQ ns ps cs x p r:=by
 unfold Qi JQ mayPs
 by_cases hp:p<0
 ·rw[if_pos hp,decide_eq_false (by omega)];rfl
 ·rw[if_neg hp,decide_eq_true (by omega),Bool.true_and]
  by_cases h0:p=0
  ·subst h0
   rw[if_pos rfl]
   show(decide (0<=r)&&(zD ns (cs.map (·.name)) (setsOf ns cs) x.d r.toNat && !((nums0 ns x.clob).any fun a=>lapsN ps a r.toNat)))=_
   rw[←Bool.and_assoc,Zy hs hk ho.good.d ho.dn,xi hc]
   by_cases hr:0<=r
   ·congr 1
    unfold clearA
    rw[List.all_eq_not_any_not]
    congr 2
    funext a
    rw[qgS,Int.toNat_of_nonneg hr,Bool.not_not]
   ·have:(choiceS ns cs x.d).contains r=false:=by
     rw[List.contains_eq_mem]
     exact decide_eq_false fun hm=>hr (ho.dn r hm).1
    rw[this,Bool.false_and,Bool.false_and]
  ·rw[if_neg h0]
   obtain⟨j,rfl⟩:∃j:Nat,p=(j:Int)+1:=⟨(p-1).toNat,by omega⟩
   rw[show((j:Int)+1).toNat=j+1 by omega,show((j:Int)+1-1).toNat=j by omega,List.getElem?_cons_succ,List.getElem?_map]
   cases hu:x.uses[j]? with
   | none=>rfl
   |some u=>
    have hm:=List.mem_of_getElem? hu
    exact Zy hs hk (ho.good.u u hm) (ho.un u hm) r
structure Ke(w:World)(C T:Nat)(n:Int)(q:Int->Int->Bool)(L:List Int)(tie:Int):Prop where
 may:∀W p r,Below w.heap.size w W->Calls Tryz.prog 20 #[.pointer (some ⟨C,0,none⟩),.int .i64 n,.int .i64 p,.int .i64 r] W fun e w'=>e = .returned (.bool (q p r))/\Below W.heap.size W w'
 rmay:∀W p r,Below w.heap.size w W->Calls Tryz.prog 21 #[.pointer (some ⟨T,0,none⟩),.int .i64 n,.int .i64 p,.int .i64 r] W fun e w'=>e = .returned (.bool (q p r))/\Below W.heap.size W w'
 tie:∀W,Below w.heap.size w W->Calls Tryz.prog 22 #[.pointer (some ⟨C,0,none⟩),.int .i64 n] W fun e w'=>e = .returned (.int .i64 tie)/\Below W.heap.size W w'
 clob:∀W,Below w.heap.size w W->Calls Tryz.prog 23 #[.pointer (some ⟨C,0,none⟩),.int .i64 n] W (NewL W L)
 rclob:∀W,Below w.heap.size w W->Calls Tryz.prog 24 #[.pointer (some ⟨T,0,none⟩),.int .i64 n] W (NewL W L)
structure qbp(base:Nat)(w:World)(C T:Nat)(d:MachD)(L M:RegL)(tb:TB)(rl:List RegT)(cl:List ClsT)(ol:List OpT)(t:TV):Prop where
 tab:TabIn base w C d L M tb rl cl ol
 ok:TabOk w T t d (nmsL L) (plsL L) (clsOf (nmsL L) d.classes)
 kls:∀k,k∈d.classes->(regsL (nmsL L) k.regs).contains (-1)=false
 opk:∀o,o∈d.ops->OpOk (nmsL L) (plsL L) d.classes o/\o.clob.length<=64/\(regsL (nmsL L) o.clob).contains (-1)=false
 few:d.ops.length<=64
section
variable {base:Nat} {w:World} {C T:Nat} {d:MachD} {L M:RegL} {tb:TB} {rl:List RegT} {cl:List ClsT} {ol:List OpT} {t:TV}
theorem qiv(h:qbp base w C T d L M tb rl cl ol t){j:Nat}{x:OpD}(hx:d.ops[j]?=some x):Ke w C T j (JQ (nmsL L) (plsL L) d.classes x) (regsL (nmsL L) x.clob) x.tie:=by
 have hm:=List.mem_of_getElem? hx
 have hj:=(List.getElem?_eq_some_iff.1 hx).1
 obtain⟨hok,hlen,hno⟩:=h.opk x hm
 obtain⟨y,hy⟩:∃y,ol[j]?=some y:=⟨ol[j]'(by rw[h.tab.ops.len];exact hj),List.getElem?_eq_getElem _⟩
 have hg:opAtN ol (j:Int)=y:=by unfold opAtN;rw[if_pos (by omega),List.getD_eq_getElem?_getD,Int.toNat_natCast,hy];rfl
 have hn0:=xi hno
 have hll:(regsL (nmsL L) x.clob).length<=64:=by unfold regsL;rw[List.length_map];exact hlen
 have hfew:=h.ok.few
 have hlp:=h.ok.len
 refine⟨fun W p r hb=>?_,fun W p r hb=>?_,fun W hb=>?_,fun W hb=>?_,fun W hb=>?_⟩
 ·have hT:=h.tab.below hb
  obtain⟨h1,_,_⟩:=hT.ops.each j y x hy hx
  have:=qfX C tb.oS (.map tb.oM) ol _ j p r W (hT.tab.cell (j:=12) rfl) (hT.tab.cell (j:=13) rfl) (zQ.of_row hT.ops.row) (by rw[hg];exact h1)
  rw[qfY (by omega) h.kls hno hok] at this
  exact this
 ·exact qgR T t d _ _ j x p r W (h.ok.below hb) hx hok
 ·have hT:=h.tab.below hb
  obtain⟨_,h2,_⟩:=hT.ops.each j y x hy hx
  have:=qeh C tb.oS (.map tb.oM) ol j W (hT.tab.cell (j:=12) rfl) (hT.tab.cell (j:=13) rfl) (zQ.of_row hT.ops.row) (by rw[h.tab.ops.len];exact hj)
  rw[hg,h2] at this
  exact this
 ·have hT:=h.tab.below hb
  obtain⟨_,_,h3⟩:=hT.ops.each j y x hy hx
  rw[hn0] at h3
  exact qda C tb.oS (.map tb.oM) ol _ j W (hT.tab.cell (j:=12) rfl) (hT.tab.cell (j:=13) rfl) (zQ.of_row hT.ops.row) (by rw[hg];exact h3) (by omega)
 ·have:=YP T t d (nmsL L) (plsL L) _ j x W (h.ok.below hb) hx
  rw[je hok.clob] at this
  exact this.mono fun e w' hp=>NewL.of hp
theorem qix(h:qbp base w C T d L M tb rl cl ol t){c:Int}(hc:c<0∨(d.ops.length:Int)<=c):Ke w C T c (fun _ _=>false) [] (-1):=by
 have hol:=h.tab.ops.len
 have hg:opAtN ol c=OpT.none:=by
  unfold opAtN
  by_cases h0:0<=c
  ·rw[if_pos h0,List.getD_eq_getElem?_getD,List.getElem?_eq_none (by omega)];rfl
  ·rw[if_neg h0]
 refine⟨fun W p r hb=>?_,fun W p r hb=>?_,fun W hb=>?_,fun W hb=>?_,fun W hb=>?_⟩
 ·have hT:=h.tab.below hb
  have:=qfX C tb.oS (.map tb.oM) ol [] c p r W (hT.tab.cell (j:=12) rfl) (hT.tab.cell (j:=13) rfl) (zQ.of_row hT.ops.row) (by rw[hg];exact⟨[],World.ownsRow_nil _ _ _ _,rfl,fun i x p hx=>by simp at hx⟩)
  have e:Qi [] p r=false:=by unfold Qi;simp
  rw[e] at this
  exact this
 ·exact qcD T t d _ _ _ c p r W (h.ok.below hb) hc
 ·have hT:=h.tab.below hb
  exact qcB C tb.oS ol c W (hT.tab.cell (j:=12) rfl) (zQ.of_row hT.ops.row) (by omega)
 ·have hT:=h.tab.below hb
  exact qda C tb.oS (.map tb.oM) ol [] c W (hT.tab.cell (j:=12) rfl) (hT.tab.cell (j:=13) rfl) (zQ.of_row hT.ops.row) (by rw[hg];exact IntsR.nil W) (by simp)
 ·exact(qbn T t d (nmsL L) (plsL L) _ c W (h.ok.below hb) hc).mono fun e w' hp=>NewL.of hp
theorem qfZ(os:List OpD)(s:ByteArray):regN (os.map (·.name)) s=idxP (fun x:OpD=>eqB x.name s) os:=by
 unfold regN idxP
 rw[List.findIdx?_map]
 rfl
theorem qiy(h:qbp base w C T d L M tb rl cl ol t){op:SlV}(hK:OpsAt w op d.ops){k:Nat}(hk:k<d.ops.length) :
 ∃ (q:Int->Int->Bool) (V:List Int) (tie:Int),Ke w C T k q V tie/\∃b o,op.a=some ⟨b,o,none⟩/\w.cell? ⟨b,o+k*6+4,none⟩=some (.int .i64 tie):=by
 obtain⟨x,hx⟩:∃x,d.ops[k]?=some x:=⟨d.ops[k],List.getElem?_eq_getElem hk⟩
 obtain⟨b,o,h1,u,kk,_,_,_,_,h2,_⟩:=hK.2.2 k x hx
 exact⟨_,_,_,qiv h hx,b,o,h1,h2⟩
theorem qiz(h:qbp base w C T d L M tb rl cl ol t){op:SlV}(hK:OpsAt w op d.ops)(n:Int) :
 ∃ (q:Int->Int->Bool) (V:List Int) (tie:Int),Ke w C T n q V tie/\V.length<=64/\((0<=n/\n<(d.ops.length:Int)/\∃ (b o:Nat),op.a=some ⟨b,o,none⟩/\w.cell? ⟨b,o+n.toNat*6+4,none⟩=some (.int .i64 tie))∨((n<0∨(d.ops.length:Int)<=n)/\tie = -1)):=by
 by_cases hin:0<=n/\n<(d.ops.length:Int)
 ·obtain⟨j,rfl⟩:∃j:Nat,n=j:=⟨n.toNat,by omega⟩
  obtain⟨x,hx⟩:∃x,d.ops[j]?=some x:=⟨d.ops[j]'(by omega),List.getElem?_eq_getElem _⟩
  obtain⟨b,o,h1,u,kk,_,_,_,_,h2,_⟩:=hK.2.2 j x hx
  exact⟨_,_,_,qiv h hx,by unfold regsL;rw[List.length_map];exact(h.opk x (List.mem_of_getElem? hx)).2.1,.inl ⟨hin.1,hin.2,b,o,h1,by rw[Int.toNat_natCast];exact h2⟩⟩
 ·exact⟨fun _ _=>false,[],-1,qix h (by omega),by simp,.inr ⟨by omega,rfl⟩⟩
theorem qiw(h:qbp base w C T d L M tb rl cl ol t)(nm:ByteArray)(hz:nm.size<=281474976710656) :
 ∃q:Int,(∀W,Below w.heap.size w W->Calls Tryz.prog 18 #[.pointer (some ⟨C,0,none⟩),.string nm] W fun e w'=>e = .returned (.tuple #[.int .i64 (max 0 q),.bool (decide (0<=q))])/\Below W.heap.size W w') /\
  ∀W,Below w.heap.size w W->Calls Tryz.prog 19 #[.pointer (some ⟨T,0,none⟩),.string nm] W fun e w'=>e = .returned (.int .i64 q)/\W=w':=by
 refine⟨idxP (fun x:OpD=>eqB x.name nm) d.ops,fun W hb=>?_,fun W hb=>?_⟩
 ·have hT:=h.tab.below hb
  have:=qhT C base tb (d.ops.map (·.name)) nm W hT.tab hT.ops.map hz
  unfold num0 ZN at this
  rw[qfZ] at this
  exact this
 ·have hO:=h.ok.below hb
  exact qcO T t d.ops nm W hO.tab hO.ops hO.obig
end
end Go.Proofs.YtkoloennfejaaaaGreatDoor
