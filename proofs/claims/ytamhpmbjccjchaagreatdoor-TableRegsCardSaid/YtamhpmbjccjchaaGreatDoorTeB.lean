/-
  law7's regs: what a table tells of registers is as the reference tells it.
-/
import Derived.Test.YtamhpmbjccjchaaGreatDoorTcYP
import Derived.Test.YtamhpmbjccjchaaGreatDoorTdCP
import Derived.Test.YtamhpmbjccjchaaGreatDoorTeA
import Derived.Deep.CutRange
namespace Go.Proofs.YtamhpmbjccjchaaGreatDoor
open Go.RowKit
structure RegFact(w:World)(C T:Nat)(i:Int)(nm:ByteArray)(p0 p1 p2 kk:Int)(ok sv:Bool):Prop where
 reg:∀W,Below w.heap.size w W->Calls Tryz.prog 23 #[.pointer (some ⟨C,0,none⟩),.string nm] W fun e w'=>e = .returned (.tuple #[.int .i64 kk,.bool ok])/\Below W.heap.size W w'
 name:∀W,Below w.heap.size w W->Calls Tryz.prog 24 #[.pointer (some ⟨C,0,none⟩),.int .i64 i] W fun e w'=>e = .returned (.string nm)/\Below W.heap.size W w'
 place:∀W,Below w.heap.size w W->Calls Tryz.prog 25 #[.pointer (some ⟨C,0,none⟩),.int .i64 i] W fun e w'=>e = .returned (.agg #[.int .i64 p0,.int .i64 p1,.int .i64 p2])/\Below W.heap.size W w'
 surv:∀W,Below w.heap.size w W->Calls Tryz.prog 26 #[.pointer (some ⟨C,0,none⟩),.int .i64 i] W fun e w'=>e = .returned (.bool sv)/\Below W.heap.size W w'
 rsurv:∀W,Below w.heap.size w W->Calls Tryz.prog 27 #[.pointer (some ⟨T,0,none⟩),.int .i64 i] W fun e w'=>e = .returned (.bool sv)/\Below W.heap.size W w'
theorem qhI{s:ByteArray}(h:s≠⟨#[]⟩):¬ s.toList = []:=fun e=>h (by
 rw[ByteArray.toList_eq] at e
 cases s with
 |mk d=>
  have h2:d=#[]:=Array.ext' (by simpa using e)
  rw[h2])
theorem qgG{ns:List ByteArray}{s:ByteArray}(h:s∉ns):regN ns s = -1:=by
 rcases idxP_cases (fun x=>eqB x s) ns with⟨h1,_⟩|⟨k,hk,_,h2⟩
 ·exact h1
 ·exfalso
  apply h
  have:ns[k]=s:=by unfold eqB at h2;exact of_decide_eq_true h2
  rw[←this];exact List.getElem_mem hk
structure qfM(base:Nat)(w:World)(C T:Nat)(d:MachD)(L M:RegL)(tb:TB)(rl:List RegT)(cl:List ClsT)(ol:List OpT)(t:TV):Prop where
 tab:TabIn base w C d L M tb rl cl ol
 ok:TabOk w T t d (nmsL L) (plsL L) (clsOf (nmsL L) d.classes)
 nodup:(nmsL L).Nodup
 size:∀s,s∈nmsL L->s.size<=20
 full:∀s,s∈nmsL L->s≠⟨#[]⟩
 saved:∀x,x∈d.saved->0<=regN (nmsL L) x
 roots:tb.m.regs.n=t.m.regs.n
 bits:Go.Proofs.TabAt 0 Lib.deBruijn64tab w
section
variable {base:Nat} {w:World} {C T:Nat} {d:MachD} {L M:RegL} {tb:TB} {rl:List RegT} {cl:List ClsT} {ol:List OpT} {t:TV}
theorem qcL(h:qfM base w C T d L M tb rl cl ol t)(i:Int)(nm:ByteArray)(kk:Int)(ok:Bool)(hk:num0 (nmsL L) nm=kk)(ho:JG (nmsL L) nm=ok)(hn:nm.size<=20)(he:(regAtN rl i).name=nm) :
 RegFact w C T i nm (regAtN rl i).root (regAtN rl i).at_ (regAtN rl i).width kk ok (Yg (nmsL L) (plsL L) d.saved i) where
 reg:=fun W hb=>by
  have:=qcf C base tb (nmsL L) nm W (h.tab.below hb).tab (h.tab.below hb).regs.map (by omega)
  rw[hk,ho] at this;exact this
 name:=fun W hb=>by
  have hT:=h.tab.below hb
  have:=qgx C tb.rS (.map tb.rM) rl i W (hT.tab.cell (j:=8) rfl) (hT.tab.cell (j:=9) rfl) (qU.of_row hT.regs.row)
  rw[he] at this;exact this
 place:=fun W hb=>by
  have hT:=h.tab.below hb
  exact XZ C tb.rS (.map tb.rM) rl i W (hT.tab.cell (j:=8) rfl) (hT.tab.cell (j:=9) rfl) (qU.of_row hT.regs.row)
 surv:=fun W hb=>by
  have hT:=h.tab.below hb
  exact qaT C tb.surv _ i W (hT.tab.cell (j:=17) rfl) hT.surv
 rsurv:=fun W hb=>qaZ T t d (nmsL L) (plsL L) _ i W (h.ok.below hb) h.saved
theorem qgH(h:qfM base w C T d L M tb rl cl ol t){j:Nat}(hj:j<(nmsL L).length) :
 ∃nm p0 p1 p2 sv,(nmsL L)[j]?=some nm/\(plsL L)[j]?=some (p0,p1,p2)/\RegFact w C T j nm p0 p1 p2 j true sv:=by
 have hlen:rl.length=(nmsL L).length:=by rw[←h.tab.regs.names,List.length_map]
 obtain⟨x,hx⟩:∃x,rl[j]?=some x:=⟨rl[j],List.getElem?_eq_getElem (by omega)⟩
 have hnm:(nmsL L)[j]?=some x.name:=by rw[←h.tab.regs.names,List.getElem?_map,hx];rfl
 have hpl:(plsL L)[j]?=some x.plc:=by rw[←h.tab.regs.places,List.getElem?_map,hx];rfl
 have hg:regAtN rl (j:Int)=x:=by unfold regAtN;rw[if_pos (by omega),List.getD_eq_getElem?_getD,Int.toNat_natCast,hx];rfl
 have hrn:regN (nmsL L) x.name=j:=by
  obtain⟨i,h1,h2⟩:=qcB (List.mem_of_getElem? hnm)
  rw[h1,(List.getElem?_inj (List.getElem?_eq_some_iff.1 h2).1 h.nodup).1 (h2.trans hnm.symm)]
 have:=qcL h j x.name j true (by unfold num0;rw[hrn];omega) (by unfold JG;rw[hrn];exact decide_eq_true (by omega)) (h.size _ (List.mem_of_getElem? hnm)) (by rw[hg])
 rw[hg] at this
 exact⟨x.name,x.root,x.at_,x.width,_,hnm,hpl,this⟩
theorem qfN(h:qfM base w C T d L M tb rl cl ol t){i:Int}(hi:i<0∨((nmsL L).length:Int)<=i):∃sv,RegFact w C T i ⟨#[]⟩ 0 0 0 0 false sv:=by
 have hlen:rl.length=(nmsL L).length:=by rw[←h.tab.regs.names,List.length_map]
 have hg:regAtN rl i=RegT.none:=by
  unfold regAtN
  by_cases h0:0<=i
  ·rw[if_pos h0,List.getD_eq_getElem?_getD,List.getElem?_eq_none (by omega)];rfl
  ·rw[if_neg h0]
 have hrn:regN (nmsL L) ⟨#[]⟩ = -1:=qgG fun hm=>h.full _ hm rfl
 have:=qcL h i ⟨#[]⟩ 0 false (by unfold num0;rw[hrn];omega) (by unfold JG;rw[hrn];exact decide_eq_false (by omega)) (by decide) (by rw[hg];rfl)
 rw[hg] at this
 exact⟨_,this⟩
end
def lapF(ps:List Plc)(a:Int)(k:Nat):List Int:=((List.range k).filter fun q:Nat=>lapA ps a q).map fun q:Nat=>(q:Int)
theorem qhq(ps:List Plc)(a:Int):lapF ps a 0 = []:=rfl
theorem qfO{ps:List Plc}{a:Int}{k:Nat}(h:lapA ps a k=true):lapF ps a (k+1)=lapF ps a k++[(k:Int)]:=by
 unfold lapF
 rw[List.range_succ,List.filter_append,List.map_append]
 congr 1
 simp[h]
theorem qgI{ps:List Plc}{a:Int}{k:Nat}(h:lapA ps a k=false):lapF ps a (k+1)=lapF ps a k:=by
 unfold lapF
 rw[List.range_succ,List.filter_append,List.map_append]
 simp[h]
theorem qgJ(ps:List Plc)(a:Int)(k:Nat):(lapF ps a k).length<=k:=by
 unfold lapF
 rw[List.length_map]
 exact Nat.le_trans (List.length_filter_le _ _) (by simp)
theorem qfP{ps:List Plc}(h:ps.length<=200)(a:Int):yH (fun n:Nat=>lapA ps a n)=lapF ps a ps.length:=by
 have e:(List.range 65536).filter (fun n:Nat=>lapA ps a n)=(List.range ps.length).filter fun n:Nat=>lapA ps a n:=by
  obtain⟨m,hm⟩:∃m,65536=ps.length+m:=⟨65536-ps.length,by omega⟩
  rw[hm,List.range_add,List.filter_append]
  have:((List.range m).map (ps.length+·)).filter (fun n:Nat=>lapA ps a n) = []:=by
   rw[List.filter_eq_nil_iff]
   intro n hn
   obtain⟨i,_,rfl⟩:=List.mem_map.1 hn
   unfold lapA
   rw[decide_eq_false (p:=((ps.length+i:Nat):Int)<(ps.length:Int)) (by omega)]
   simp
  rw[this,List.append_nil]
 unfold yH lapF qcF
 rw[e]
def jP(base:Nat)(W:World)(a:Option Addr)(n:Nat):Prop:=n=0∨∃ (g:Nat) (cs:Array Value),a=some ⟨g,0,none⟩/\base<=g/\Cells W g 3 cs/\n<=cs.size
theorem jP.of{base n:Nat}{W:World}{a:Option Addr}{c:Nat}{l:List Value}(h:W.ownsRow base 3 1 (.slice a n c) l.length l):jP base W a n:=by
 rcases h.2 with⟨h1,_⟩|⟨g,cap,cur,h1,h2,h3,h4,h5,h6,_⟩
 ·injection h1 with e1 e2 e3
  exact .inl e2
 ·injection h1 with e1 e2 e3
  exact .inr ⟨g,cur,e1,h2,h3,by omega⟩
end Go.Proofs.YtamhpmbjccjchaaGreatDoor
