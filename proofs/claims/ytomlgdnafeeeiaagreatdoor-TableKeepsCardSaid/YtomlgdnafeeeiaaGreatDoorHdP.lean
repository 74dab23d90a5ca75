
import Derived.Test.YtomlgdnafeeeiaaGreatDoorRows
import Derived.ProofKit
import Derived.LaidMore
import Derived.LaidLaws
import Derived.LaidHandle
import Derived.Handed
import Derived.Stop.Joined
import Derived.Shelf.Vars
import Derived.Test.YtomlgdnafeeeiaaGreatDoorPan
import Derived.Test.YtomlgdnafeeeiaaGreatDoorBiP
import Derived.Shelf.Spec.TrailingZeros
import Derived.LaidSub
import Derived.OpenShut
set_option maxRecDepth 100000
/-
 A qjN that meets the rows' list;what the list gives a walk.
-/
namespace Go.Proofs.YtomlgdnafeeeiaaGreatDoor
open Go.ChangeShapes Go.WideShapes Go.ChangeAt Go.RowKit
theorem own:ownKnob Tryz.prog.godebug=none:=by kernel_rfl
theorem qkQ:laidOutB Tryz.prog=true:=by kernel_rfl
theorem Jn(W:World)(h:W.ShapedOpen Tryz.prog):Env W:=
 cell_of_shapedOpen_int (zero:=#[.int .i64 0]) (t:=3) h (of_decide_eq_true (by kernel_rfl)) (by kernel_rfl) rfl (by kernel_rfl) (by kernel_rfl) Tryz.underlying3
def qeI(d:DataW Unit):Array Value:=
 match d with
 | .agg parts=>(parts.map fun
    | .lit (.int k n)=>Value.int k n
    | _=>Value.bool false).toArray
 | _=>#[]
noncomputable def qjN(os:Os):World:=
 let w0:=World.doorLaid Tryz.prog 79 os
 { w0 with heap:=w0.heap.modify 3 fun
  | .cells _ t frozen=>.cells (qeI Rows.laid_unicode_utf8_first) t frozen
  | o=>o }
def zl:List (String×DataW Unit):=Rows.tableKeepsRow.laid
theorem qia(os:Os)(args:Array Value):laidMetH Tryz.prog zl ((qjN os).forCall (fun _ _=>0) ⟨#[],args,[]⟩).memory:=
 laidMetH_of_parts (laidMet_of_run' 8 (by kernel_rfl) (by kernel_rfl)) (by kernel_rfl)
theorem qeJ(w w':World)(h:w.heap=w'.heap)(hl:laidMetH Tryz.prog zl w):laidMetH Tryz.prog zl w':=hl.of_heap h
theorem qlE{H:Type}{enc:TypeId×Value->H}{os:Os}{f:FuncId}{fn:Func}{s:ChangeSpec}(started:os.Started)(noInit:Tryz.prog.inits.idxOf? f=none)(hfn:Tryz.prog.funcs[f]?=some fn)
 (witness:∃ (w:World) (tape:Tape) (i:Input),w.os=os/\(w.forCall tape i).Shaped Tryz.checked.prog/\i.vars = []/\Input.okWide Tryz.checked.prog (w.forCall tape i) .any w.heap.size f i /\
   ((s.pre enc Tryz.checked.prog fn [] false (w.forCall tape i).memory i.args/\laidMetH Tryz.prog zl (w.forCall tape i).memory)/\sizedMet enc Tryz.checked.prog fn (OpenSpec.ofChange s) false (w.forCall tape i).memory i.args) /\
   ({} : Assume).holds Tryz.checked.prog (lone (Frame.enter Tryz.checked.prog f i.args .normal) [] (w.forCall tape i)))
 (walk:∀ (W:World) (base:Nat) (args:Array Value) (ds gs:List (DataW H)) (before:List MemPlace),
   (∀ (j:Nat) t v,fn.params[j]?=some t->args[j]?=some v->Value.okWide Tryz.prog W .any base t v) ->
   DataW.Whole enc Tryz.prog fn.params.toList s.vars false W args.toList ds gs before->(DataW.weightsEach Tryz.prog (fn.params.toList++s.plain.varTypes Tryz.prog) (ds++gs)).all (· <= reachBytes)=true->W.ShapedOpen Tryz.prog->laidMetH Tryz.prog zl W ->
   Calls Tryz.prog f args W fun e W'=>∃v,e = .returned v/\s.post enc Tryz.prog fn false true false false W args v W') :
 ReturnsInHanded {} Tryz.checked os f .any (fun w args=>(s.pre enc Tryz.prog fn [] false w args/\laidMetH Tryz.prog zl w)/\sizedMet enc Tryz.prog fn (OpenSpec.ofChange s) false w args) (s.post enc Tryz.prog fn false true false false):=by
 refine returnsInHanded_of_calls (C:=Tryz.checked) own started noInit witness fun w tape i _ hsh _ hok hpre _=>?_
 obtain⟨_,_,_,fn',hfn',_,_,_,_,hval⟩:=hok
 obtain rfl:fn'=fn:=Option.some.inj (hfn'.symm.trans hfn)
 obtain⟨⟨⟨ds,gs,before,hw,_⟩,hl⟩,hz⟩:=hpre
 have hl':laidMetH Tryz.prog zl (w.forCall tape i):=qeJ (w.forCall tape i).memory _ (by rfl) hl
 have hw':=DataW.Whole.of_heap (w':=w.forCall tape i) (by rfl) hw
 refine(walk (w.forCall tape i) w.heap.size i.args ds gs before hval hw' (hz.weights hw) hsh hl').mono fun e W' ⟨v,he,hp⟩=>?_
 subst he
 exact ChangeSpec.post_blind hp
theorem qda : Tryz.prog.globalNamed "errors.errorType" = some 1 := by kernel_rfl
theorem qjO : (Tryz.prog.cutTypes.find? (·.1 == "internal/reflectlite.rtype")).map (·.2) = some 233 := by kernel_rfl
theorem qeK:((List.range Tryz.prog.types.size).filter fun t=>Tryz.prog.rowNamed t [101,114,114,111,114]) = [165]:=by kernel_rfl
theorem Yg{W:World}(h:laidMetH Tryz.prog zl W):Zi W:=by
 have h':=(laidMetH_iff).1 h
 obtain ⟨name, u, ty, e1, e2, e3, e4, e5⟩ := h'.2 ("errors.errorType", Rows.laid_errors_errorType) (List.mem_filter.2 ⟨by simp [zl, Rows.tableKeepsRow], rfl⟩)
 have en:name = [101,114,114,111,114]:=(Option.some.inj e1).symm
 subst en
 obtain rfl:=Option.some.inj (qjO.symm.trans e2)
 have hm:ty∈(List.range Tryz.prog.types.size).filter fun t=>Tryz.prog.rowNamed t [101,114,114,111,114]:=List.mem_filter.2 ⟨List.mem_range.2 e3,e4⟩
 rw[qeK] at hm
 obtain rfl:=List.mem_singleton.1 hm
 have hh:typeHandle Tryz.prog 165 = .pointer (some ⟨9,165,none⟩):=by kernel_rfl
 rw[hh] at e5
 simpa[Zi] using World.var?_cell qda e5 0
theorem qeL{P:Program}{w:World} : ∀ {l:List (String×DataW Unit)} {ps:List MemPlace},DataW.LaidVars P w l ps->∀ {n:String} {d:DataW Unit},(n,d)∈l ->
 ∃g t cs fuel p,P.globalNamed n=some g/\(P.globals[g]?).map (·.type)=some t/\w.var? P n=some cs/\DataW.trod (fun _=>()) P w 0 (fun _=>true) false fuel t cs.toList=some (d,p)
 | [],_,_,_,_,hm=>by cases hm
 |(m,e)::r,ps,h,n,d,hm=>by
  obtain⟨g,t,cs,fuel,p,q,h1,h2,h3,h4,h5,_⟩:=h
  rcases List.mem_cons.1 hm with hm|hm
  ·cases hm
   exact⟨g,t,cs,fuel,p,h1,h2,h3,h4⟩
  ·exact qeL h5 hm
theorem qbf : Tryz.prog.globalNamed "math/bits.deBruijn64tab" = some 0 := by kernel_rfl
theorem qjP:((Tryz.prog.globals[0]?).map (·.type)).bind Tryz.prog.underlying=some (.array 64 5):=by kernel_rfl
theorem qge:Tryz.prog.cellsOf 5=1:=by kernel_rfl
theorem qjQ:(Rows.laid_math_bits_deBruijn64tab:DataW Unit) = .agg (Lib.deBruijn64tab.map fun k:Nat=>.lit (.int .u8 (k:Int))):=rfl
theorem YY{W:World}(h:laidMetH Tryz.prog zl W):Go.Proofs.TabAt 0 Lib.deBruijn64tab W:=by
 obtain⟨ps,hL,_,_⟩:=((laidMetH_iff).1 h).1
 obtain ⟨g, t, cs, fuel, p, hg, ht, hv, htr⟩ := qeL hL (n := "math/bits.deBruijn64tab") (d := Rows.laid_math_bits_deBruijn64tab) (List.mem_filter.2 ⟨by unfold zl Rows.tableKeepsRow; exact .tail _ (.head _), rfl⟩)
 obtain rfl:=Option.some.inj (qbf.symm.trans hg)
 have hu:=qjP
 rw[ht] at hu
 have hu2:Tryz.prog.underlying t=some (.array 64 5):=hu
 obtain⟨xs,n,rfl,hd,hl,hlen,hall⟩:=DataW.trod_array hu2 htr
 intro j hj
 rw[World.var?_cell qbf hv j]
 have hj64:j<64:=hj
 have hx:=hall j hj64
 rw[qge,Nat.mul_one] at hx
 obtain⟨x,hxj⟩:∃x,xs[j]?=some x:=⟨xs[j]'(by omega),vE _⟩
 rw[hxj] at hx
 obtain⟨m,hm1,hm2,_⟩:=DataW.trod_int Tryz.underlying5 hx
 have hd1:Rows.laid_math_bits_deBruijn64tab = .agg (xs.map (·.1)):=congrArg Prod.fst hd
 rw[qjQ] at hd1
 have hd2:Lib.deBruijn64tab.map (fun k:Nat=>(DataW.lit (.int .u8 (k:Int)):DataW Unit))=xs.map (·.1):=DataW.agg.inj hd1
 have hd3:=congrArg (fun l=>l[j]?) hd2
 rw[vY,vY,hxj,vE hj] at hd3
 have hd4:(DataW.lit (.int .u8 ((Lib.deBruijn64tab[j]:Nat):Int)):DataW Unit)=x.1:=Option.some.inj hd3
 rw[hm2] at hd4
 have hd5:((Lib.deBruijn64tab[j]:Nat):Int)=m:=by injection hd4 with e;injection e
 have hc:=xS hm1
 rw[Array.getElem?_toList] at hc
 rw[hc,vG,vE hj,←hd5]
 rfl
end Go.Proofs.YtomlgdnafeeeiaaGreatDoor
