/-
  TableOps returns true at every description, any name and any three ints, and leaves them as they were: the tied card of its row is proved ('tableOps_card').
  Conditions: those of the row alone: the listed package-level variables hold at the call what the program's text lays (the card ties that; of them errors' own variable of the type 'error' is read, where registers can't be). The card is tied to the copy of the project that holds the packages on this road, and says nothing of others.
-/
import Derived.Test.YtkoloennfejaaaaGreatDoorHdP
import Derived.Test.YtkoloennfejaaaaGreatDoorThD
import Derived.Test.YtkoloennfejaaaaGreatDoorJO
import Derived.Test.YtkoloennfejaaaaGreatDoorCards
import Derived.Test.YtkoloennfejaaaaGreatDoorTie
import Derived.SevenTiedAt
import Derived.Carry
import Derived.ChangeMaps5
set_option maxRecDepth 100000
namespace Go.Proofs.YtkoloennfejaaaaGreatDoor
open Go.ChangeShapes Go.WideShapes Go.ChangeAt Go.RowKit
section
variable {H:Type} {enc:TypeId×Value->H} {P:Program} {w:World} {base:Nat} {spare:Nat->Bool} {held:Bool}
theorem qit{t t1 t2 t3 t4:TypeId}{args:Array Value}{ds:List (DataW H)}{ps:List MemPlace}(h:DataW.TrodAll enc P w base spare held [t,t1,t2,t3,t4] args.toList ds ps) :
 ∃v v1 v2 v3 v4 d d1 d2 d3 d4 p p1 p2 p3 p4,args=#[v,v1,v2,v3,v4]/\ds = [d,d1,d2,d3,d4]/\ps=p++p1++p2++p3++p4/\DataW.Trod enc P w base spare held t v d p/\DataW.Trod enc P w base spare held t1 v1 d1 p1/\DataW.Trod enc P w base spare held t2 v2 d2 p2/\DataW.Trod enc P w base spare held t3 v3 d3 p3/\DataW.Trod enc P w base spare held t4 v4 d4 p4:=by
 obtain⟨v,vs,d,ds1,p,q,hargs,rfl,rfl,hd,hrest⟩:=trodAll_cons h
 obtain⟨v1,vs1,d1,ds2,p1,q1,rfl,rfl,rfl,hd1,hrest1⟩:=trodAll_cons hrest
 obtain⟨v2,vs2,d2,ds3,p2,q2,rfl,rfl,rfl,hd2,hrest2⟩:=trodAll_cons hrest1
 obtain⟨v3,vs3,d3,ds4,p3,q3,rfl,rfl,rfl,hd3,hrest3⟩:=trodAll_cons hrest2
 obtain⟨v4,vs4,d4,ds5,p4,q4,rfl,rfl,rfl,hd4,hrest4⟩:=trodAll_cons hrest3
 obtain⟨rfl,rfl,rfl⟩:=trodAll_nil hrest4
 exact⟨v,v1,v2,v3,v4,d,d1,d2,d3,d4,p,p1,p2,p3,p4,by cases args;simp_all,rfl,by simp,hd,hd1,hd2,hd3,hd4⟩
theorem qiu{t t1 t2 t3 t4:TypeId}{v v1 v2 v3 v4:Value}{d d1 d2 d3 d4:DataW H}{p p1 p2 p3 p4:List MemPlace}(h:DataW.Trod enc P w base spare held t v d p)(h1:DataW.Trod enc P w base spare held t1 v1 d1 p1)
 (h2:DataW.Trod enc P w base spare held t2 v2 d2 p2) (h3:DataW.Trod enc P w base spare held t3 v3 d3 p3) (h4:DataW.Trod enc P w base spare held t4 v4 d4 p4):DataW.TrodAll enc P w base spare held [t,t1,t2,t3,t4] [v,v1,v2,v3,v4] [d,d1,d2,d3,d4] (p++(p1++(p2++(p3++p4)))):=⟨p,p1++(p2++(p3++p4)),h,trodAll_mk4 h1 h2 h3 h4,rfl⟩
end
theorem qis(os:Os)(started:os.Started)(H:Type)(enc:TypeId×Value->H) :
 ReturnsInHanded {} Tryz.checked os 4 .any (fun w args=>(Rows.tableOpsSpec.pre enc Tryz.prog Tryz.f4 [] false w args/\laidMetH Tryz.prog listed w)/\sizedMet enc Tryz.prog Tryz.f4 (OpenSpec.ofChange Rows.tableOpsSpec) false w args)
  (Rows.tableOpsSpec.post enc Tryz.prog Tryz.f4 false true false false):=by
 refine qii started (by kernel_rfl) Tryz.func4
  (ChangeSpec.witness_shaped (enc:=enc) (C:=Tryz.checked) (os:=os) (X:=fun w _=>laidMetH Tryz.prog listed w) false (qha os) #[.agg #[.string ByteArray.empty,.slice none 0 0,.slice none 0 0,.slice none 0 0,.slice none 0 0,.string ByteArray.empty,.slice none 0 0,.int .i64 0],.string ByteArray.empty,.int .i64 0,.int .i64 0,.int .i64 0] 8 rfl (World.shaped_of_RefB (by kernel_rfl) (by kernel_rfl)) (by kernel_rfl) (by kernel_rfl) (by kernel_rfl) (qhG os _)) ?_
 intro W base args ds gs before hval hW hz hsh hmet
 have hW':=hW
 obtain⟨p,q,hA0,hV,rfl,hfz,hnd⟩:=hW
 have hlt:=hA0.lt
 have hA:DataW.TrodAll enc Tryz.prog W 0 (fun _=>true) true Tryz.f4.params.toList args.toList ds p:=hA0
 rw[Tryz.params4] at hA hval hz
 obtain⟨v0,v1,v2,v3,v4,d0,d1,d2,d3,d4,p0,p1,p2,p3,p4,rfl,rfl,rfl,h0,h1,h2,h3,h4⟩:=qit hA
 obtain⟨rfl,rfl⟩:=trodVars_none hV
 have hf:QP Tryz.prog 27 d0:=fun m hm=>by
  have h9:=List.all_eq_true.1 hz m (DataW.weights_mem_each (j:=0) rfl rfl m hm)
  have h10:m<=reachBytes:=by simpa using h9
  have h11:=reachBytes_lt
  omega
 obtain⟨mv,md,ml,rfl,hM⟩:=qhC (fun _=>rfl) (hval 0 27 v0 rfl rfl) h0 hf
 obtain⟨nm,rfl,rfl,rfl,wn⟩:=Go.ChangeMaps.open_string Tryz.underlying9 (hval 1 9 v1 rfl rfl) h1
 obtain⟨m,rfl,rfl,rfl,wm⟩:=open_int Tryz.underlying3 (hval 2 3 v2 rfl rfl) h2
 obtain⟨k,rfl,rfl,rfl,wk⟩:=open_int Tryz.underlying3 (hval 3 3 v3 rfl rfl) h3
 obtain⟨i4,rfl,rfl,rfl,w4⟩:=open_int Tryz.underlying3 (hval 4 3 v4 rfl rfl) h4
 clear hA0 hval hz
 refine(qin (qga W hsh) (qgN hmet) hM nm m k i4 fun V hb=>qih V ((qga W hsh).below hb) ((qgN hmet).below hb) fun j hj=>cell_below hb (qhb hmet j hj)).mono fun e W' ⟨he,hb⟩=>?_
 subst he
 exact⟨_,rfl,_,_,_,[],_,[],hW',trodAll_mk1 (shut_bool Tryz.underlying4 _),qiu (Below.trod qhW (by kernel_rfl) (of_decide_eq_true (by kernel_rfl)) h0 hb (fun x hx=>hlt x (by simp[hx]))) (Go.ChangeMaps.shut_string Tryz.underlying9 wn) (shut_int Tryz.underlying3 wm) (shut_int Tryz.underlying3 wk) (shut_int Tryz.underlying3 w4),rfl,hb.frame _,fun h=>by cases h⟩
theorem tableOps_said:Rows.TableOpsSaid:=
 OpenClaim.holds_of_wide 4 Tryz.f4 rfl rfl rfl rfl rfl rfl rfl ⟨rfl,rfl,rfl,rfl,rfl⟩ rfl rfl rfl rfl rfl (by kernel_rfl) Tryz.func4 tableOps_joined
  (of_decide_eq_true (by kernel_rfl)) (by unfold Func.isWrapper;first|(rw[if_pos (by decide +kernel)];kernel_rfl)|(rw[if_neg (by decide +kernel)];exact⟨rfl,rfl⟩))
  (fun os started H enc _=>qis os started H enc)
theorem tableOps_card:Rows.TableOpsCardSaid:=
 Claim7.holds_tied_plain_at .later [] [.data, .data, .data, .data, .handle, .sentinel, .sentinel, .pinned] true (true, "28297f003a06de18a4529d37b57c7640bcf52e2a6082eda71b2ea64d4ae466d8") true
  tableOps_said (fun _ h=>by cases h) (by kernel_rfl) (fun _ h=>by cases h) tableOps_row_tie rfl ⟨rfl,rfl⟩ (by kernel_rfl) rfl
  (fun f fn hf hfn=>by
    obtain rfl : f = 4 := Option.some.inj ((show Tryz.prog.funcNamed "pigeonhole/pigeonholelaw7.TableOps" = some 4 by kernel_rfl).symm.trans hf) |>.symm
    obtain rfl:fn=Tryz.f4:=(Option.some.inj (Tryz.func4.symm.trans hfn)).symm
    exact⟨by kernel_rfl,fun j t ht=>by
     rw[Tryz.params4] at ht
     have hm:t ∈ [27,3,9]:=by have:=Array.mem_of_getElem? ht;simp at this ⊢;first|exact .inl this|exact this|omega|(rcases this with h|h|h <;> simp[h])|(rcases this with h|h|h|h <;> simp[h])
     have hall:([27,3,9].all fun u=>!Tryz.prog.wantsStandIn u)=true:=by kernel_rfl
     exact(show Tryz.prog.wantsStandIn t=false by simpa using List.all_eq_true.1 hall t hm)⟩)
  (by kernel_rfl)
end Go.Proofs.YtkoloennfejaaaaGreatDoor
