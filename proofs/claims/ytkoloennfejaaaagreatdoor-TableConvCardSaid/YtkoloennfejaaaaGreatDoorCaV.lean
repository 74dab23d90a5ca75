/-
  TableConv returns true at every description, and leaves it as it was: the tied card of its row is proved ('tableConv_card').
  Conditions: those of the row alone: the listed package-level variables hold at the call what the program's text lays (the card ties that; of them the table of TrailingZeros64 is read, and errors' own variable of the type 'error', where registers can't be). The card is tied to the copy of the project that holds the packages on this road, and says nothing of others.
-/
import Derived.Test.YtkoloennfejaaaaGreatDoorHdP
import Derived.Test.YtkoloennfejaaaaGreatDoorTdCP
import Derived.Test.YtkoloennfejaaaaGreatDoorTgC
import Derived.Test.YtkoloennfejaaaaGreatDoorJV
import Derived.Test.YtkoloennfejaaaaGreatDoorCards
import Derived.Test.YtkoloennfejaaaaGreatDoorTie
import Derived.SevenTiedAt
import Derived.Carry
set_option maxRecDepth 100000
namespace Go.Proofs.YtkoloennfejaaaaGreatDoor
open Go.ChangeShapes Go.WideShapes Go.ChangeAt Go.RowKit
theorem qir(os:Os)(started:os.Started)(H:Type)(enc:TypeId×Value->H) :
 ReturnsInHanded {} Tryz.checked os 5 .any (fun w args=>(Rows.tableConvSpec.pre enc Tryz.prog Tryz.f5 [] false w args/\laidMetH Tryz.prog listed w)/\sizedMet enc Tryz.prog Tryz.f5 (OpenSpec.ofChange Rows.tableConvSpec) false w args)
  (Rows.tableConvSpec.post enc Tryz.prog Tryz.f5 false true false false):=by
 refine qii started (by kernel_rfl) Tryz.func5
  (ChangeSpec.witness_shaped (enc:=enc) (C:=Tryz.checked) (os:=os) (X:=fun w _=>laidMetH Tryz.prog listed w) false (qha os) #[.agg #[.string ByteArray.empty,.slice none 0 0,.slice none 0 0,.slice none 0 0,.slice none 0 0,.string ByteArray.empty,.slice none 0 0,.int .i64 0]] 8 rfl (World.shaped_of_RefB (by kernel_rfl) (by kernel_rfl)) (by kernel_rfl) (by kernel_rfl) (by kernel_rfl) (qhG os _)) ?_
 intro W base args ds gs before hval hW hz hsh hmet
 have hW':=hW
 obtain⟨p,q,hA0,hV,rfl,hfz,hnd⟩:=hW
 have hlt:=hA0.lt
 have hA:DataW.TrodAll enc Tryz.prog W 0 (fun _=>true) true Tryz.f5.params.toList args.toList ds p:=hA0
 rw[Tryz.params5] at hA hval hz
 obtain⟨v0,d0,rfl,rfl,h0⟩:=trodAll_one hA
 obtain⟨rfl,rfl⟩:=trodVars_none hV
 have hf:QP Tryz.prog 27 d0:=fun m hm=>by
  have h9:=List.all_eq_true.1 hz m (DataW.weights_mem_each (j:=0) rfl rfl m hm)
  have h10:m<=reachBytes:=by simpa using h9
  have h11:=reachBytes_lt
  omega
 obtain⟨mv,md,ml,rfl,hM⟩:=qhC (fun _=>rfl) (hval 0 27 v0 rfl rfl) h0 hf
 clear hA0 hval hz
 refine(qik (qga W hsh) (qgN hmet) hM fun V hb=>qih V ((qga W hsh).below hb) ((qgN hmet).below hb) fun j hj=>cell_below hb (qhb hmet j hj)).mono fun e W' ⟨he,hb⟩=>?_
 subst he
 exact⟨_,rfl,_,_,_,[],_,[],hW',trodAll_mk1 (shut_bool Tryz.underlying4 _),trodAll_mk1 (Below.trod qhW (by kernel_rfl) (of_decide_eq_true (by kernel_rfl)) h0 hb (fun x hx=>hlt x (by simp[hx]))),rfl,hb.frame _,fun h=>by cases h⟩
theorem tableConv_said:Rows.TableConvSaid:=
 OpenClaim.holds_of_wide 5 Tryz.f5 rfl rfl rfl rfl rfl rfl rfl ⟨rfl,rfl,rfl,rfl,rfl⟩ rfl rfl rfl rfl rfl (by kernel_rfl) Tryz.func5 tableConv_joined
  (of_decide_eq_true (by kernel_rfl)) (by unfold Func.isWrapper;first|(rw[if_pos (by decide +kernel)];kernel_rfl)|(rw[if_neg (by decide +kernel)];exact⟨rfl,rfl⟩))
  (fun os started H enc _=>qir os started H enc)
theorem tableConv_card:Rows.TableConvCardSaid:=
 Claim7.holds_tied_plain_at .later [] [.data, .data, .data, .data, .handle, .sentinel, .sentinel, .pinned] true (true, "28297f003a06de18a4529d37b57c7640bcf52e2a6082eda71b2ea64d4ae466d8") true
  tableConv_said (fun _ h=>by cases h) (by kernel_rfl) (fun _ h=>by cases h) tableConv_row_tie rfl ⟨rfl,rfl⟩ (by kernel_rfl) rfl
  (fun f fn hf hfn=>by
    obtain rfl : f = 5 := Option.some.inj ((show Tryz.prog.funcNamed "pigeonhole/pigeonholelaw7.TableConv" = some 5 by kernel_rfl).symm.trans hf) |>.symm
    obtain rfl:fn=Tryz.f5:=(Option.some.inj (Tryz.func5.symm.trans hfn)).symm
    exact⟨by kernel_rfl,fun j t ht=>by
     rw[Tryz.params5] at ht
     have hm:t ∈ [27,3]:=by have:=Array.mem_of_getElem? ht;simp at this ⊢;first|exact .inl this|exact this|omega|(rcases this with h|h|h <;> simp[h])|(rcases this with h|h|h|h <;> simp[h])
     have hall:([27,3].all fun u=>!Tryz.prog.wantsStandIn u)=true:=by kernel_rfl
     exact(show Tryz.prog.wantsStandIn t=false by simpa using List.all_eq_true.1 hall t hm)⟩)
  (by kernel_rfl)
end Go.Proofs.YtkoloennfejaaaaGreatDoor
