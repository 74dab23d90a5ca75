
import Derived.Test.YtomlgdnafeeeiaaGreatDoorHdP
import Derived.Test.YtomlgdnafeeeiaaGreatDoorTiE
import Derived.Test.YtomlgdnafeeeiaaGreatDoorJP
import Derived.Test.YtomlgdnafeeeiaaGreatDoorCards
import Derived.Test.YtomlgdnafeeeiaaGreatDoorTie
import Derived.Carry
set_option maxRecDepth 100000
/-
 TableKeeps returns true at every description,and leaves it as it was: the tied card of its row is proved ('tableKeeps_card').
 Conditions: those of the row alone: the zl package-level variables hold at the call what the program's text lays (the card ties that;of them the table of TrailingZeros64 is read,and errors' own variable of the type 'error',where registers can't be). The card is tied to the copy of the project that holds the packages on this road,and says nothing of others.
-/
namespace Go.Proofs.YtomlgdnafeeeiaaGreatDoor
open Go.ChangeShapes Go.WideShapes Go.ChangeAt Go.RowKit
theorem Yj(os:Os)(started:os.Started)(H:Type)(enc:TypeId×Value->H) :
 ReturnsInHanded {} Tryz.checked os 3 .any (fun w args=>(Rows.tableKeepsSpec.pre enc Tryz.prog Tryz.f3 [] false w args/\laidMetH Tryz.prog zl w)/\sizedMet enc Tryz.prog Tryz.f3 (OpenSpec.ofChange Rows.tableKeepsSpec) false w args)
  (Rows.tableKeepsSpec.post enc Tryz.prog Tryz.f3 false true false false):=by
 refine qlE started (by kernel_rfl) Tryz.func3
  (ChangeSpec.witness_shaped (enc:=enc) (C:=Tryz.checked) (os:=os) (X:=fun w _=>laidMetH Tryz.prog zl w) false (qjN os) #[.agg #[.string ByteArray.empty,.slice none 0 0,.slice none 0 0,.slice none 0 0,.slice none 0 0,.string ByteArray.empty,.slice none 0 0,.int .i64 0]] 8 rfl (World.shaped_of_RefB (by kernel_rfl) (by kernel_rfl)) (by kernel_rfl) (by kernel_rfl) (by kernel_rfl) (qia os _)) ?_
 intro W base args ds gs before hval hW hz hsh hmet
 have hW':=hW
 obtain⟨p,q,hA0,hV,rfl,hfz,hnd⟩:=hW
 have hlt:=hA0.lt
 have hA:DataW.TrodAll enc Tryz.prog W 0 (fun _=>true) true Tryz.f3.params.toList args.toList ds p:=hA0
 rw[Tryz.params3] at hA hval hz
 obtain⟨v0,d0,rfl,rfl,h0⟩:=trodAll_one hA
 obtain⟨rfl,rfl⟩:=trodVars_none hV
 have hf:Xt Tryz.prog 27 d0:=fun m hm=>by
  have h9:=vV.1 hz m (DataW.weights_mem_each (j:=0) rfl rfl m hm)
  have h10:m<=reachBytes:=by simpa using h9
  have h11:=reachBytes_lt
  omega
 obtain⟨mv,md,ml,rfl,hM⟩:=qhC (fun _=>rfl) (hval 0 27 v0 rfl rfl) h0 hf
 clear hA0 hval hz
 refine(qgg (Jn W hsh) (Yg hmet) hM (fun j hj=>YY hmet j hj) (fun V hb=>qlT (hM.below hb)) fun V hb=>qlD V ((Jn W hsh).below hb) ((Yg hmet).below hb) fun j hj=>qb hb (YY hmet j hj)).mono fun e W' ⟨he,hb⟩=>?_
 subst he
 exact⟨_,rfl,_,_,_,[],_,[],hW',trodAll_mk1 (shut_bool Tryz.underlying4 _),trodAll_mk1 (Below.trod qkQ (by kernel_rfl) (of_decide_eq_true (by kernel_rfl)) h0 hb (fun x hx=>hlt x (by simp[hx]))),rfl,hb.frame _,fun h=>by cases h⟩
theorem tableKeeps_said:Rows.TableKeepsSaid:=
 OpenClaim.holds_of_wide 3 Tryz.f3 rfl rfl rfl rfl rfl rfl rfl ⟨rfl,rfl,rfl,rfl,rfl⟩ rfl rfl rfl rfl rfl (by kernel_rfl) Tryz.func3 tableKeeps_joined
  (of_decide_eq_true (by kernel_rfl)) (by unfold Func.isWrapper;first|(rw[if_pos (by decide +kernel)];kernel_rfl)|(rw[if_neg (by decide +kernel)];exact⟨rfl,rfl⟩))
  (fun os started H enc _=>Yj os started H enc)
theorem tableKeeps_card:Rows.TableKeepsCardSaid:=
 Claim7.holds_tied_plain_at .later [] [.data, .data, .data, .data, .handle, .sentinel, .sentinel, .pinned] true (true, "21fa1860b4140fb3d67270eef5fecb48b90299a59b07ec40a353c96a93ebfe92") true
  tableKeeps_said (fun _ h=>by cases h) (by kernel_rfl) (fun _ h=>by cases h) tableKeeps_row_tie rfl ⟨rfl,rfl⟩ (by kernel_rfl) rfl
  (fun f fn hf hfn=>by
    obtain rfl : f = 3 := Option.some.inj ((show Tryz.prog.funcNamed "pigeonhole/pigeonholelaw7.TableKeeps" = some 3 by kernel_rfl).symm.trans hf) |>.symm
    obtain rfl:fn=Tryz.f3:=(Option.some.inj (Tryz.func3.symm.trans hfn)).symm
    exact⟨by kernel_rfl,fun j t ht=>by
     rw[Tryz.params3] at ht
     have hm:t ∈ [27,3]:=by have:=Array.mem_of_getElem? ht;simp at this ⊢;first|exact .inl this|exact this|omega|(rcases this with h|h|h <;> simp[h])|(rcases this with h|h|h|h <;> simp[h])
     have hall:([27,3].all fun u=>!Tryz.prog.wantsStandIn u)=true:=by kernel_rfl
     exact(show Tryz.prog.wantsStandIn t=false by simpa using vV.1 hall t hm)⟩)
  (by kernel_rfl)
end Go.Proofs.YtomlgdnafeeeiaaGreatDoor
