/-
  TableRegs returns true at every description, and leaves it as it was: the tied card of its row is proved ('tableRegs_card').
  Conditions: those of the row alone: the listed package-level variables hold at the call what the program's text lays (the card ties that; of them the table of TrailingZeros64 is read, and errors' own variable of the type 'error', where registers can't be). The card is tied to the copy of the project that holds the packages on this road, and says nothing of others.
-/
import Derived.Test.YtamhpmbjccjchaaGreatDoorHdP
import Derived.Test.YtamhpmbjccjchaaGreatDoorTdCP
import Derived.Test.YtamhpmbjccjchaaGreatDoorTeC
import Derived.Test.YtamhpmbjccjchaaGreatDoorCards
import Derived.Test.YtamhpmbjccjchaaGreatDoorTie
import Derived.SevenTiedAt
import Derived.Carry
set_option maxRecDepth 100000
namespace Go.Proofs.YtamhpmbjccjchaaGreatDoor
open Go.ChangeShapes Go.WideShapes Go.ChangeAt Go.RowKit
theorem ZM(os:Os)(started:os.Started)(H:Type)(enc:TypeId×Value->H) :
 ReturnsInHanded {} Tryz.checked os 3 .any (fun w args=>(Rows.tableRegsSpec.pre enc Tryz.prog Tryz.f3 [] false w args/\laidMetH Tryz.prog listed w)/\sizedMet enc Tryz.prog Tryz.f3 (OpenSpec.ofChange Rows.tableRegsSpec) false w args)
  (Rows.tableRegsSpec.post enc Tryz.prog Tryz.f3 false true false false):=by
 refine qhp started (by kernel_rfl) Tryz.func3
  (ChangeSpec.witness_shaped (enc:=enc) (C:=Tryz.checked) (os:=os) (X:=fun w _=>laidMetH Tryz.prog listed w) false (qfG os) #[.agg #[.string ByteArray.empty,.slice none 0 0,.slice none 0 0,.slice none 0 0,.slice none 0 0,.string ByteArray.empty,.slice none 0 0,.int .i64 0]] 8 rfl (World.shaped_of_RefB (by kernel_rfl) (by kernel_rfl)) (by kernel_rfl) (by kernel_rfl) (by kernel_rfl) (qdT os _)) ?_
 intro W base args ds gs before hval hW hz hsh hmet
 have hW':=hW
 obtain⟨p,q,hA0,hV,rfl,hfz,hnd⟩:=hW
 have hlt:=hA0.lt
 have hA:DataW.TrodAll enc Tryz.prog W 0 (fun _=>true) true Tryz.f3.params.toList args.toList ds p:=hA0
 rw[Tryz.params3] at hA hval hz
 obtain⟨v0,d0,rfl,rfl,h0⟩:=trodAll_one hA
 obtain⟨rfl,rfl⟩:=trodVars_none hV
 have hf:yT Tryz.prog 27 d0:=fun m hm=>by
  have h9:=List.all_eq_true.1 hz m (DataW.weights_mem_each (j:=0) rfl rfl m hm)
  have h10:m<=reachBytes:=by simpa using h9
  have h11:=reachBytes_lt
  omega
 obtain⟨mv,md,ml,rfl,hM⟩:=qdA (fun _=>rfl) (hval 0 27 v0 rfl rfl) h0 hf
 clear hA0 hval hz
 refine(qdX (QF W hsh) (Zt hmet) hM (Xc hmet) fun V hb=>qho V ((QF W hsh).below hb) ((Zt hmet).below hb) fun j hj=>cell_below hb (Xc hmet j hj)).mono fun e W' ⟨he,hb⟩=>?_
 subst he
 exact⟨_,rfl,_,_,_,[],_,[],hW',trodAll_mk1 (shut_bool Tryz.underlying4 _),trodAll_mk1 (Below.trod qgF (by kernel_rfl) (of_decide_eq_true (by kernel_rfl)) h0 hb (fun x hx=>hlt x (by simp[hx]))),rfl,hb.frame _,fun h=>by cases h⟩
theorem tableRegs_said:Rows.TableRegsSaid:=
 OpenClaim.holds_of_wide 3 Tryz.f3 rfl rfl rfl rfl rfl rfl rfl ⟨rfl,rfl,rfl,rfl,rfl⟩ rfl rfl rfl rfl rfl (by kernel_rfl) Tryz.func3 (by kernel_rfl)
  (of_decide_eq_true (by kernel_rfl)) (by unfold Func.isWrapper;first|(rw[if_pos (by decide +kernel)];kernel_rfl)|(rw[if_neg (by decide +kernel)];exact⟨rfl,rfl⟩))
  (fun os started H enc _=>ZM os started H enc)
theorem tableRegs_card:Rows.TableRegsCardSaid:=
 Claim7.holds_tied_plain_at .later [] [.data, .data, .data, .data, .handle, .sentinel, .sentinel, .pinned] true (true, "d7beb142e9148bb56981e0582caa11754910c7033c85e6ad557c27a86b2e1d0e") true
  tableRegs_said (fun _ h=>by cases h) (by kernel_rfl) (fun _ h=>by cases h) tableRegs_row_tie rfl ⟨rfl,rfl⟩ (by kernel_rfl) rfl
  (fun f fn hf hfn=>by
    obtain rfl : f = 3 := Option.some.inj ((show Tryz.prog.funcNamed "pigeonhole/pigeonholelaw7.TableRegs" = some 3 by kernel_rfl).symm.trans hf) |>.symm
    obtain rfl:fn=Tryz.f3:=(Option.some.inj (Tryz.func3.symm.trans hfn)).symm
    exact⟨by kernel_rfl,fun j t ht=>by
     rw[Tryz.params3] at ht
     have hm:t ∈ [27,3]:=by have:=Array.mem_of_getElem? ht;simp at this ⊢;first|exact .inl this|exact this|omega
     have hall:([27,3].all fun u=>!Tryz.prog.wantsStandIn u)=true:=by kernel_rfl
     exact(show Tryz.prog.wantsStandIn t=false by simpa using List.all_eq_true.1 hall t hm)⟩)
  (by kernel_rfl)
end Go.Proofs.YtamhpmbjccjchaaGreatDoor
