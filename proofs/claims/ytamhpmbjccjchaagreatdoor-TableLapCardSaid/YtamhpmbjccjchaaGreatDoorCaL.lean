/-
  TableLap returns true at every description and any two ints, and leaves them as they were: the tied card of its row is proved ('tableLap_card').
  Conditions: those of the row alone: the listed package-level variables hold at the call what the program's text lays (the card ties that; of them the table of TrailingZeros64 is read, and errors' own variable of the type 'error', where registers can't be). The card is tied to the copy of the project that holds the packages on this road, and says nothing of others.
-/
import Derived.Test.YtamhpmbjccjchaaGreatDoorHdP
import Derived.Test.YtamhpmbjccjchaaGreatDoorTdCP
import Derived.Test.YtamhpmbjccjchaaGreatDoorCards
import Derived.Test.YtamhpmbjccjchaaGreatDoorTie
import Derived.SevenTiedAt
import Derived.Carry
set_option maxRecDepth 100000
namespace Go.Proofs.YtamhpmbjccjchaaGreatDoor
open Go.ChangeShapes Go.WideShapes Go.ChangeAt Go.RowKit
theorem Xi(os:Os)(started:os.Started)(H:Type)(enc:TypeId×Value->H) :
 ReturnsInHanded {} Tryz.checked os 4 .any (fun w args=>(Rows.tableLapSpec.pre enc Tryz.prog Tryz.f4 [] false w args/\laidMetH Tryz.prog listed w)/\sizedMet enc Tryz.prog Tryz.f4 (OpenSpec.ofChange Rows.tableLapSpec) false w args)
  (Rows.tableLapSpec.post enc Tryz.prog Tryz.f4 false true false false):=by
 refine qgP started (by kernel_rfl) Tryz.func4
  (ChangeSpec.witness_shaped (enc:=enc) (C:=Tryz.checked) (os:=os) (X:=fun w _=>laidMetH Tryz.prog listed w) false (qfo os) #[.agg #[.string ByteArray.empty,.slice none 0 0,.slice none 0 0,.slice none 0 0,.slice none 0 0,.string ByteArray.empty,.slice none 0 0,.int .i64 0],.int .i64 0,.int .i64 0] 8 rfl (World.shaped_of_RefB (by kernel_rfl) (by kernel_rfl)) (by kernel_rfl) (by kernel_rfl) (by kernel_rfl) (qdD os _)) ?_
 intro W base args ds gs before hval hW hz hsh hmet
 have hW':=hW
 obtain⟨p,q,hA0,hV,rfl,hfz,hnd⟩:=hW
 have hlt:=hA0.lt
 have hA:DataW.TrodAll enc Tryz.prog W 0 (fun _=>true) true Tryz.f4.params.toList args.toList ds p:=hA0
 rw[Tryz.params4] at hA hval hz
 obtain⟨v0,v1,v2,d0,d1,d2,p0,p1,p2,rfl,rfl,rfl,h0,h1,h2⟩:=trodAll_three hA
 obtain⟨rfl,rfl⟩:=trodVars_none hV
 have hf:yO Tryz.prog 27 d0:=fun m hm=>by
  have h9:=List.all_eq_true.1 hz m (DataW.weights_mem_each (j:=0) rfl rfl m hm)
  have h10:m<=reachBytes:=by simpa using h9
  have h11:=reachBytes_lt
  omega
 obtain⟨mv,md,ml,rfl,hM⟩:=qdh (fun _=>rfl) (hval 0 27 v0 rfl rfl) h0 hf
 obtain⟨n,rfl,rfl,rfl,wn⟩:=open_int Tryz.underlying3 (hval 1 3 v1 rfl rfl) h1
 obtain⟨m,rfl,rfl,rfl,wm⟩:=open_int Tryz.underlying3 (hval 2 3 v2 rfl rfl) h2
 clear hA0 hval hz
 refine(qgh (Qy W hsh) (Zp hmet) hM n m fun V hb=>qgO V ((Qy W hsh).below hb) ((Zp hmet).below hb) fun j hj=>cell_below hb (qaJ hmet j hj)).mono fun e W' ⟨he,hb⟩=>?_
 subst he
 exact⟨_,rfl,_,_,_,[],_,[],hW',trodAll_mk1 (shut_bool Tryz.underlying4 _),trodAll_mk3 (Below.trod qgj (by kernel_rfl) (of_decide_eq_true (by kernel_rfl)) h0 hb (fun x hx=>hlt x (by simp[hx]))) (shut_int Tryz.underlying3 wn) (shut_int Tryz.underlying3 wm),rfl,hb.frame _,fun h=>by cases h⟩
theorem tableLap_said:Rows.TableLapSaid:=
 OpenClaim.holds_of_wide 4 Tryz.f4 rfl rfl rfl rfl rfl rfl rfl ⟨rfl,rfl,rfl,rfl,rfl⟩ rfl rfl rfl rfl rfl (by kernel_rfl) Tryz.func4 (by kernel_rfl)
  (of_decide_eq_true (by kernel_rfl)) (by unfold Func.isWrapper;first|(rw[if_pos (by decide +kernel)];kernel_rfl)|(rw[if_neg (by decide +kernel)];exact⟨rfl,rfl⟩))
  (fun os started H enc _=>Xi os started H enc)
theorem tableLap_card:Rows.TableLapCardSaid:=
 Claim7.holds_tied_plain_at .later [] [.data, .data, .data, .data, .handle, .sentinel, .sentinel, .pinned] true (true, "d7beb142e9148bb56981e0582caa11754910c7033c85e6ad557c27a86b2e1d0e") true
  tableLap_said (fun _ h=>by cases h) (by kernel_rfl) (fun _ h=>by cases h) tableLap_row_tie rfl ⟨rfl,rfl⟩ (by kernel_rfl) rfl
  (fun f fn hf hfn=>by
    obtain rfl : f = 4 := Option.some.inj ((show Tryz.prog.funcNamed "pigeonhole/pigeonholelaw7.TableLap" = some 4 by kernel_rfl).symm.trans hf) |>.symm
    obtain rfl:fn=Tryz.f4:=(Option.some.inj (Tryz.func4.symm.trans hfn)).symm
    exact⟨by kernel_rfl,fun j t ht=>by
     rw[Tryz.params4] at ht
     have hm:t ∈ [27,3]:=by have:=Array.mem_of_getElem? ht;simp at this ⊢;first|exact .inl this|exact this|omega
     have hall:([27,3].all fun u=>!Tryz.prog.wantsStandIn u)=true:=by kernel_rfl
     exact(show Tryz.prog.wantsStandIn t=false by simpa using List.all_eq_true.1 hall t hm)⟩)
  (by kernel_rfl)
end Go.Proofs.YtamhpmbjccjchaaGreatDoor
