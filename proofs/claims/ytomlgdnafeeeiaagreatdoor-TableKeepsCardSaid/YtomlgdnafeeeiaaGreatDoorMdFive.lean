
import Derived.Test.YtomlgdnafeeeiaaGreatDoorLyE
import Derived.Test.YtomlgdnafeeeiaaGreatDoorMdFour
set_option maxHeartbeats 8000000
set_option maxRecDepth 100000
/-
 readClasses and readOps of any classes and operations.
-/
namespace Go.Proofs.YtomlgdnafeeeiaaGreatDoor
open Proofs.Tryz
open Go.RowKit
def Qp[Inhabited zH](w0:World)(C:Nat)(cc:SlV->CV)(ns:List ByteArray)(ps:List Plc)(cs:List qp)(e:Ending)(w':World):Prop:=
 e = .returned (.int .i64 (qy qj ns ps cs))/\BX w0 w'/\(qy qj ns ps cs=0->∃cV,St w0 w' C (cc cV) ns ps/\zC w0 w' cV (qr ns cs))
theorem Kz[Inhabited zH](C:Nat)(mn rs:ByteArray)(rg op ar sv:SlV)(ka:Option Addr)(kn kc:Nat)(sl:Int)(nV pV oV aV:SlV)(r:Int)(ns:List ByteArray)(ps:List Plc)(cs:List qp)(w0 w:World)(hE:Env w0)
 (hS:St w0 w C ⟨⟨mn,rg,⟨ka,kn,kc⟩,op,ar,rs,sv,sl⟩,nV,pV,⟨none,0,0⟩,oV,aV,r⟩ ns ps) (hK:qS w0 ⟨ka,kn,kc⟩ cs) :
 Calls prog 61 #[.pointer (some ⟨C,0,none⟩)] w (Qp w0 C (fun cV=>⟨⟨mn,rg,⟨ka,kn,kc⟩,op,ar,rs,sv,sl⟩,nV,pV,cV,oV,aV,r⟩) ns ps cs):=by
 have hkn:=hK.1
 have hkc:=hK.2.1
 dsimp only at hkn hkc
 have c2:=hS.chk.cell (j:=2) (v:=.slice ka kn kc) rfl
 have hB0:=hS.below
 by_cases hlong:(64:Int)<kn
 ·have hr:Hid (qy qj ns ps cs=2):=vH (by unfold qy;rw[if_pos (by omega)])
  clear hK hS hkn
  go_enter func61,ntmps61
  go_wp2_with fail
  go_ret
  exact⟨qI hr.out.symm,hB0,fun h=>by rw[hr.out] at h;cases h⟩
 ·have hr:Hid (qy qj ns ps cs=zA qj ns ps [] cs):=vH (by unfold qy;rw[if_neg (by omega)])
  have hK2:=vH hK
  have hS2:=vH hS
  have hkn':=vH hkn
  have kn0:(0:Int)<=kn:=vN _
  clear hK hS hkn
  go_enter func61,ntmps61
  go_wp2_with fail
  go_loopw [20] (fun i wr=>∃ (k:Nat) (cV:SlV),k<=kn/\i = .int .i64 k/\St w0 wr C ⟨⟨mn,rg,⟨ka,kn,kc⟩,op,ar,rs,sv,sl⟩,nV,pV,cV,oV,aV,r⟩ ns ps/\zC w0 wr cV (qr ns (cs.take k))/\Hid (zA qj ns ps [] cs=zA qj ns ps (cs.take k) (cs.drop k))) (fun i _=>kn-(intOf i).toNat)
  case atStart=>exact⟨0,⟨none,0,0⟩,vO _,rfl,hS2.out,by simpa[qr] using zC.nil w0 w,vH (by simp)⟩
  case round=>
   clear c2 hB0 hS2
   obtain⟨k,cV,hk,rfl,hS,hL,hT⟩:=hrel
   have k0:(0:Int)<=k:=vN _
   have hBr:=hS.below
   by_cases hlt:k<kn
   ·have hkl:k<cs.length:=by have:=hkn'.out;omega
    obtain⟨x,hx⟩:∃x,cs[k]?=some x:=⟨cs[k],vE hkl⟩
    have hmem:x∈cs:=vM hx
    obtain⟨b,o,rfl,⟨ra,rn,rc⟩,hc0,hc1,hcr⟩:=hK2.out.2.2 k x hx
    dsimp only at hc0 hc1
    replace hc0:=qb hBr hc0
    replace hc1:=qb hBr hc1
    have k1:(k:Int)<kn:=by omega
    have k2:(k:Int)<=kc:=by omega
    have hi:IntKind.i64.wrap ((k:Int)+1)=k+1:=vI _ (by omega)
    have hT2:=vH (hT.out.trans (Jf qj ns ps cs k x hx))
    have hb5:∀W,BX wr W->zT qj ns ps (cs.take k) x=5->Qp w0 C (fun cV=>⟨⟨mn,rg,⟨some ⟨b,o,none⟩,kn,kc⟩,op,ar,rs,sv,sl⟩,nV,pV,cV,oV,aV,r⟩) ns ps cs (.returned (.int .i64 5)) W:=fun W hW h5=>by
     have h:qy qj ns ps cs=5:=by rw[hr.out,hT2.out,h5];rfl
     exact⟨qI h.symm,hBr.trans (hW.mono hBr.size),fun h0=>by rw[h] at h0;cases h0⟩
    replace hb5:=vH hb5
    have c2:=hS.chk.cell (j:=2) (v:=.slice (some ⟨b,o,none⟩) kn kc) rfl
    have hb0:BX wr (wr.alloc (.cells #[.string x.name,.slice ra rn rc] 42)):=qi
    have Kn0:∀W,BX wr W->Calls prog 106 #[.string x.name] W fun e w'=>e = .returned (.bool (qj x.name))/\BX W w':=fun W hb=>ZF x.name W (hE.below (hBr.trans (hb.mono hBr.size)))
    have Kc0:∀W,BX wr W->Calls prog 107 #[.slice (some ⟨b,o,none⟩) k kc,.string x.name,.func (.func 108) #[] #[]] W fun e w'=>e = .returned (.int .i64 (zM (fun y:qp=>eqB y.name x.name) (cs.take k)))/\BX W w':=fun W hb=>
     YN ⟨some ⟨b,o,none⟩,k,kc⟩ (cs.take k) x.name W ((hK2.out.head k (by omega)).below (hBr.trans (hb.mono hBr.size))) (by show k<_;omega)
    have Kr0:∀W,BX wr W->Calls prog 109 #[.pointer (some ⟨C,0,none⟩),.string x.name] W fun e w'=>e = .returned (.int .i64 (qv ns x.name))/\BX W w':=fun W hb=>
     qac C _ ns x.name W (hS.step hb).chk (hS.step hb).namesAt
    by_cases hn1:qj x.name=false
    ·have h5:Hid (zT qj ns ps (cs.take k) x=5):=vH (by unfold zT;rw[hn1];simp)
     rw[hn1] at Kn0
     generalize hxn:x.name=xn at *
     clear hn1 hx hmem hcr hT hS hL hxn hK2 Kc0 Kr0
     go_wp2_with fail
     refine wp_region_any (by kernel_rfl) ?_
     change wpAny _ _ _ _ _ _ _ (World.drew _)
     refine xm 0 (some 25) (.pointer (some ⟨wr.heap.size,0,none⟩)) rfl (by kernel_rfl) (by kernel_rfl) (by kernel_rfl) (by kernel_rfl) (fun _ _ _ h=>h) (Or.inl ⟨by kernel_rfl,fun w=>by go_simp⟩) ?_
     refine wpAny_ready (rs:=[1]) (by kernel_rfl) (by simp) (AllReady.cons rfl (fun K hK=>?_) AllReady.nil)
     go_simp
     refine hK _ _ ?_
     clear hK K
     refine wpAny_ready (rs:=[2]) (by kernel_rfl) (by simp) (AllReady.cons rfl (fun K hK=>?_) AllReady.nil)
     go_simp
     go_at_call 106
     refine(Kn0 _ hb0.drew).mono ?_
     clear Kn0
     rintro e W1 ⟨rfl,hb1⟩
     try go_simp
     refine hK _ _ ?_
     clear hK K
     refine xm 3 (some 28) (.bool true) rfl (by kernel_rfl) (by kernel_rfl) (by kernel_rfl) (by kernel_rfl) (fun _ _ _ h=>h) (Or.inl ⟨by kernel_rfl,fun w=>by go_simp⟩) ?_
     refine xm 4 (some 29) (.bool true) rfl (by kernel_rfl) (by kernel_rfl) (by kernel_rfl) (by kernel_rfl) (fun _ _ _ h=>h) (Or.inl ⟨by kernel_rfl,fun w=>by go_simp⟩) ?_
     refine QR 8 (by kernel_rfl) (fun d _ _ _ h=>by cases d <;> exact h) [(5,some 30),(6,some 31),(7,some 32),(8,some 33),(9,some 34),(10,some 35),(11,some 36),(12,some 37),(13,some 38),(14,some 39),(15,some 40)] (by kernel_rfl) ?_
     refine xm 16 (some 41) (.bool true) rfl (by kernel_rfl) (by kernel_rfl) (by kernel_rfl) (by kernel_rfl) (fun _ _ _ h=>h) (Or.inl ⟨by kernel_rfl,fun w=>by kernel_rfl⟩) ?_
     refine xm 17 (some 42) (.bool true) rfl (by kernel_rfl) (by kernel_rfl) (by kernel_rfl) (by kernel_rfl) (fun _ _ _ h=>h) (Or.inl ⟨by kernel_rfl,fun w=>by kernel_rfl⟩) ?_
     refine QR 1 (by kernel_rfl) (fun d _ _ _ h=>by cases d <;> exact h) [(18,some 43),(19,some 44),(20,some 45),(21,some 46),(22,some 47)] (by kernel_rfl) ?_
     refine xm 23 (some 48) (.bool true) rfl (by kernel_rfl) (by kernel_rfl) (by kernel_rfl) (by kernel_rfl) (fun _ _ _ h=>h) (Or.inl ⟨by kernel_rfl,fun w=>by kernel_rfl⟩) ?_
     refine wpAny_done (by kernel_rfl) ?_ _
     simp only[Xo,Act.put,vK,kS,kZ]
     go_wp2_with fail
     go_ret
     exact hb5.out _ (hb0.drew.trans (hb1.mono (by simp))) h5.out
    have hn2:qj x.name=true:=by simpa using hn1
    rw[hn2] at Kn0
    have nC:=World.new_ne wr _ c2
    by_cases he1:0<=zM (fun y:qp=>eqB y.name x.name) (cs.take k)
    ·have h5:Hid (zT qj ns ps (cs.take k) x=5):=vH (by unfold zT;simp[hn2,he1])
     generalize zM (fun y:qp=>eqB y.name x.name) (cs.take k)=ix at Kc0 he1
     generalize hxn:x.name=xn at *
     clear hn1 hn2 hx hmem hcr hT hS hL hxn hK2 Kr0
     go_wp2_with fail
     refine wp_region_held_drew (S:=fun w'=>w'.cell? ⟨wr.heap.size,0,none⟩=some (.string xn)/\w'.cell? ⟨C,2,none⟩=some (.slice (some ⟨b,o,none⟩) kn kc)) (by kernel_rfl) ?_ (fun hH=>?_)
     ·(try dsimp only)
      go_keep
     refine tk 0 (some 25) (.pointer (some ⟨wr.heap.size,0,none⟩)) rfl hH ?_
     try simp only[Act.put,vK,kZ,kS]
     refine tk 1 (some 26) (.string xn) rfl hH ?_ (fun w hSw=>by(obtain⟨s0,s2⟩:=hSw;go_simp))
     try simp only[Act.put,vK,kZ,kS]
     refine wpAnyH_ready (rs:=[2]) (by kernel_rfl) (by simp) (AllReadyH.cons rfl (fun K hK=>?_) AllReadyH.nil)
     go_simp
     go_at_call 106
     refine(Kn0 _ hb0.drew).mono ?_
     clear Kn0
     rintro e W1 ⟨rfl,hb1⟩
     have hA1:=hb0.drew.trans (hb1.mono (by simp))
     have hH1:W1.cell? ⟨wr.heap.size,0,none⟩=some (.string xn)/\W1.cell? ⟨C,2,none⟩=some (.slice (some ⟨b,o,none⟩) kn kc):=⟨qb hb1 hH.1,qb hb1 hH.2⟩
     try go_simp
     refine hK.out _ _ hH1 (fun _=>?_)
     clear hK K
     try simp only[Act.put,vK,kZ,kS]
     refine tk 3 (some 28) (.bool false) rfl hH1 ?_
     try simp only[Act.put,vK,kZ,kS]
     refine tk 4 (some 29) (.bool false) rfl hH1 ?_
     try simp only[Act.put,vK,kZ,kS]
     refine tk 5 (some 30) (.pointer (some ⟨C,0,none⟩)) rfl hH1 ?_
     try simp only[Act.put,vK,kZ,kS]
     refine tk 6 (some 31) (.pointer (some ⟨C,0,none⟩)) rfl hH1 ?_
     try simp only[Act.put,vK,kZ,kS]
     refine tk 7 (some 32) (.pointer (some ⟨C,0,none⟩)) rfl hH1 ?_
     try simp only[Act.put,vK,kZ,kS]
     refine tk 8 (some 33) (.pointer (some ⟨C,2,none⟩)) rfl hH1 ?_
     try simp only[Act.put,vK,kZ,kS]
     refine tk 9 (some 34) (.slice (some ⟨b,o,none⟩) kn kc) rfl hH1 ?_ (fun w hSw=>by(obtain⟨s0,s2⟩:=hSw;go_simp))
     try simp only[Act.put,vK,kZ,kS]
     refine tk 10 (some 35) (.int .i64 k) rfl hH1 ?_
     try simp only[Act.put,vK,kZ,kS]
     refine tk 11 (some 36) (.slice (some ⟨b,o,none⟩) k kc) rfl hH1 ?_
     try simp only[Act.put,vK,kZ,kS]
     refine tk 12 (some 37) (.pointer (some ⟨wr.heap.size,0,none⟩)) rfl hH1 ?_
     try simp only[Act.put,vK,kZ,kS]
     refine tk 13 (some 38) (.string xn) rfl hH1 ?_ (fun w hSw=>by(obtain⟨s0,s2⟩:=hSw;go_simp))
     try simp only[Act.put,vK,kZ,kS]
     refine wpAnyH_ready (rs:=[14]) (by kernel_rfl) (by simp) (AllReadyH.cons rfl (fun K hK=>?_) AllReadyH.nil)
     go_simp
     go_at_call 107
     refine(Kc0 _ hA1).mono ?_
     clear Kc0
     rintro e W2 ⟨rfl,hb2⟩
     have hA2:=hA1.trans (hb2.mono hA1.size)
     have hH2:W2.cell? ⟨wr.heap.size,0,none⟩=some (.string xn)/\W2.cell? ⟨C,2,none⟩=some (.slice (some ⟨b,o,none⟩) kn kc):=⟨qb hb2 hH1.1,qb hb2 hH1.2⟩
     try go_simp
     refine hK.out _ _ hH2 (fun _=>?_)
     clear hK K
     try simp only[Act.put,vK,kZ,kS]
     refine tk 15 (some 40) (.bool true) rfl hH2 ?_
     try simp only[Act.put,vK,kZ,kS]
     refine tk 16 (some 41) (.bool true) rfl hH2 ?_
     try simp only[Act.put,vK,kZ,kS]
     refine tk 17 (some 42) (.bool true) rfl hH2 ?_
     try simp only[Act.put,vK,kZ,kS]
     refine jw 1 (by kernel_rfl) (fun d _ _ _ h=>by cases d <;> exact h) hH2 [(18,some 43),(19,some 44),(20,some 45),(21,some 46),(22,some 47)] (by kernel_rfl) ?_
     refine tk 23 (some 48) (.bool true) rfl hH2 ?_ (fun w _=>by kernel_rfl)
     refine wpAnyH_done (by kernel_rfl) ?_ _
     simp only[Xo,Act.put,vK,kS,kZ]
     go_wp2_with fail
     go_ret
     exact hb5.out _ hA2 h5.out
    have e1:zM (fun y:qp=>eqB y.name x.name) (cs.take k) = -1:=by
     rcases qgL (fun y:qp=>eqB y.name x.name) (cs.take k) with h|h <;> omega
    by_cases he2:0<=qv ns x.name
    ·have h5:Hid (zT qj ns ps (cs.take k) x=5):=vH (by unfold zT;simp[he2])
     rw[e1] at Kc0
     generalize qv ns x.name=ix at Kr0 he2
     generalize hxn:x.name=xn at *
     clear hn1 hn2 hx hmem hcr hT hS hL hxn hK2 he1 e1
     go_wp2_with fail
     go_region_held3 (fun w'=>w'.cell? ⟨wr.heap.size,0,none⟩=some (.string xn)/\w'.cell? ⟨wr.heap.size,1,none⟩=some (.slice ra rn rc)/\w'.cell? ⟨C,2,none⟩=some (.slice (some ⟨b,o,none⟩) kn kc))
      (go_keep)
      ((first
        |(go_at_call 106;refine(Kn0 _ hb0.drew).mono ?_;clear Kn0;rintro e W1 ⟨rfl,hb1⟩;have hA1:=hb0.drew.trans (hb1.mono (by simp));have p0:W1.cell? ⟨wr.heap.size,0,none⟩=some (.string xn):=qs hb1;have p1:W1.cell? ⟨wr.heap.size,1,none⟩=some (.slice ra rn rc):=qs hb1;have p2:W1.cell? ⟨C,2,none⟩=some (.slice (some ⟨b,o,none⟩) kn kc):=qs hb1)
        |(go_at_call 107;refine(Kc0 _ hA1).mono ?_;clear Kc0;rintro e W2 ⟨rfl,hb2⟩;have hA2:=hA1.trans (hb2.mono hA1.size);have q0:W2.cell? ⟨wr.heap.size,0,none⟩=some (.string xn):=qs hb2;have q1:W2.cell? ⟨wr.heap.size,1,none⟩=some (.slice ra rn rc):=qs hb2;have q2:W2.cell? ⟨C,2,none⟩=some (.slice (some ⟨b,o,none⟩) kn kc):=qs hb2)
        |(go_at_call 109;refine(Kr0 _ hA2).mono ?_;clear Kr0;rintro e W3 ⟨rfl,hb3⟩;have hA3:=hA2.trans (hb3.mono hA2.size);have r0:W3.cell? ⟨wr.heap.size,0,none⟩=some (.string xn):=qs hb3;have r1:W3.cell? ⟨wr.heap.size,1,none⟩=some (.slice ra rn rc):=qs hb3;have r2:W3.cell? ⟨C,2,none⟩=some (.slice (some ⟨b,o,none⟩) kn kc):=qs hb3)))
     all_goals
      go_wp2_with fail
      go_ret
      exact hb5.out _ hA3 h5.out
    have e2:qv ns x.name = -1:=by have:=zO ns x.name;omega
    rw[e1] at Kc0
    rw[e2] at Kr0
    have hce:Hid (zT qj ns ps (cs.take k) x=if zw ns ps x=true then 0 else 8):=vH (by unfold zT;rw[e1,e2,hn2];simp)
    clear hb5
    have hCw:=hS.chk.lt
    have Kn:=Kn0
    have Kc:=Kc0
    have Kr:=Kr0
    clear Kn0 Kc0 Kr0
    have Kg:∀W,BX wr W->Calls prog 110 #[.pointer (some ⟨C,0,none⟩),.slice ra rn rc,.int .i64 64] W (Yl ns x.regs 64 W):=fun W hb=>Zj C _ ns ⟨ra,rn,rc⟩ x.regs 64 W (by decide) (by decide) (hS.step hb).chk (hS.step hb).namesAt (hcr.below (hBr.trans (hb.mono hBr.size)))
    have Kt:∀W s,BX wr W->qN W s (qh ns x.regs)->x.regs.length<=64->Calls prog 111 #[.slice s.a s.n s.c] W fun e w'=>e = .returned (.bool (qW [] (qh ns x.regs)))/\W=w':=fun W s _ hI h64=>XL s _ W hI.at_ (by have:=hI.len;simp[qh] at this;omega)
    have Ko:∀W s,BX wr W->qN W s (qh ns x.regs)->x.regs.length<=64->(qh ns x.regs).contains (-1)=false->Calls prog 112 #[.pointer (some ⟨C,0,none⟩),.slice s.a s.n s.c] W fun e w'=>e = .returned (.bool (xJ ps (qh ns x.regs)))/\BX W w':=fun W s hb hI h64 hno=>
     ZC C _ ps s _ W (hS.step hb).chk (hS.step hb).placesAt hI.at_ (by have:=hI.len;simp[qh] at this;omega) (Qu hS.same hno)
    have hlb:=kW _ _ c2
    dsimp only at hlb
    have hxr:Hid (zw ns ps x=(zx ns x.regs 64 && !decide (x.regs = []) && !qW [] (qh ns x.regs)&&xJ ps (qh ns x.regs))):=vH rfl
    have hS':=vH hS
    have hL':=vH hL
    have hbad:zw ns ps x=false->Hid (qy qj ns ps cs=8):=fun hf=>vH (by
     have h8:zT qj ns ps (cs.take k) x=8:=by rw[hce.out,hf];rfl
     rw[hr.out,hT2.out,h8];rfl)
    have hgood:zw ns ps x=true->Hid (zA qj ns ps [] cs=zA qj ns ps (cs.take (k+1)) (cs.drop (k+1))):=fun hf=>vH (by
     have h0:zT qj ns ps (cs.take k) x=0:=by rw[hce.out,hf];rfl
     rw[hT2.out,h0];rfl)
    have hlist:Hid (qr ns (cs.take (k+1))=qr ns (cs.take k)++[qh ns x.regs]):=vH (by unfold qr;rw[vX,hx,kM];rfl)
    replace hbad:=vH hbad
    replace hgood:=vH hgood
    generalize hxn:x.name=xn at *
    clear hn1 hn2 he1 he2 hx hmem hcr e1 e2 hT hS hL hxn hK2
    go_wp2_with fail
    go_region_held3 (fun w'=>w'.cell? ⟨wr.heap.size,0,none⟩=some (.string xn)/\w'.cell? ⟨wr.heap.size,1,none⟩=some (.slice ra rn rc)/\w'.cell? ⟨C,2,none⟩=some (.slice (some ⟨b,o,none⟩) kn kc))
     (go_keep)
     ((first
       |(go_at_call 106;refine(Kn _ hb0.drew).mono ?_;clear Kn;rintro e W1 ⟨rfl,hb1⟩;have hA1:=hb0.drew.trans (hb1.mono (by simp));have p0:W1.cell? ⟨wr.heap.size,0,none⟩=some (.string xn):=qs hb1;have p1:W1.cell? ⟨wr.heap.size,1,none⟩=some (.slice ra rn rc):=qs hb1;have p2:W1.cell? ⟨C,2,none⟩=some (.slice (some ⟨b,o,none⟩) kn kc):=qs hb1)
       |(go_at_call 107;refine(Kc _ hA1).mono ?_;clear Kc;rintro e W2 ⟨rfl,hb2⟩;have hA2:=hA1.trans (hb2.mono hA1.size);have q0:W2.cell? ⟨wr.heap.size,0,none⟩=some (.string xn):=qs hb2;have q1:W2.cell? ⟨wr.heap.size,1,none⟩=some (.slice ra rn rc):=qs hb2;have q2:W2.cell? ⟨C,2,none⟩=some (.slice (some ⟨b,o,none⟩) kn kc):=qs hb2)
       |(go_at_call 109;refine(Kr _ hA2).mono ?_;clear Kr;rintro e W3 ⟨rfl,hb3⟩;have hA3:=hA2.trans (hb3.mono hA2.size);have r0:W3.cell? ⟨wr.heap.size,0,none⟩=some (.string xn):=qs hb3;have r1:W3.cell? ⟨wr.heap.size,1,none⟩=some (.slice ra rn rc):=qs hb3;have r2:W3.cell? ⟨C,2,none⟩=some (.slice (some ⟨b,o,none⟩) kn kc):=qs hb3)))
    go_wp2_with fail
    go_at_call 110
    refine(Kg _ hA3).mono ?_
    clear Kg
    rintro e W4 ⟨s,rfl,hb4,hown⟩
    have hA4:=hA3.trans (hb4.mono hA3.size)
    have hB4:BX w0 W4:=hBr.trans (hA4.mono hBr.size)
    clear p0 p1 p2 q0 q1 q2 r0 r1 r2 hc0 hc1 c2 hb1 hb2 hb3 hA1 hA2 hA3
    replace hown:=vH hown
    have h64:(64:Int).toNat=64:=rfl
    rw[h64]
    have h8:zw ns ps x=false->∀W,BX w0 W->Qp w0 C (fun cV=>⟨⟨mn,rg,⟨some ⟨b,o,none⟩,kn,kc⟩,op,ar,rs,sv,sl⟩,nV,pV,cV,oV,aV,r⟩) ns ps cs (.returned (.int .i64 8)) W:=fun hf W hW=>by
     have h:=(hbad.out hf).out
     exact⟨qI h.symm,hW,fun h0=>by rw[h] at h0;cases h0⟩
    replace h8:=vH h8
    clear hbad h64
    cases hok:zx ns x.regs 64 with
    |false=>
     have hf:Hid (zw ns ps x=false):=vH (by rw[hxr.out,hok];rfl)
     clear hok
     go_wp2_with fail
     go_ret
     exact h8.out hf.out _ hB4
    |true=>
     have hok2:x.regs.length<=64/\(qh ns x.regs).contains (-1)=false:=by unfold zx at hok;simpa using hok
     have hrow:qN W4 s (qh ns x.regs):=by
      have:=hown.out (by have:=hok2.1;omega)
      have e:x.regs.length=(qh ns x.regs).length:=by simp[qh]
      rw[e] at this
      exact qm this (vO _)
     have hsn:s.n=x.regs.length:=by have:=hrow.len;simpa[qh] using this
     have Kt':=Kt W4 s hA4 hrow hok2.1
     have Ko':=Ko W4 s hA4 hrow hok2.1 hok2.2
     clear Kt Ko
     replace hok:=vH hok
     by_cases hem:x.regs = []
     ·have hf:Hid (zw ns ps x=false):=vH (by rw[hxr.out,hem];simp)
      have hs0:s.n=0:=by rw[hsn,hem];rfl
      obtain⟨sa,sn,sc⟩:=s
      dsimp only at hs0
      subst hs0
      clear hem hsn hok2 Kt' Ko' hrow hown
      go_wp2_with fail
      go_ret
      exact h8.out hf.out _ hB4
     ·have hpos:0<s.n:=by rw[hsn];exact List.length_pos_iff.2 hem
      have hpos2:(0:Int)<s.n:=by omega
      have hne0:((s.n:Int)==0)=false:=beq_eq_false_iff_ne.2 (by omega)
      have hxr2:Hid (zw ns ps x=(!qW [] (qh ns x.regs)&&xJ ps (qh ns x.regs))):=vH (by rw[hxr.out,hok.out,vF hem];simp)
      have hrow':=vH hrow
      have hs64:(qh ns x.regs).length<=1000:=by have:=hok2.1;simp[qh];omega
      have hvn:s.a=none->s.c=0:=fun h=>by
       rcases hrow.2 with⟨h1,h2⟩|⟨g,cap,cur,h1,_⟩
       ·unfold SlV.v at h1;injection h1
       ·unfold SlV.v at h1;injection h1 with ea;rw[ea] at h;cases h
      clear hem hsn hok2 hrow hown hxr
      cases htw:qW [] (qh ns x.regs) with
      |true=>
       have hf:Hid (zw ns ps x=false):=vH (by rw[hxr2.out,htw];rfl)
       rw[htw] at Kt'
       clear htw Ko'
       go_wp2_with (go_at_call 111;refine Kt'.mono ?_;clear Kt';rintro e W5 ⟨rfl,rfl⟩)
       go_ret
       exact h8.out hf.out _ hB4
      |false=>
       rw[htw] at Kt'
       cases how:xJ ps (qh ns x.regs) with
       |false=>
        have hf:Hid (zw ns ps x=false):=vH (by rw[hxr2.out,htw,how];rfl)
        rw[how] at Ko'
        clear htw how
        go_wp2_with (first
         |(go_at_call 111;refine Kt'.mono ?_;clear Kt';rintro e W5 ⟨rfl,rfl⟩)
         |(go_at_call 112;refine Ko'.mono ?_;clear Ko';rintro e W6 ⟨rfl,hb6⟩))
        go_ret
        exact h8.out hf.out _ (hB4.trans (hb6.mono hB4.size))
       |true=>
        have hf:zw ns ps x=true:=by rw[hxr2.out,htw,how];rfl
        have hg:=hgood.out hf
        rw[how] at Ko'
        clear htw how hf h8 hxr2
        have hP:∀W,BX W4 W->St w0 W C ⟨⟨mn,rg,⟨some ⟨b,o,none⟩,kn,kc⟩,op,ar,rs,sv,sl⟩,nV,pV,cV,oV,aV,r⟩ ns ps/\zC w0 W cV (qr ns (cs.take k))/\qN W s (qh ns x.regs):=fun W hW=>by
         have hA:=hA4.trans (hW.mono hA4.size)
         exact⟨hS'.out.step hA,hL'.out.below hA,hrow'.out.below hW⟩
        have hk64:k<=64:=by omega
        have hlk:(qr ns (cs.take k)).length=k:=by unfold qr;rw[vP,List.length_take];omega
        replace hlk:=vH hlk
        obtain⟨i0,hi0,hz0,hz1,hz2⟩:=info_parts qax
        go_wp2_with (first
         |(go_at_call 111;refine Kt'.mono ?_;clear Kt';rintro e W5 ⟨rfl,rfl⟩)
         |(go_at_call 112;refine Ko'.mono ?_;clear Ko';rintro e W6 ⟨rfl,hb6⟩;obtain⟨hS6,⟨vs,hv1,hrow6,hv3⟩,hI6⟩:=hP W6 hb6;rw[hlk.out] at hrow6;have c10:=hS6.chk.cell (j:=10) (v:=.slice cV.a cV.n cV.c) rfl;have hnr:=hS6.chk.not_row (by decide) hrow6;have hbs:=hS6.below.size;clear hP;replace hv1:=vH hv1;replace hv3:=vH hv3)
         |(at_builtin;go_loud (refine wpList_append_own_at _ rfl _ _ 65 rfl w0.heap.size 55 i0 _ 1 24 underlying65 hi0 hz0 hz1 hz2 rfl (by decide) _ k (vs.map SlV.v) rfl (hrow6.alloc _) ⟨W6.heap.size,0,none⟩ 1 1 [.slice s.a s.n s.c] rfl rfl (zo _ _ _ _ rfl) (by simp[Value.oneCell']) (by unfold maxLen;omega) (by omega) (by simp;omega) ?_;intro v' W7 hown7 hgrow _ hblk;obtain⟨g',cap',rfl⟩:=ownsRow_succ hown7;have hT7:=(hS6.chk.alloc (.cells #[.slice s.a s.n s.c] 55)).kept hgrow hnr;have f7:=hT7.frozen 10;have c7:=hT7.cell (j:=10) (v:=.slice cV.a cV.n cV.c) rfl)))
        have hG:=jc (v:=.slice cV.a cV.n cV.c) hS6.chk (j:=10) rfl (by decide) hS6.base (kB _ _) hrow6 hown7 hgrow hblk
        have hSn:=hS6.grown (c':=⟨⟨mn,rg,⟨some ⟨b,o,none⟩,kn,kc⟩,op,ar,rs,sv,sl⟩,nV,pV,⟨some ⟨g',0,none⟩,k+1,cap'⟩,oV,aV,r⟩) hG rfl rfl rfl (by decide) (by decide) (by decide)
        refine⟨⟨k+1,⟨some ⟨g',0,none⟩,k+1,cap'⟩,by omega,by go_num,hSn,⟨vs++[s],?_,?_,?_⟩,hg⟩,by simp[intOf];omega⟩
        ·rw[hlist.out,kA,kA,hv1.out];rfl
        ·rw[hlist.out,kA,hlk.out,kM];exact hG.row
        ·intro i v l hv hl
         rw[hlist.out] at hl
         by_cases hi:i<k
         ·rw[List.getElem?_append_left (by rw[hv1.out,hlk.out];exact hi)] at hv
          rw[List.getElem?_append_left (by rw[hlk.out];exact hi)] at hl
          obtain⟨h1,h2,h3⟩:=hv3.out i v l hv hl
          exact⟨h1.grown hG hS6.chk (by decide) (by decide),h2,h3⟩
         ·rw[kR (by rw[hv1.out,hlk.out];omega),hv1.out,hlk.out] at hv
          rw[kR (by rw[hlk.out];omega),hlk.out] at hl
          have hi0:i-k=0:=by
           have:=(vS.1 hl).1
           simp at this;omega
          rw[hi0] at hv hl
          cases hv
          cases hl
          exact⟨hI6.grown hG hS6.chk (by decide) (by decide),hs64,hvn⟩
   ·obtain rfl:k=kn:=by omega
    have hfin:Qp w0 C (fun cV=>⟨⟨mn,rg,⟨ka,k,kc⟩,op,ar,rs,sv,sl⟩,nV,pV,cV,oV,aV,r⟩) ns ps cs (.returned (.int .i64 0)) wr:=by
     have h0:qy qj ns ps cs=0:=by
      rw[hr.out,hT.out,List.drop_eq_nil_of_le (by have:=hkn'.out;omega)];rfl
     refine⟨qI h0.symm,hBr,fun _=>⟨cV,hS,?_⟩⟩
     rw[List.take_of_length_le (by have:=hkn'.out;omega)] at hL
     exact hL
    replace hfin:=vH hfin
    clear hS hL hK2
    go_wp2_with fail
    go_ret
    exact hfin.out
theorem qdP[Inhabited zH](C:Nat)(c:CV)(ns:List ByteArray)(ps:List Plc)(w0:World)(o:OpD)(u kk:SlV)(w:World)(hu:zY w u o.uses)(hub:u.n<4611686018427387904)(hS:St w0 w C c ns ps)(hkk:qG w kk o.clob)(hf:o.uses.length=zk o.name)(ht:jd o=true)(hbad:(zx ns o.clob 64 && !qW [] (qh ns o.clob))=false) :
 Calls prog 116 #[.pointer (some ⟨C,0,none⟩),.agg #[.string o.name,.string o.d.cls,.string o.d.fix,.slice u.a u.n u.c,.int .i64 o.tie,.slice kk.a kk.n kk.c]] w (yz w):=by
 obtain⟨nm,⟨dc,df⟩,us,tie,cl⟩:=o
 obtain⟨ua,un,uc⟩:=u
 obtain⟨ka,kn,kc⟩:=kk
 have hun:=hu.1
 dsimp only at hun hf hu hub hbad ⊢
 have hb0:BX w (w.alloc (.cells #[.string nm,.string dc,.string df,.slice ua un uc,.int .i64 tie,.slice ka kn kc] 47)):=qi
 have hb1:BX w ((w.alloc (.cells #[.string nm,.string dc,.string df,.slice ua un uc,.int .i64 tie,.slice ka kn kc] 47)).alloc (.cells #[.slice none 0 0,.slice none 0 0,.int .i64 0,.slice none 0 0] 155)):=hb0.alloc (by simp) _
 have Ka:∀W,Calls prog 113 #[.string nm] W fun e w'=>e = .returned (.int .i64 un)/\W=w':=fun W=>(Qs nm W).mono fun e w' ⟨he,hw⟩=>⟨by rw[he];exact qI (by omega),hw⟩
 have Kt:∀W,BX w W->Calls prog 153 #[.agg #[.string nm,.string dc,.string df,.slice ua un uc,.int .i64 tie,.slice ka kn kc]] W fun e w'=>e = .returned (.bool true)/\BX W w':=fun W hb=>by
  have:=Qj ⟨nm,⟨dc,df⟩,us,tie,cl⟩ ⟨ua,un,uc⟩ ⟨ka,kn,kc⟩ W (hu.below hb) hub
  rw[ht] at this;exact this
 have hR0:qd ((w.alloc (.cells #[.string nm,.string dc,.string df,.slice ua un uc,.int .i64 tie,.slice ka kn kc] 47)).alloc (.cells #[.slice none 0 0,.slice none 0 0,.int .i64 0,.slice none 0 0] 155)) (w.heap.size+1) 155 #[.slice none 0 0,.slice none 0 0,.int .i64 0,.slice none 0 0]:=by
  have h0:=qd.new (w.alloc (.cells #[.string nm,.string dc,.string df,.slice ua un uc,.int .i64 tie,.slice ka kn kc] 47)) 155 #[.slice none 0 0,.slice none 0 0,.int .i64 0,.slice none 0 0]
  rw[vZ] at h0;exact h0
 replace hR0:=vH hR0
 have Kg:∀W,BX w W->Calls prog 110 #[.pointer (some ⟨C,0,none⟩),.slice ka kn kc,.int .i64 64] W fun e w'=>∃s:SlV,e = .returned (.tuple #[.slice s.a s.n s.c,.bool (zx ns cl 64)])/\BX W w'/\(zx ns cl 64=true->qN w' s (qh ns cl)):=fun W hb=>
  (Zj C _ ns ⟨ka,kn,kc⟩ cl 64 W (by decide) (by decide) (hS.step hb).chk (hS.step hb).namesAt (hkk.below hb)).mono fun e w' ⟨s,he,hbl,hown⟩=>by
    refine⟨s,by rw[he];rfl,hbl,fun hok=>?_⟩
    have hok2:cl.length<=64/\(qh ns cl).contains (-1)=false:=by unfold zx at hok;simpa using hok
    have:=hown (by have:=hok2.1;omega)
    have el:cl.length=(qh ns cl).length:=by simp[qh]
    rw[el] at this
    exact qm this (vO _)
 have Kw:∀W s,zx ns cl 64=true->qN W s (qh ns cl)->Calls prog 111 #[.slice s.a s.n s.c] W fun e w'=>e = .returned (.bool true)/\W=w':=fun W s hok hI=>by
  have hok2:cl.length<=64/\(qh ns cl).contains (-1)=false:=by unfold zx at hok;simpa using hok
  have:=XL s _ W hI.at_ (by have:=hI.len;have:=hok2.1;simp[qh] at *;omega)
  rw[show qW [] (qh ns cl)=true by rw[hok] at hbad;simpa using hbad] at this;exact this
 clear hun hf ht hu hS hkk
 go_enter func116,ntmps116
 go_wp2_with fail
 go_region_held3 (fun w'=>w'.cell? ⟨w.heap.size,0,none⟩=some (.string nm)/\w'.cell? ⟨w.heap.size,1,none⟩=some (.string dc)/\w'.cell? ⟨w.heap.size,2,none⟩=some (.string df)/\w'.cell? ⟨w.heap.size,3,none⟩=some (.slice ua un uc)/\w'.cell? ⟨w.heap.size,4,none⟩=some (.int .i64 tie)/\w'.cell? ⟨w.heap.size,5,none⟩=some (.slice ka kn kc))
  (go_keep)
  ((first
    |(go_at_call 113;refine(Ka _).mono ?_;clear Ka;rintro e W1 ⟨rfl,rfl⟩)
    |(go_at_call 153;refine(Kt _ hb1.drew).mono ?_;clear Kt;rintro e W1 ⟨rfl,hbt⟩;have hA1:=hb1.drew.trans (hbt.mono (by simp;omega));have k0:W1.cell? ⟨w.heap.size,0,none⟩=some (.string nm):=qs hbt;have k1:W1.cell? ⟨w.heap.size,1,none⟩=some (.string dc):=qs hbt;have k2:W1.cell? ⟨w.heap.size,2,none⟩=some (.string df):=qs hbt;have k3:W1.cell? ⟨w.heap.size,3,none⟩=some (.slice ua un uc):=qs hbt;have k4:W1.cell? ⟨w.heap.size,4,none⟩=some (.int .i64 tie):=qs hbt;have k5:W1.cell? ⟨w.heap.size,5,none⟩=some (.slice ka kn kc):=qs hbt)))
 cases hrk:zx ns cl 64 with
 |false=>
  rw[hrk] at Kg
  clear Kw hbad hrk
  go_wp2_with (go_at_call 110;refine(Kg _ hA1).mono ?_;clear Kg;rintro e W2 ⟨kv,rfl,hb2,_⟩;have hA2:=hA1.trans (hb2.mono hA1.size);have hR2:qd W2 (w.heap.size+1) 155 #[.slice none 0 0,.slice none 0 0,.int .i64 0,.slice none 0 0]:=((qd.drew hR0.out).below hbt (by simp)).below hb2 (by have:=hbt.size;simp at this;omega);have q0:=hR2.cell (j:=0) (v:=.slice none 0 0) rfl;have q1:=hR2.cell (j:=1) (v:=.slice none 0 0) rfl;have q2:=hR2.cell (j:=2) (v:=.int .i64 0) rfl;have q3:=hR2.cell (j:=3) (v:=.slice none 0 0) rfl;have g0:=hR2.frozen 0;have g1:=hR2.frozen 1;have g2:=hR2.frozen 2;have g3:=hR2.frozen 3)
  have hP:yz w (.returned (.tuple #[.agg #[.slice none 0 0,.slice none 0 0,.int .i64 0,.slice none 0 0],.bool false])) ((((W2.setCell ⟨w.heap.size+1,0,none⟩ (.slice none 0 0)).setCell ⟨w.heap.size+1,1,none⟩ (.slice none 0 0)).setCell ⟨w.heap.size+1,2,none⟩ (.int .i64 0)).setCell ⟨w.heap.size+1,3,none⟩ (.slice none 0 0)):=⟨rfl,xQ hA2 (by omega) _ _ _ _⟩
  have hC:=ZG hR2 (.slice none 0 0) (.slice none 0 0) (.int .i64 0) (.slice none 0 0)
  generalize((((W2.setCell ⟨w.heap.size+1,0,none⟩ (.slice none 0 0)).setCell ⟨w.heap.size+1,1,none⟩ (.slice none 0 0)).setCell ⟨w.heap.size+1,2,none⟩ (.int .i64 0)).setCell ⟨w.heap.size+1,3,none⟩ (.slice none 0 0))=Wf at hP hC ⊢
  have z0:=hC.cell (j:=0) (v:=.slice none 0 0) rfl
  have z1:=hC.cell (j:=1) (v:=.slice none 0 0) rfl
  have z2:=hC.cell (j:=2) (v:=.int .i64 0) rfl
  have z3:=hC.cell (j:=3) (v:=.slice none 0 0) rfl
  exact bodyPost_ret (v:=.tuple #[.agg #[.slice none 0 0,.slice none 0 0,.int .i64 0,.slice none 0 0],.bool false]) (by simp[results,results116,go_sem,z0,z1,z2,z3]) rfl hP
 |true=>
  rw[hrk] at Kg
  have Kw':=fun W s=>Kw W s hrk
  clear Kw hbad hrk
  go_wp2_with (first
   |(go_at_call 110;refine(Kg _ hA1).mono ?_;clear Kg;rintro e W2 ⟨kv,rfl,hb2,hI2⟩;have hA2:=hA1.trans (hb2.mono hA1.size);have hR2:qd W2 (w.heap.size+1) 155 #[.slice none 0 0,.slice none 0 0,.int .i64 0,.slice none 0 0]:=((qd.drew hR0.out).below hbt (by simp)).below hb2 (by have:=hbt.size;simp at this;omega);have q0:=hR2.cell (j:=0) (v:=.slice none 0 0) rfl;have q1:=hR2.cell (j:=1) (v:=.slice none 0 0) rfl;have q2:=hR2.cell (j:=2) (v:=.int .i64 0) rfl;have q3:=hR2.cell (j:=3) (v:=.slice none 0 0) rfl;have g0:=hR2.frozen 0;have g1:=hR2.frozen 1;have g2:=hR2.frozen 2;have g3:=hR2.frozen 3;have Kw2:=Kw' _ _ (hI2 rfl);clear Kw')
   |(go_at_call 111;refine Kw2.mono ?_;clear Kw2;rintro e W3 ⟨rfl,rfl⟩))
  have hP:yz w (.returned (.tuple #[.agg #[.slice none 0 0,.slice none 0 0,.int .i64 0,.slice none 0 0],.bool false])) ((((W2.setCell ⟨w.heap.size+1,0,none⟩ (.slice none 0 0)).setCell ⟨w.heap.size+1,1,none⟩ (.slice none 0 0)).setCell ⟨w.heap.size+1,2,none⟩ (.int .i64 0)).setCell ⟨w.heap.size+1,3,none⟩ (.slice none 0 0)):=⟨rfl,xQ hA2 (by omega) _ _ _ _⟩
  have hC:=ZG hR2 (.slice none 0 0) (.slice none 0 0) (.int .i64 0) (.slice none 0 0)
  generalize((((W2.setCell ⟨w.heap.size+1,0,none⟩ (.slice none 0 0)).setCell ⟨w.heap.size+1,1,none⟩ (.slice none 0 0)).setCell ⟨w.heap.size+1,2,none⟩ (.int .i64 0)).setCell ⟨w.heap.size+1,3,none⟩ (.slice none 0 0))=Wf at hP hC ⊢
  have z0:=hC.cell (j:=0) (v:=.slice none 0 0) rfl
  have z1:=hC.cell (j:=1) (v:=.slice none 0 0) rfl
  have z2:=hC.cell (j:=2) (v:=.int .i64 0) rfl
  have z3:=hC.cell (j:=3) (v:=.slice none 0 0) rfl
  exact bodyPost_ret (v:=.tuple #[.agg #[.slice none 0 0,.slice none 0 0,.int .i64 0,.slice none 0 0],.bool false]) (by simp[results,results116,go_sem,z0,z1,z2,z3]) rfl hP
theorem KJ{P:Program}{w:World}(t ty e:TypeId)(i:TypeInfo)(z:Value)(ht:P.underlying t=some (.slice e))(hi:P.info? e=some i)(hz:i.zero=some z)(a:Option Addr)(n c:Nat)(hn:n<=c)(h0:a=none->n=0/\c=0)(h63:(n:Int)<=9223372036854775807) :
 (Builtin.append_ #[t,t] ty #[.slice a n c,.slice none 0 0]).run P w = .ok (.slice a n c) w:=by
 cases a with
 |none=>
  obtain⟨rfl,rfl⟩:=h0 rfl
  simp[Builtin.append_,run_underlying ht,sizeOf,typeInfo,zeroValue,hi,hz,Builtin.lenOf,Builtin.firstCells]
 | some a=>simp[Builtin.append_,run_underlying ht,sizeOf,typeInfo,zeroValue,hi,hz,Builtin.lenOf,hn,Question.forced,run_firstCells_none,storeCells]
theorem Qz{P:Program}{w:World}{ops:Array Oper}{rest:List Oper}{o:Oper}{a:Act}{Q:Exit->Act->World->Prop}(hgd:o.guard=none)(s x:Operand)(t:TypeId)
 (ho:o.op = .call { callee:=.builtin .append,args:=#[s,x],argTypes:=#[t,t] })
 (e:TypeId) (i:TypeInfo) (z:Value) (ht:P.underlying t=some (.slice e)) (hi:P.info? e=some i) (hz:i.zero=some z)
 (b:Option Addr) (n c:Nat) (hs:a.eval s = .slice b n c) (hx:a.eval x = .slice none 0 0) (hn:n<=c) (h0:b=none->n=0/\c=0) (h63:(n:Int)<=9223372036854775807)
 (h:wpList P ops Q rest (a.put o.dst (.slice b n c)) w):wpList P ops Q (o::rest) a w:=by
 refine wpList_plain hgd fun K hK=>?_
 have hr:=KJ (P:=P) (w:=w) t o.type e i z ht hi hz b n c hn h0 h63
 unfold Oper.wp execOp
 simp only[ho,resolve,invoke,builtin,Sem.run_bind,Sem.run_pure,Result.andThen_ok,List.map_toArray,List.map_cons,List.map_nil,hs,hx,hr]
 exact hK _ _ h
def QA(w:World)(e:Ending)(w':World):Prop:=
 ∃ (dv uv kv:SlV) (tie:Int),e = .returned (.tuple #[.agg #[.slice dv.a dv.n dv.c,.slice uv.a uv.n uv.c,.int .i64 tie,.slice kv.a kv.n kv.c],.bool false])/\BX w w'
theorem qbv[Inhabited zH](C:Nat)(c:CV)(ns:List ByteArray)(ps:List Plc)(cs:List qp)(o:OpD)(u kk:SlV)(w0 w:World)(hS:St w0 w C c ns ps)(hK:qS w0 c.m.classes cs)(hkb:c.m.classes.n<=64)(hL:zC w0 w c.classes (qr ns cs))(hnum:∀l,l∈qr ns cs->∀x,x∈l->Num ps x)
 (hu:zY w u o.uses) (hkk:qG w kk o.clob) (hf1:o.uses.length=zk o.name) (hf2:jd o=true) (hf3:zx ns o.clob 64=true) (hf4:qW [] (qh ns o.clob)=false) (hbad:(((o.uses.all fun u=>!decide (ql ns cs u = [])) && !decide (ql ns cs o.d = []))&&xJ ps (ql ns cs o.d++(o.uses.map (ql ns cs)).flatten))=false) (hub:o.uses.length<=2) :
 Calls prog 116 #[.pointer (some ⟨C,0,none⟩),.agg #[.string o.name,.string o.d.cls,.string o.d.fix,.slice u.a u.n u.c,.int .i64 o.tie,.slice kk.a kk.n kk.c]] w (QA w):=by
 obtain⟨nm,⟨dc,df⟩,us,tie,cl⟩:=o
 obtain⟨ua,un,uc⟩:=u
 obtain⟨ka,kn,kc⟩:=kk
 have hun:=hu.1
 have huc:=hu.2.1
 dsimp only at hun huc hf1 hf2 hf3 hf4 hbad hu hub ⊢
 have hb0:BX w (w.alloc (.cells #[.string nm,.string dc,.string df,.slice ua un uc,.int .i64 tie,.slice ka kn kc] 47)):=qi
 have hb1:BX w ((w.alloc (.cells #[.string nm,.string dc,.string df,.slice ua un uc,.int .i64 tie,.slice ka kn kc] 47)).alloc (.cells #[.slice none 0 0,.slice none 0 0,.int .i64 0,.slice none 0 0] 155)):=hb0.alloc (by simp) _
 have Ka:∀W,Calls prog 113 #[.string nm] W fun e w'=>e = .returned (.int .i64 un)/\W=w':=fun W=>(Qs nm W).mono fun e w' ⟨he,hw⟩=>⟨by rw[he];exact qI (by omega),hw⟩
 have Kt:∀W,BX w W->Calls prog 153 #[.agg #[.string nm,.string dc,.string df,.slice ua un uc,.int .i64 tie,.slice ka kn kc]] W fun e w'=>e = .returned (.bool true)/\BX W w':=fun W hb=>by
  have:=Qj ⟨nm,⟨dc,df⟩,us,tie,cl⟩ ⟨ua,un,uc⟩ ⟨ka,kn,kc⟩ W (hu.below hb) (by show un<_;omega)
  rw[hf2] at this;exact this
 have hok2:cl.length<=64/\(qh ns cl).contains (-1)=false:=by unfold zx at hf3;simpa using hf3
 have Kg:∀W,BX w W->Calls prog 110 #[.pointer (some ⟨C,0,none⟩),.slice ka kn kc,.int .i64 64] W fun e w'=>∃s:SlV,e = .returned (.tuple #[.slice s.a s.n s.c,.bool true])/\BX W w'/\qN w' s (qh ns cl):=fun W hb=>
  (Zj C _ ns ⟨ka,kn,kc⟩ cl 64 W (by decide) (by decide) (hS.step hb).chk (hS.step hb).namesAt (hkk.below hb)).mono fun e w' ⟨s,he,hbl,hown⟩=>by
    refine⟨s,by rw[he,show(64:Int).toNat=64 from rfl,hf3],hbl,?_⟩
    have:=hown (by have:=hok2.1;omega)
    have el:cl.length=(qh ns cl).length:=by simp[qh]
    rw[el] at this
    exact qm this (vO _)
 have Kw:∀W s,qN W s (qh ns cl)->Calls prog 111 #[.slice s.a s.n s.c] W fun e w'=>e = .returned (.bool false)/\W=w':=fun W s hI=>by
  have:=XL s _ W hI.at_ (by have:=hI.len;have:=hok2.1;simp[qh] at *;omega)
  rw[hf4] at this;exact this
 have Kc:∀ (oo:zL) W,BX w W->Calls prog 154 #[.pointer (some ⟨C,0,none⟩),.agg #[.string oo.cls,.string oo.fix]] W (Js w W (ql ns cs oo)):=fun oo W hb=>
  qaz C c ns cs oo w W (hS.step hb).chk (hS.step hb).namesAt (hK.below (hS.step hb).below) hkb hL.lists hb
 have hS':=vH hS
 replace hun:=vH hun
 clear hS hK hL hf1 hf2 hf3 hf4 hkk
 go_enter func116,ntmps116
 go_wp2_with fail
 go_region_held3 (fun w'=>w'.cell? ⟨w.heap.size,0,none⟩=some (.string nm)/\w'.cell? ⟨w.heap.size,1,none⟩=some (.string dc)/\w'.cell? ⟨w.heap.size,2,none⟩=some (.string df)/\w'.cell? ⟨w.heap.size,3,none⟩=some (.slice ua un uc)/\w'.cell? ⟨w.heap.size,4,none⟩=some (.int .i64 tie)/\w'.cell? ⟨w.heap.size,5,none⟩=some (.slice ka kn kc))
  (go_keep)
  ((first
    |(go_at_call 113;refine(Ka _).mono ?_;clear Ka;rintro e W1 ⟨rfl,rfl⟩)
    |(go_at_call 153;refine(Kt _ hb1.drew).mono ?_;clear Kt;rintro e W1 ⟨rfl,hbt⟩;have hA1:=hb1.drew.trans (hbt.mono (by simp;omega));have k0:W1.cell? ⟨w.heap.size,0,none⟩=some (.string nm):=qs hbt;have k1:W1.cell? ⟨w.heap.size,1,none⟩=some (.string dc):=qs hbt;have k2:W1.cell? ⟨w.heap.size,2,none⟩=some (.string df):=qs hbt;have k3:W1.cell? ⟨w.heap.size,3,none⟩=some (.slice ua un uc):=qs hbt;have k4:W1.cell? ⟨w.heap.size,4,none⟩=some (.int .i64 tie):=qs hbt;have k5:W1.cell? ⟨w.heap.size,5,none⟩=some (.slice ka kn kc):=qs hbt)))
 go_wp2_with (first
  |(go_at_call 110;refine(Kg _ hA1).mono ?_;clear Kg;rintro e W2 ⟨kv,rfl,hb2,hI2⟩;have hA2:=hA1.trans (hb2.mono hA1.size);have m0:=qb hb2 k0;have m1:=qb hb2 k1;have m2:=qb hb2 k2;have m3:=qb hb2 k3;have m4:=qb hb2 k4;clear k0 k1 k2 k3 k4 k5;have Kw':=Kw _ _ hI2)
  |(go_at_call 111;refine Kw'.mono ?_;clear Kw';rintro e W3 ⟨rfl,rfl⟩))
 have hsz2:w.heap.size+2<=W2.heap.size:=by
  have h1:=hbt.size
  have h2:=hb2.size
  simp at h1;omega
 have hBx2:qd W2 w.heap.size 47 #[.string nm,.string dc,.string df,.slice ua un uc,.int .i64 tie,.slice ka kn kc]:=by
  have h0:=(qd.new w 47 #[.string nm,.string dc,.string df,.slice ua un uc,.int .i64 tie,.slice ka kn kc]).alloc (.cells #[.slice none 0 0,.slice none 0 0,.int .i64 0,.slice none 0 0] 155)
  exact(((qd.drew h0).below hbt (by simp;omega)).below hb2 (by have:=hbt.size;simp at this;omega))
 have hRs2:qd W2 (w.heap.size+1) 155 #[.slice none 0 0,.slice none 0 0,.int .i64 0,.slice none 0 0]:=by
  have h0:=qd.new (w.alloc (.cells #[.string nm,.string dc,.string df,.slice ua un uc,.int .i64 tie,.slice ka kn kc] 47)) 155 #[.slice none 0 0,.slice none 0 0,.int .i64 0,.slice none 0 0]
  rw[vZ] at h0
  exact(((qd.drew h0).below hbt (by simp)).below hb2 (by have:=hbt.size;simp at this;omega))
 have nb:W2.heap.size≠w.heap.size:=by omega
 have nb1:W2.heap.size≠w.heap.size+1:=by omega
 go_region_held3 (fun w'=>w'.cell? ⟨w.heap.size,1,none⟩=some (.string dc)/\w'.cell? ⟨w.heap.size,2,none⟩=some (.string df)/\w'.cell? ⟨w.heap.size,4,none⟩=some (.int .i64 tie))
  (go_keep)
  ((go_at_call 154;refine(Kc ⟨dc,df⟩ _ (by first|exact hA2.drew|exact(hA2.drew).alloc (by have:=hA2.size;simp;omega) _)).mono ?_;rintro e W4 ⟨dv,rfl,hb4,hI4,hd4,hz4,ha4⟩;obtain⟨hc4,hf4⟩:=yR hb4;have hs4:=hb4.size;have k1:W4.cell? ⟨w.heap.size,1,none⟩=some (.string dc):=qs hb4;have k2:W4.cell? ⟨w.heap.size,2,none⟩=some (.string df):=qs hb4;have k4:W4.cell? ⟨w.heap.size,4,none⟩=some (.int .i64 tie):=qs hb4))
 all_goals
  first
   |(have hFr:Kx w (W4.alloc (.cells #[.slice dv.a dv.n dv.c,.slice none 0 0,.int .i64 tie,.slice kv.a kv.n kv.c] 155)) W4.heap.size #[.string nm,.string dc,.string df,.slice ua un uc,.int .i64 tie,.slice ka kn kc] dv ⟨none,0,0⟩ kv tie (ql ns cs ⟨dc,df⟩) (qh ns cl):=by
      have hbA:BX W2 W4:=((kB W2.heap.size W2).drew).trans hb4
      have hal:BX W4 (W4.alloc (.cells #[.slice dv.a dv.n dv.c,.slice none 0 0,.int .i64 tie,.slice kv.a kv.n kv.c] 155)):=qi
      exact⟨(hA2.trans (hbA.mono hA2.size)).trans (hal.mono (vR hA2.size hbA.size)),vR hsz2 hbA.size,(hBx2.below hbA hBx2.lt).below hal (vW hBx2.lt hbA.size),(hRs2.below hbA hRs2.lt).below hal (vW hRs2.lt hbA.size),qd.new W4 _ _,hI4.below hal,(hI2.below hbA).below hal⟩
     clear hb4 hI4 ha4 k1 k2 k4 hc4 hf4 hs4
     generalize W4.alloc (.cells #[.slice dv.a dv.n dv.c,.slice none 0 0,.int .i64 tie,.slice kv.a kv.n kv.c] 155)=W5 at hFr ⊢
     generalize W4.heap.size=R at hFr ⊢)
   |(have hFr:Kx w ((((W4.setCell ⟨W2.heap.size,0,none⟩ (.slice dv.a dv.n dv.c)).setCell ⟨W2.heap.size,1,none⟩ (.slice none 0 0)).setCell ⟨W2.heap.size,2,none⟩ (.int .i64 tie)).setCell ⟨W2.heap.size,3,none⟩ (.slice kv.a kv.n kv.c)) W2.heap.size #[.string nm,.string dc,.string df,.slice ua un uc,.int .i64 tie,.slice ka kn kc] dv ⟨none,0,0⟩ kv tie (ql ns cs ⟨dc,df⟩) (qh ns cl):=by
      have hbB:BX W2 W4:=(((kB W2.heap.size W2).drew).alloc (vL _) _).trans (hb4.mono (by simp))
      have hn:=(qd.new W2.drew 155 #[.slice none 0 0,.slice none 0 0,.int .i64 0,.slice none 0 0]).below hb4 (by simp)
      exact⟨xQ (hA2.trans (hbB.mono hA2.size)) hA2.size _ _ _ _,hsz2,yN (hBx2.below hbB hBx2.lt) nb.symm _ _ _ _,yN (hRs2.below hbB hRs2.lt) nb1.symm _ _ _ _,ZG hn _ _ _ _,jo hn _ _ _ _ hI4 (by decide),jo hn _ _ _ _ (hI2.below hbB) (by decide)⟩
     clear hb4 hI4 ha4 k1 k2 k4 hc4 hf4 hs4
     generalize((((W4.setCell ⟨W2.heap.size,0,none⟩ (.slice dv.a dv.n dv.c)).setCell ⟨W2.heap.size,1,none⟩ (.slice none 0 0)).setCell ⟨W2.heap.size,2,none⟩ (.int .i64 tie)).setCell ⟨W2.heap.size,3,none⟩ (.slice kv.a kv.n kv.c))=W5 at hFr ⊢
     generalize W2.heap.size=R at hFr ⊢)
  have Kcl:=Ys dv _ W5 hFr.d.at_ (by have:=hFr.d.len;omega) hz4
  have d0:=hFr.read.cell (j:=0) (v:=.slice dv.a dv.n dv.c) rfl
  clear nb nb1 hsz2 hBx2 hRs2 hA1 hA2 hbt hb2 hI2 m0 m1 m2 m3 m4 Kw hb0 hb1
  go_wp2_with (go_at_call 155;refine Kcl.mono ?_;clear Kcl;rintro e W6 ⟨wd,rfl,hwd,hb6⟩;have hF6:=hFr.step hb6;have bx3:=hF6.box.cell (j:=3) (v:=.slice ua un uc) rfl)
  have hU6:yi w W6 ⟨none,0,0⟩ wd dv kv [] (ql ns cs ⟨dc,df⟩) []:=⟨rfl,kO _ _ _ _,fun i v l hv _=>by simp at hv,qm hwd hFr.below.size,jY.fresh hFr.d (fun b hb=>(qf hwd hb).1),jY.fresh hFr.k (fun b hb=>(qf hwd hb).1)⟩
  clear hwd d0 hb6 bx3
  have hFr2:=vH hF6
  replace hU6:=vH hU6
  clear hFr hF6
  have un0:(0:Int)<=un:=vN _
  go_loopw [54,9,7] (fun i s9 s7 wr=>∃ (k:Nat) (uv wd:SlV) (vs:List SlV),k<=un/\i = .int .i64 k/\s9 = .slice wd.a wd.n wd.c/\s7 = .bool ((us.take k).all fun u=>!decide (ql ns cs u = []))/\Kx w wr R #[.string nm,.string dc,.string df,.slice ua un uc,.int .i64 tie,.slice ka kn kc] dv uv kv tie (ql ns cs ⟨dc,df⟩) (qh ns cl) /\
   yi w wr uv wd dv kv ((us.take k).map (ql ns cs)) (ql ns cs ⟨dc,df⟩++((us.take k).map (ql ns cs)).flatten) vs) (fun i _ _ _=>un-(intOf i).toNat)
  case atStart=>exact⟨0,⟨none,0,0⟩,wd,[],vO _,rfl,rfl,rfl,hFr2.out,by simpa using hU6.out⟩
  case round=>
   clear hFr2 hU6
   obtain⟨k,uv,wd',vs,hk,rfl,rfl,rfl,hF,hU⟩:=hrel
   have k0:(0:Int)<=k:=vN _
   by_cases hlt:k<un
   ·have hku:k<us.length:=by have:=hun.out;omega
    obtain⟨x,hx⟩:∃x,us[k]?=some x:=⟨us[k],vE hku⟩
    obtain⟨b,of,rfl,x0,x1⟩:=hu.2.2 k x hx
    replace x0:=qb hF.below x0
    replace x1:=qb hF.below x1
    have k1:(k:Int)<un:=by omega
    have hi:IntKind.i64.wrap ((k:Int)+1)=k+1:=vI _ (by omega)
    have hall:Hid (((us.take (k+1)).all fun u=>!decide (ql ns cs u = []))=(((us.take k).all fun u=>!decide (ql ns cs u = [])) && !decide (ql ns cs x = []))):=vH (by rw[vX,hx,List.all_append];simp)
    have hbal:BX wr (wr.alloc (.cells #[.string x.cls,.string x.fix] 44)):=qi
    have K:=Kc x (wr.alloc (.cells #[.string x.cls,.string x.fix] 44)) (hF.below.trans (hbal.mono hF.below.size))
    have htake:Hid ((us.take (k+1)).map (ql ns cs)=(us.take k).map (ql ns cs)++[ql ns cs x]):=vH (by rw[vX,hx,kM];rfl)
    have hlen:Hid (((us.take k).map (ql ns cs)).length=k):=vH (by rw[vP,List.length_take];omega)
    obtain⟨xc,xf⟩:=x
    dsimp only at x0 x1 K hbal
    generalize ql ns cs ⟨xc,xf⟩=l at K hall htake
    obtain⟨okk,hokk⟩:∃b,((us.take k).all fun u=>!decide (ql ns cs u = []))=b:=⟨_,rfl⟩
    rw[hokk]
    rw[hokk] at hall
    have hF':=vH hF
    have hU':=vH hU
    clear hx hF hU hokk
    obtain⟨i0,hi0,hz0,hz1,hz2⟩:=info_parts qax
    obtain⟨j0,hj0,hj1,hj2,hj3⟩:=info_parts ji
    go_wp2_with fail
    go_at_call 154
    refine K.mono ?_
    clear K
    rintro e W12 ⟨s,rfl,hbc,hIs,hls,hzs,has⟩
    have hbW:BX wr W12:=hbal.trans (hbc.mono (by simp))
    have hF12:=hF'.out.step hbW
    have hU12:=hU'.out.step hbW
    have hap:jY s wd':=fun b' hb' e'=>by
     obtain⟨h1,cur,h2⟩:=qf hU'.out.wrow e'
     have h3:=h2.lt
     rcases has b' hb' with h|h
     ·omega
     ·simp at h;omega
    have hur:=hU12.urow
    rw[hlen.out] at hur
    have hwr:=hU12.wrow
    have hwl1:(ql ns cs ⟨dc,df⟩++((us.take k).map (ql ns cs)).flatten).length<=100000:=by
     have h1:=hU12.flat
     have h2:=hlen.out
     rw[kA];omega
    generalize hwl:ql ns cs ⟨dc,df⟩++((us.take k).map (ql ns cs)).flatten=wl at hU12 hwr hwl1
    have hwlen:=(qJ.of_row hwr rfl).1
    have hwcap:=(qJ.of_row hwr rfl).2.1
    have r1:=hF12.read.cell (j:=1) (v:=.slice uv.a uv.n uv.c) rfl
    have hbs:=hF12.below.size
    have hfinal:∀ (a2:Option Addr) (c2 g1 cap1:Nat) (W14 W15:World),(W12.alloc (.cells #[.slice s.a s.n s.c] 55)).grownBy W14 uv.v.ownBlock->W14.ownsRow w.heap.size 55 1 (.slice (some ⟨g1,0,none⟩) (k+1) cap1) (k+1) (vs.map SlV.v++[s.v]) ->
     W14.grownBy W15 wd'.v.ownBlock->W15.ownsRow w.heap.size 3 1 (.slice a2 (wl.length+l.length) c2) (wl.length+l.length) (wl.map (Value.int .i64)++l.map (Value.int .i64))->((Value.slice a2 (wl.length+l.length) c2).ownBlock=wd'.v.ownBlock∨(Value.slice a2 (wl.length+l.length) c2).ownBlock=some W14.heap.size) ->
     Kx w (W15.setCell ⟨R,1,none⟩ (.slice (some ⟨g1,0,none⟩) (k+1) cap1)) R #[.string nm,.string dc,.string df,.slice (some ⟨b,of,none⟩) un uc,.int .i64 tie,.slice ka kn kc] dv ⟨some ⟨g1,0,none⟩,k+1,cap1⟩ kv tie (ql ns cs ⟨dc,df⟩) (qh ns cl) /\
     yi w (W15.setCell ⟨R,1,none⟩ (.slice (some ⟨g1,0,none⟩) (k+1) cap1)) ⟨some ⟨g1,0,none⟩,k+1,cap1⟩ ⟨a2,wl.length+l.length,c2⟩ dv kv ((us.take (k+1)).map (ql ns cs)) (ql ns cs ⟨dc,df⟩++((us.take (k+1)).map (ql ns cs)).flatten) (vs++[s]):=fun a2 c2 g1 cap1 W14 W15 hgrow1 hown1 hgrow2 hown2 hblk2=>by
     have hst:=qbT (uv':=⟨some ⟨g1,0,none⟩,k+1,cap1⟩) (wd':=⟨a2,wl.length+l.length,c2⟩) (s:=s) hF12 hU12 hIs hls hzs hap hgrow1 (by rw[hlen.out];exact hown1) hgrow2 hown2 hblk2
     refine⟨hst.1,?_⟩
     have h:=hst.2
     rw[htake.out,List.flatten_append,←List.append_assoc,hwl,List.flatten_cons,List.flatten_nil,List.append_nil]
     exact h
    have hcase:(s.a=none/\l = [])∨∃g,s.a=some ⟨g,0,none⟩:=by
     rcases hIs.2 with⟨h1,h2⟩|⟨g,cap,cur,h1,_⟩
     ·unfold SlV.v at h1;injection h1 with ea en ec;exact .inl ⟨ea,vJ.1 h2⟩
     ·unfold SlV.v at h1;injection h1 with ea;exact .inr ⟨g,ea⟩
    have hwd:∀ (W:World),W.ownsRow w.heap.size 3 1 wd'.v wl.length (wl.map (Value.int .i64))->True:=fun _ _=>trivial
    replace hF12:=vH hF12
    replace hU12:=vH hU12
    replace hfinal:=vH hfinal
    replace hap:=vH hap
    replace hall:=vH hall.out
    clear hF' hU' has hbc hbW hbal x0 x1 hwl hwd
    rcases hcase with⟨hsa,rfl⟩|⟨g,hsa⟩
    ·have hsn:=hIs.len
     have hsc:=hzs hsa
     obtain⟨sa,sn,sc⟩:=s
     dsimp only at hsa hsn hsc
     subst hsa hsc
     obtain rfl:sn=0:=by simpa using hsn
     obtain⟨wa,wn,wc⟩:=wd'
     dsimp only at hwlen hwcap
     subst hwlen
     have hwc0:wl.length<=wc:=by omega
     have hwn0:wa=none->wl.length=0/\wc=0:=fun h=>by
      rcases hwr.2 with⟨h1,h2⟩|⟨g,cap,cur,h1,_⟩
      ·unfold SlV.v at h1;injection h1 with _ _ ec;exact⟨h2,ec⟩
      ·unfold SlV.v at h1;injection h1 with ea;rw[h] at ea;cases ea
     clear hsn hzs hIs
     cases okk
     all_goals
      go_wp2_with (first
       |(at_builtin;refine wpList_append_own_at _ rfl _ _ 65 rfl w.heap.size 55 i0 _ 1 24 underlying65 hi0 hz0 hz1 hz2 rfl (by decide) _ k (vs.map SlV.v) rfl (hur.alloc _) ⟨W12.heap.size,0,none⟩ 1 1 [.slice none 0 0] rfl rfl (zo _ _ _ _ rfl) (by simp[Value.oneCell']) (by unfold maxLen;omega) (by omega) (by simp;omega) ?_;intro v1 W14 hown1 hgrow1 _ hblk1;obtain⟨g1,cap1,rfl⟩:=ownsRow_succ hown1;have hR15:=((hF12.out.read.alloc (.cells #[.slice none 0 0] 55)).kept_row (hur.alloc (.cells #[.slice none 0 0] 55)) hgrow1 (by decide));have r15:=hR15.cell (j:=1) (v:=.slice uv.a uv.n uv.c) rfl;have f15:=hR15.frozen 1)
       |(at_builtin;refine Qz rfl _ _ 55 rfl 3 j0 _ underlying55 hj0 hj1 wa wl.length wc rfl rfl hwc0 hwn0 (by omega) ?_))
      refine⟨⟨k+1,⟨some ⟨g1,0,none⟩,k+1,cap1⟩,⟨wa,wl.length,wc⟩,vs++[⟨none,0,0⟩],by omega,by go_num,rfl,by rw[hall.out];simp,?_⟩,by simp[intOf];omega⟩
      have hrow14:=yg (hwr.alloc (.cells #[.slice none 0 0] 55)) (hur.alloc (.cells #[.slice none 0 0] 55)) hgrow1 (by decide)
      exact hfinal.out wa wc g1 cap1 W14 W14 hgrow1 hown1 ⟨rfl,rfl,rfl,vL _,fun _ _ _=>rfl⟩ (by simpa[SlV.v] using hrow14) (.inl rfl)
    ·have hsn:=hIs.len
     obtain⟨sa,sn,sc⟩:=s
     dsimp only at hsa hsn
     subst hsa hsn
     have hI12:=vH hIs
     clear hIs hwlen hwcap
     cases okk
     all_goals
      rcases Classical.em (l = []) with hl0|hl0
      all_goals
       first
        |(have hlpos2:¬ (0:Int)<l.length:=(by rw[hl0];decide))
        |(have hlpos2:(0:Int)<l.length:=(by have:=List.length_pos_iff.2 hl0;omega))
       replace hl0:=vH hl0
       go_wp2_with (first
        |(at_builtin;refine wpList_append_own_at _ rfl _ _ 65 rfl w.heap.size 55 i0 _ 1 24 underlying65 hi0 hz0 hz1 hz2 rfl (by decide) _ k (vs.map SlV.v) rfl (hur.alloc _) ⟨W12.heap.size,0,none⟩ 1 1 [.slice (some ⟨g,0,none⟩) l.length sc] rfl rfl (zo _ _ _ _ rfl) (by simp[Value.oneCell']) (by unfold maxLen;omega) (by omega) (by simp;omega) ?_;intro v1 W14 hown1 hgrow1 _ hblk1;obtain⟨g1,cap1,rfl⟩:=ownsRow_succ hown1;have hwr14:=yg (hwr.alloc (.cells #[.slice (some ⟨g,0,none⟩) l.length sc] 55)) (hur.alloc (.cells #[.slice (some ⟨g,0,none⟩) l.length sc] 55)) hgrow1 (by decide);have hI14:qN W14 ⟨some ⟨g,0,none⟩,l.length,sc⟩ l:=yg (World.ownsRow.alloc hI12.out (.cells #[.slice (some ⟨g,0,none⟩) l.length sc] 55)) (hur.alloc (.cells #[.slice (some ⟨g,0,none⟩) l.length sc] 55)) hgrow1 (by decide);have hz14:=hgrow1.size)
        |(at_builtin;refine wpList_append_own_at _ rfl _ _ 55 rfl w.heap.size 3 j0 _ 1 8 underlying55 hj0 hj1 hj2 hj3 rfl (by decide) wd'.v wl.length (wl.map (Value.int .i64)) rfl hwr14 ⟨g,0,none⟩ l.length sc (l.map (Value.int .i64)) rfl (by simp) (World.ownsRow.cells hI14 rfl) (fun u hu=>by obtain⟨y,_,rfl⟩:=List.mem_map.1 hu;rfl) (by unfold maxLen;omega) (by omega) (by simp at hz14;omega) ?_;intro v2 W15 hown2 hgrow2 _ hblk2;obtain⟨a2,c2,rfl⟩:=qx hown2;have hR15:=((hF12.out.read.alloc (.cells #[.slice (some ⟨g,0,none⟩) l.length sc] 55)).kept_row (hur.alloc (.cells #[.slice (some ⟨g,0,none⟩) l.length sc] 55)) hgrow1 (by decide)).kept_row hwr14 hgrow2 (by decide);have r15:=hR15.cell (j:=1) (v:=.slice uv.a uv.n uv.c) rfl;have f15:=hR15.frozen 1))
       refine⟨⟨k+1,⟨some ⟨g1,0,none⟩,k+1,cap1⟩,⟨a2,wl.length+l.length,c2⟩,vs++[⟨some ⟨g,0,none⟩,l.length,sc⟩],by omega,by go_num,rfl,by rw[hall.out];first|(simp[hl0.out];done)|(simp[hl0.out];omega),?_⟩,by simp[intOf];omega⟩
       exact hfinal.out a2 c2 g1 cap1 W14 W15 hgrow1 hown1 hgrow2 hown2 hblk2
   ·obtain rfl:k=un:=by omega
    have hus:us.take k=us:=List.take_of_length_le (by have:=hun.out;omega)
    rw[hus] at hU ⊢
    have r0:=hF.read.cell (j:=0) (v:=.slice dv.a dv.n dv.c) rfl
    have r1:=hF.read.cell (j:=1) (v:=.slice uv.a uv.n uv.c) rfl
    have r2:=hF.read.cell (j:=2) (v:=.int .i64 tie) rfl
    have r3:=hF.read.cell (j:=3) (v:=.slice kv.a kv.n kv.c) rfl
    have q0:=hF.res.cell (j:=0) (v:=.slice none 0 0) rfl
    have q1:=hF.res.cell (j:=1) (v:=.slice none 0 0) rfl
    have q2:=hF.res.cell (j:=2) (v:=.int .i64 0) rfl
    have q3:=hF.res.cell (j:=3) (v:=.slice none 0 0) rfl
    have g0:=hF.res.frozen 0
    have g1:=hF.res.frozen 1
    have g2:=hF.res.frozen 2
    have g3:=hF.res.frozen 3
    have nR:w.heap.size+1≠R:=by have:=hF.far;omega
    have hlt1:=hF.res.lt
    have hdn:=hF.d.len
    have hF':=vH hF
    have hU':=vH hU
    have hdn':=vH hdn
    clear hF hU hus hdn
    obtain⟨okk,hokk⟩:∃b,(us.all fun u=>!decide (ql ns cs u = []))=b:=⟨_,rfl⟩
    rw[hokk] at hbad ⊢
    clear hokk
    have hend:∀ (W:World),BX wr W->qd ((((W.setCell ⟨w.heap.size+1,0,none⟩ (.slice dv.a dv.n dv.c)).setCell ⟨w.heap.size+1,1,none⟩ (.slice uv.a uv.n uv.c)).setCell ⟨w.heap.size+1,2,none⟩ (.int .i64 tie)).setCell ⟨w.heap.size+1,3,none⟩ (.slice kv.a kv.n kv.c)) (w.heap.size+1) 155 #[.slice dv.a dv.n dv.c,.slice uv.a uv.n uv.c,.int .i64 tie,.slice kv.a kv.n kv.c]/\QA w (.returned (.tuple #[.agg #[.slice dv.a dv.n dv.c,.slice uv.a uv.n uv.c,.int .i64 tie,.slice kv.a kv.n kv.c],.bool false])) ((((W.setCell ⟨w.heap.size+1,0,none⟩ (.slice dv.a dv.n dv.c)).setCell ⟨w.heap.size+1,1,none⟩ (.slice uv.a uv.n uv.c)).setCell ⟨w.heap.size+1,2,none⟩ (.int .i64 tie)).setCell ⟨w.heap.size+1,3,none⟩ (.slice kv.a kv.n kv.c)):=fun W hW=>by
     have hFW:=hF'.out.step hW
     exact⟨ZG hFW.res _ _ _ _,dv,uv,kv,tie,rfl,xQ hFW.below (by omega) _ _ _ _⟩
    replace hend:=vH hend
    cases okk with
    |false=>
     clear hbad hdn'
     go_wp2_with fail
     refine wp_region_held_drew (S:=fun w'=>w'.cell? ⟨R,0,none⟩=some (.slice dv.a dv.n dv.c)/\w'.cell? ⟨R,1,none⟩=some (.slice uv.a uv.n uv.c)/\w'.cell? ⟨R,2,none⟩=some (.int .i64 tie)/\w'.cell? ⟨R,3,none⟩=some (.slice kv.a kv.n kv.c)) (by kernel_rfl) ?_ (fun hH=>?_)
     ·exact⟨r0,r1,r2,r3⟩
     refine tk 0 (some 77) (.agg #[.slice dv.a dv.n dv.c,.slice uv.a uv.n uv.c,.int .i64 tie,.slice kv.a kv.n kv.c]) rfl hH ?_ (fun w hSw=>by(obtain⟨s0,s1,s2,s3⟩:=hSw;go_simp))
     try simp only[Act.put,vK,kZ,kS]
     refine tk 1 (some 78) (.bool false) rfl hH ?_
     try simp only[Act.put,vK,kZ,kS]
     refine tk 2 (some 79) (.bool false) rfl hH ?_
     try simp only[Act.put,vK,kZ,kS]
     refine jw 8 (by kernel_rfl) (fun d _ _ _ h=>by cases d <;> exact h) hH [(3,some 80),(4,some 81),(5,some 82),(6,some 83)] (by kernel_rfl) ?_
     simp only[Xo,Act.put,vK,kS,kZ]
     refine tk 7 (some 84) (.bool false) rfl hH ?_
     try simp only[Act.put,vK,kZ,kS]
     refine tk 8 (some 85) (.bool false) rfl hH ?_
     try simp only[Act.put,vK,kZ,kS]
     refine jw 3 (by kernel_rfl) (fun d _ _ _ h=>by cases d <;> exact h) hH [(9,some 86),(10,some 87),(11,some 88)] (by kernel_rfl) ?_
     simp only[Xo,Act.put,vK,kS,kZ]
     refine tk 12 (some 89) (.bool false) rfl hH ?_
     try simp only[Act.put,vK,kZ,kS]
     refine wpAnyH_ready (rs:=[13]) (by kernel_rfl) (by simp) (AllReadyH.cons rfl (fun K hK=>?_) AllReadyH.nil)
     go_simp
     refine hK.out _ _ ?_ (fun hH2=>?_)
     ·(try dsimp only)
      simp[r0,r1,r2,r3,World.cell?_setCell_far,nR]
     clear hK K
     try simp only[Act.put,vK,kZ,kS]
     refine tk 14 (some 5) (.bool false) rfl hH2 ?_
     try simp only[Act.put,vK,kZ,kS]
     refine wpAnyH_done (by kernel_rfl) ?_ _
     try simp only[Act.put,vK,kZ,kS]
     obtain⟨hCf,hPf⟩:=hend.out wr ((kB _ _))
     generalize((((wr.setCell ⟨w.heap.size+1,0,none⟩ (.slice dv.a dv.n dv.c)).setCell ⟨w.heap.size+1,1,none⟩ (.slice uv.a uv.n uv.c)).setCell ⟨w.heap.size+1,2,none⟩ (.int .i64 tie)).setCell ⟨w.heap.size+1,3,none⟩ (.slice kv.a kv.n kv.c))=Wf at hCf hPf ⊢
     have z0:=(qd.drew hCf).cell (j:=0) (v:=.slice dv.a dv.n dv.c) rfl
     have z1:=(qd.drew hCf).cell (j:=1) (v:=.slice uv.a uv.n uv.c) rfl
     have z2:=(qd.drew hCf).cell (j:=2) (v:=.int .i64 tie) rfl
     have z3:=(qd.drew hCf).cell (j:=3) (v:=.slice kv.a kv.n kv.c) rfl
     have hPd:QA w (.returned (.tuple #[.agg #[.slice dv.a dv.n dv.c,.slice uv.a uv.n uv.c,.int .i64 tie,.slice kv.a kv.n kv.c],.bool false])) Wf.drew:=by
      obtain⟨a1,a2,a3,a4,a5,a6⟩:=hPf
      exact⟨a1,a2,a3,a4,a5,a6.trans ((kB _ _).drew)⟩
     go_wp2_with fail
     exact bodyPost_ret (v:=.tuple #[.agg #[.slice dv.a dv.n dv.c,.slice uv.a uv.n uv.c,.int .i64 tie,.slice kv.a kv.n kv.c],.bool false]) (by simp[results,results116,go_sem,z0,z1,z2,z3]) rfl hPd
    |true=>
     by_cases hd0:ql ns cs ⟨dc,df⟩ = []
     ·have hdz:dv.n=0:=by rw[hdn'.out,hd0];rfl
      have hdz2:=vH hdz
      clear hbad hdn' hd0 hdz
      go_wp2_with fail
      refine wp_region_held_drew (S:=fun w'=>w'.cell? ⟨R,0,none⟩=some (.slice dv.a dv.n dv.c)/\w'.cell? ⟨R,1,none⟩=some (.slice uv.a uv.n uv.c)/\w'.cell? ⟨R,2,none⟩=some (.int .i64 tie)/\w'.cell? ⟨R,3,none⟩=some (.slice kv.a kv.n kv.c)) (by kernel_rfl) ?_ (fun hH=>?_)
      ·exact⟨r0,r1,r2,r3⟩
      refine tk 0 (some 77) (.agg #[.slice dv.a dv.n dv.c,.slice uv.a uv.n uv.c,.int .i64 tie,.slice kv.a kv.n kv.c]) rfl hH ?_ (fun w hSw=>by(obtain⟨s0,s1,s2,s3⟩:=hSw;go_simp))
      try simp only[Act.put,vK,kZ,kS]
      refine tk 1 (some 78) (.bool true) rfl hH ?_
      try simp only[Act.put,vK,kZ,kS]
      refine tk 2 (some 79) (.bool true) rfl hH ?_
      try simp only[Act.put,vK,kZ,kS]
      refine tk 3 (some 80) (.pointer (some ⟨R,0,none⟩)) rfl hH ?_
      try simp only[Act.put,vK,kZ,kS]
      refine tk 4 (some 81) (.slice dv.a dv.n dv.c) rfl hH ?_ (fun w hSw=>by(obtain⟨s0,s1,s2,s3⟩:=hSw;go_simp))
      try simp only[Act.put,vK,kZ,kS]
      refine tk 5 (some 82) (.int .i64 dv.n) rfl hH ?_
      try simp only[Act.put,vK,kZ,kS]
      refine tk 6 (some 83) (.bool false) rfl hH ?_ (fun w _=>by go_simp;exact hdz2.out)
      try simp only[Act.put,vK,kZ,kS]
      refine tk 7 (some 84) (.bool false) rfl hH ?_
      try simp only[Act.put,vK,kZ,kS]
      refine tk 8 (some 85) (.bool false) rfl hH ?_
      try simp only[Act.put,vK,kZ,kS]
      refine jw 3 (by kernel_rfl) (fun d _ _ _ h=>by cases d <;> exact h) hH [(9,some 86),(10,some 87),(11,some 88)] (by kernel_rfl) ?_
      simp only[Xo,Act.put,vK,kS,kZ]
      refine tk 12 (some 89) (.bool false) rfl hH ?_
      try simp only[Act.put,vK,kZ,kS]
      refine wpAnyH_ready (rs:=[13]) (by kernel_rfl) (by simp) (AllReadyH.cons rfl (fun K hK=>?_) AllReadyH.nil)
      go_simp
      refine hK.out _ _ ?_ (fun hH2=>?_)
      ·(try dsimp only)
       simp[r0,r1,r2,r3,World.cell?_setCell_far,nR]
      clear hK K
      try simp only[Act.put,vK,kZ,kS]
      refine tk 14 (some 5) (.bool false) rfl hH2 ?_
      try simp only[Act.put,vK,kZ,kS]
      refine wpAnyH_done (by kernel_rfl) ?_ _
      try simp only[Act.put,vK,kZ,kS]
      obtain⟨hCf,hPf⟩:=hend.out wr ((kB _ _))
      generalize((((wr.setCell ⟨w.heap.size+1,0,none⟩ (.slice dv.a dv.n dv.c)).setCell ⟨w.heap.size+1,1,none⟩ (.slice uv.a uv.n uv.c)).setCell ⟨w.heap.size+1,2,none⟩ (.int .i64 tie)).setCell ⟨w.heap.size+1,3,none⟩ (.slice kv.a kv.n kv.c))=Wf at hCf hPf ⊢
      have z0:=(qd.drew hCf).cell (j:=0) (v:=.slice dv.a dv.n dv.c) rfl
      have z1:=(qd.drew hCf).cell (j:=1) (v:=.slice uv.a uv.n uv.c) rfl
      have z2:=(qd.drew hCf).cell (j:=2) (v:=.int .i64 tie) rfl
      have z3:=(qd.drew hCf).cell (j:=3) (v:=.slice kv.a kv.n kv.c) rfl
      have hPd:QA w (.returned (.tuple #[.agg #[.slice dv.a dv.n dv.c,.slice uv.a uv.n uv.c,.int .i64 tie,.slice kv.a kv.n kv.c],.bool false])) Wf.drew:=by
       obtain⟨a1,a2,a3,a4,a5,a6⟩:=hPf
       exact⟨a1,a2,a3,a4,a5,a6.trans ((kB _ _).drew)⟩
      go_wp2_with fail
      exact bodyPost_ret (v:=.tuple #[.agg #[.slice dv.a dv.n dv.c,.slice uv.a uv.n uv.c,.int .i64 tie,.slice kv.a kv.n kv.c],.bool false]) (by simp[results,results116,go_sem,z0,z1,z2,z3]) rfl hPd
     ·skip
      have hf7:xJ ps (ql ns cs ⟨dc,df⟩++(us.map (ql ns cs)).flatten)=false:=by
       rw[vF hd0] at hbad;simpa using hbad
      have hdl:0<dv.n:=by
       have:=List.length_pos_iff.2 hd0
       have:=hdn'.out
       omega
      have hdl2:(0:Int)<dv.n:=by omega
      have Ko:∀W,BX wr W->Calls prog 112 #[.pointer (some ⟨C,0,none⟩),.slice wd'.a wd'.n wd'.c] W fun e w'=>e = .returned (.bool false)/\BX W w':=fun W hb=>by
       have hSW:=hS'.out.step (hF'.out.below.trans (hb.mono hF'.out.below.size))
       have hI:=qJ.of_row (qe hU'.out.wrow hb) rfl
       have hfl:=hU'.out.flat
       have h1:=hI.1
       have h2:=hun.out
       have:=ZC C c ps wd' _ W hSW.chk hSW.placesAt hI (by rw[h1,kA];rw[vP] at hfl;omega) (fun x hx=>by
        rcases vC.1 hx with hx|hx
        ·obtain⟨l,h1,h2⟩:=yI hx
         exact hnum l h1 x h2
        ·obtain⟨l0,h1,h2⟩:=List.mem_flatten.1 hx
         obtain⟨oo,_,rfl⟩:=List.mem_map.1 h1
         obtain⟨l,h3,h4⟩:=yI h2
         exact hnum l h3 x h4)
       rw[hf7] at this;exact this
      clear hbad hdn' hd0 hf7
      go_wp2_with fail
      go_region_held3 (fun w'=>w'.cell? ⟨R,0,none⟩=some (.slice dv.a dv.n dv.c)/\w'.cell? ⟨R,1,none⟩=some (.slice uv.a uv.n uv.c)/\w'.cell? ⟨R,2,none⟩=some (.int .i64 tie)/\w'.cell? ⟨R,3,none⟩=some (.slice kv.a kv.n kv.c))
       (go_keep)
       ((go_at_call 112;refine(Ko _ ((kB _ _).drew)).mono ?_;clear Ko;rintro e W20 ⟨rfl,hb20⟩;have p0:W20.cell? ⟨w.heap.size+1,0,none⟩=some (.slice none 0 0):=qs hb20;have y0:W20.frozen? ⟨w.heap.size+1,0,none⟩=false:=(hb20.frozen (p:=⟨w.heap.size+1,0,none⟩) hlt1).trans g0;have p1:W20.cell? ⟨w.heap.size+1,1,none⟩=some (.slice none 0 0):=qs hb20;have y1:W20.frozen? ⟨w.heap.size+1,1,none⟩=false:=(hb20.frozen (p:=⟨w.heap.size+1,1,none⟩) hlt1).trans g1;have p2:W20.cell? ⟨w.heap.size+1,2,none⟩=some (.int .i64 0):=qs hb20;have y2:W20.frozen? ⟨w.heap.size+1,2,none⟩=false:=(hb20.frozen (p:=⟨w.heap.size+1,2,none⟩) hlt1).trans g2;have p3:W20.cell? ⟨w.heap.size+1,3,none⟩=some (.slice none 0 0):=qs hb20;have y3:W20.frozen? ⟨w.heap.size+1,3,none⟩=false:=(hb20.frozen (p:=⟨w.heap.size+1,3,none⟩) hlt1).trans g3;have k0:W20.cell? ⟨R,0,none⟩=some (.slice dv.a dv.n dv.c):=qs hb20;have k1:W20.cell? ⟨R,1,none⟩=some (.slice uv.a uv.n uv.c):=qs hb20;have k2:W20.cell? ⟨R,2,none⟩=some (.int .i64 tie):=qs hb20;have k3:W20.cell? ⟨R,3,none⟩=some (.slice kv.a kv.n kv.c):=qs hb20))
      obtain⟨hCf,hPf⟩:=hend.out W20 (((kB wr.heap.size wr).drew).trans hb20)
      clear k0 k1 k2 k3 p0 p1 p2 p3 y0 y1 y2 y3 hb20
      generalize((((W20.setCell ⟨w.heap.size+1,0,none⟩ (.slice dv.a dv.n dv.c)).setCell ⟨w.heap.size+1,1,none⟩ (.slice uv.a uv.n uv.c)).setCell ⟨w.heap.size+1,2,none⟩ (.int .i64 tie)).setCell ⟨w.heap.size+1,3,none⟩ (.slice kv.a kv.n kv.c))=Wf at hCf hPf ⊢
      have z0:=hCf.cell (j:=0) (v:=.slice dv.a dv.n dv.c) rfl
      have z1:=hCf.cell (j:=1) (v:=.slice uv.a uv.n uv.c) rfl
      have z2:=hCf.cell (j:=2) (v:=.int .i64 tie) rfl
      have z3:=hCf.cell (j:=3) (v:=.slice kv.a kv.n kv.c) rfl
      go_wp2_with fail
      exact bodyPost_ret (v:=.tuple #[.agg #[.slice dv.a dv.n dv.c,.slice uv.a uv.n uv.c,.int .i64 tie,.slice kv.a kv.n kv.c],.bool false]) (by simp[results,results116,go_sem,z0,z1,z2,z3]) rfl hPf
theorem yz.un{w:World}{e:Ending}{w':World}(h:yz w e w'):QA w e w':=⟨⟨none,0,0⟩,⟨none,0,0⟩,⟨none,0,0⟩,0,h.1,h.2⟩
theorem qfy[Inhabited zH](C:Nat)(c:CV)(ns:List ByteArray)(ps:List Plc)(cs:List qp)(o:OpD)(u kk:SlV)(w0 w:World)(hS:St w0 w C c ns ps)(hK:qS w0 c.m.classes cs)(hkb:c.m.classes.n<=64)(hL:zC w0 w c.classes (qr ns cs))(hnum:∀l,l∈qr ns cs->∀x,x∈l->Num ps x)
 (hu:zY w u o.uses) (hkk:qG w kk o.clob) (hf:jm ns ps cs o=false) (hub:o.uses.length<=100000) :
 Calls prog 116 #[.pointer (some ⟨C,0,none⟩),.agg #[.string o.name,.string o.d.cls,.string o.d.fix,.slice u.a u.n u.c,.int .i64 o.tie,.slice kk.a kk.n kk.c]] w (QA w):=by
 by_cases h1:o.uses.length=zk o.name
 ·cases h2:jd o with
  | false=>exact(qbr C o u kk w hu (by have:=hu.1;omega) h1 h2).mono fun e w' h=>h.un
  |true=>
   cases h3:zx ns o.clob 64 && !qW [] (qh ns o.clob) with
   | false=>exact(qdP C c ns ps w0 o u kk w hu (by have:=hu.1;omega) hS hkk h1 h2 h3).mono fun e w' h=>h.un
   |true=>
    rw[Bool.and_eq_true,Bool.not_eq_true'] at h3
    have ha:=JO o.name
    refine qbv C c ns ps cs o u kk w0 w hS hK hkb hL hnum hu hkk h1 h2 h3.1 h3.2 ?_ (by omega)
    unfold jm at hf
    rw[vT h1,h2,h3.1,h3.2] at hf
    simpa using hf
 ·exact(qfw C o u kk w hu.1 h1).mono fun e w' h=>h.un
theorem qdQ[Inhabited zH](C:Nat)(mn rs:ByteArray)(rg kl ar sv:SlV)(oa:Option Addr)(on oc:Nat)(sl:Int)(nV pV cV aV:SlV)(r:Int)(ns:List ByteArray)(ps:List Plc)(cs:List qp)(os:List OpD)(w0 w:World)
 (hS:St w0 w C ⟨⟨mn,rg,kl,⟨oa,on,oc⟩,ar,rs,sv,sl⟩,nV,pV,cV,⟨none,0,0⟩,aV,r⟩ ns ps) (hK:qS w0 kl cs) (hkb:kl.n<=64) (hL:zC w0 w cV (qr ns cs)) (hnum:∀l,l∈qr ns cs->∀x,x∈l->Num ps x)
 (hO:jP w0 ⟨oa,on,oc⟩ os) (hub:∀o:OpD,o∈os->o.uses.length<=100000) :
 Calls prog 62 #[.pointer (some ⟨C,0,none⟩)] w (qcN w0 C cV (fun oV=>⟨⟨mn,rg,kl,⟨oa,on,oc⟩,ar,rs,sv,sl⟩,nV,pV,cV,oV,aV,r⟩) ns ps cs os):=by
 have hkn:=hO.1
 have hkc:=hO.2.1
 dsimp only at hkn hkc
 have c3:=hS.chk.cell (j:=3) (v:=.slice oa on oc) rfl
 have hB0:=hS.below
 by_cases hlong:(64:Int)<on
 ·have hr:Hid (jf ns ps cs os=2):=vH (by unfold jf;rw[if_pos (by omega)])
  clear hK hS hkn hL hnum hO hub
  go_enter func62,ntmps62
  go_wp2_with fail
  go_ret
  exact⟨qI hr.out.symm,hB0,fun h=>by rw[hr.out] at h;cases h⟩
 ·have hr:Hid (jf ns ps cs os=jj ns ps cs [] os):=vH (by unfold jf;rw[if_neg (by omega)])
  replace hub:=vH hub
  replace hnum:=vH hnum
  have hK2:=vH hK
  have hO2:=vH hO
  have hS2:=vH hS
  have hL2:=vH hL
  have hkn':=vH hkn
  have on0:(0:Int)<=on:=vN _
  clear hK hS hkn hL hO
  go_enter func62,ntmps62
  go_wp2_with fail
  go_loopw [20] (fun i wr=>∃ (k:Nat) (oV:SlV),k<=on/\i = .int .i64 k/\St w0 wr C ⟨⟨mn,rg,kl,⟨oa,on,oc⟩,ar,rs,sv,sl⟩,nV,pV,cV,oV,aV,r⟩ ns ps/\zC w0 wr cV (qr ns cs)/\XG w0 wr oV ((os.take k).map (opR ns cs))/\Hid (jj ns ps cs [] os=jj ns ps cs (os.take k) (os.drop k))) (fun i _=>on-(intOf i).toNat)
  case atStart=>exact⟨0,⟨none,0,0⟩,vO _,rfl,hS2.out,hL2.out,by simpa using XG.nil w0 w,vH (by simp)⟩
  case round=>
   clear c3 hB0 hS2 hL2
   obtain⟨k,oV,hk,rfl,hS,hL,hQ,hT⟩:=hrel
   have k0:(0:Int)<=k:=vN _
   have hBr:=hS.below
   by_cases hlt:k<on
   ·have hkl:k<os.length:=by have:=hkn'.out;omega
    obtain⟨x,hx⟩:∃x,os[k]?=some x:=⟨os[k],vE hkl⟩
    have hmem:x∈os:=vM hx
    obtain⟨b,o,rfl,⟨ua,un,uc⟩,⟨va,vn,vc⟩,hc0,hc1,hc2,hc3,hc4,hc5,hcu,hcv⟩:=hO2.out.2.2 k x hx
    dsimp only at hc0 hc1 hc2 hc3 hc4 hc5
    replace hc0:=qb hBr hc0
    replace hc1:=qb hBr hc1
    replace hc2:=qb hBr hc2
    replace hc3:=qb hBr hc3
    replace hc4:=qb hBr hc4
    replace hc5:=qb hBr hc5
    have k1:(k:Int)<on:=by omega
    have k2:(k:Int)<=oc:=by omega
    have hi:IntKind.i64.wrap ((k:Int)+1)=k+1:=vI _ (by omega)
    have hT2:=vH (hT.out.trans (qbU ns ps cs os k x hx))
    have c3:=hS.chk.cell (j:=3) (v:=.slice (some ⟨b,o,none⟩) on oc) rfl
    have hlb:=hS.chk.lt
    have nC:=World.new_ne wr _ c3
    have hb0:BX wr (wr.alloc (.cells #[.string x.name,.string x.d.cls,.string x.d.fix,.slice ua un uc,.int .i64 x.tie,.slice va vn vc] 47)):=qi
    have Ka:=Qs x.name
    have Kn:∀W,BX wr W->Calls prog 114 #[.slice (some ⟨b,o,none⟩) k oc,.string x.name,.func (.func 115) #[] #[]] W fun e w'=>e = .returned (.int .i64 (zM (fun y:OpD=>eqB y.name x.name) (os.take k)))/\BX W w':=fun W hb=>
     qiE ⟨some ⟨b,o,none⟩,k,oc⟩ (os.take k) x.name W ((hO2.out.head k (by omega)).below (hBr.trans (hb.mono hBr.size))) (by show k<_;omega)
    have hno:∀W,BX w0 W->∀c:Int,c≠0->jI ns ps cs (os.take k) x=c->qcN w0 C cV (fun oV=>⟨⟨mn,rg,kl,⟨some ⟨b,o,none⟩,on,oc⟩,ar,rs,sv,sl⟩,nV,pV,cV,oV,aV,r⟩) ns ps cs os (.returned (.int .i64 c)) W:=fun W hW c hc he=>by
     have h:jf ns ps cs os=c:=by rw[hr.out,hT2.out,he,if_neg hc]
     exact⟨qI h.symm,hW,fun h0=>by rw[h] at h0;exact absurd h0 hc⟩
    replace hno:=vH hno
    by_cases ha0:zk x.name=0
    ·have he:Hid (jI ns ps cs (os.take k) x=5):=vH (by unfold jI;rw[ha0];simp)
     rw[ha0] at Ka
     clear ha0 hx hmem hcu hcv hT hS hL hQ hK2 hO2 hub hnum Kn
     go_wp2_with fail
     go_quiet ((go_at_call 113;exact Calls.quiet_of_same ((Ka _).mono fun _ _ ⟨he,hw⟩=>⟨he,hw.symm⟩)))
     go_wp2_with fail
     go_ret
     exact hno.out _ (hBr.trans ((below_drewN hb0 _).mono hBr.size)) 5 (by decide) he.out
    ·have ha1:((zk x.name:Int)==0)=false:=beq_eq_false_iff_ne.2 (by omega)
     by_cases he1:0<=zM (fun y:OpD=>eqB y.name x.name) (os.take k)
     ·have he:Hid (jI ns ps cs (os.take k) x=5):=vH (by unfold jI;simp[he1])
      generalize zM (fun y:OpD=>eqB y.name x.name) (os.take k)=ix at Kn he1
      generalize hga:(zk x.name:Int)=an at Ka ha1
      obtain⟨xn,⟨xc,xf⟩,xu,xt,xk⟩:=x
      dsimp only at hc0 hc1 hc2 hc3 hc4 hc5 hb0 Ka Kn
      clear hga ha0 hx hmem hcu hcv hT hS hL hQ hK2 hO2 hub hnum
      go_wp2_with fail
      go_region_held3 (fun w'=>w'.cell? ⟨wr.heap.size,0,none⟩=some (.string xn)/\w'.cell? ⟨C,3,none⟩=some (.slice (some ⟨b,o,none⟩) on oc))
       (go_keep)
       ((first
         |(go_at_call 113;refine(Ka _).mono ?_;clear Ka;rintro e W1 ⟨rfl,rfl⟩)
         |(go_at_call 114;refine(Kn _ hb0.drew).mono ?_;clear Kn;rintro e W2 ⟨rfl,hb2⟩;have hA2:=hb0.drew.trans (hb2.mono (by simp));have q0:W2.cell? ⟨wr.heap.size,0,none⟩=some (.string xn):=qs hb2;have q6:W2.cell? ⟨C,3,none⟩=some (.slice (some ⟨b,o,none⟩) on oc):=qs hb2)))
      go_wp2_with fail
      go_ret
      exact hno.out _ (hBr.trans (hA2.mono hBr.size)) 5 (by decide) he.out
     have e1:zM (fun y:OpD=>eqB y.name x.name) (os.take k) = -1:=by
      rcases qgL (fun y:OpD=>eqB y.name x.name) (os.take k) with h|h <;> omega
     rw[e1] at Kn
     have hce:Hid (jI ns ps cs (os.take k) x=if jm ns ps cs x=true then 0 else 9):=vH (by unfold jI;rw[e1];simp[ha0])
     have hnx:jm ns ps cs x=true∨jm ns ps cs x=false:=by cases jm ns ps cs x <;> simp
     have hux:=hub.out x hmem
     have hcu':=hcu.below hBr
     have hcv':=hcv.below hBr
     generalize hga:(zk x.name:Int)=an at Ka ha1
     clear hga
     have Kr:∀W,BX wr W->jm ns ps cs x=true->Calls prog 116 #[.pointer (some ⟨C,0,none⟩),.agg #[.string x.name,.string x.d.cls,.string x.d.fix,.slice ua un uc,.int .i64 x.tie,.slice va vn vc]] W (Jt W (opR ns cs x)):=fun W hb hf=>by
      have ha:x.uses.length<=2:=by
       unfold jm at hf
       simp only[Bool.and_eq_true,decide_eq_true_eq] at hf
       have:=JO x.name
       omega
      exact qhm C _ ns ps cs x ⟨ua,un,uc⟩ ⟨va,vn,vc⟩ w0 W (hS.step hb) hK2.out hkb (hL.below hb) hnum.out (hcu'.below hb) (hcv'.below hb) hf ha
     have Kb:∀W,BX wr W->jm ns ps cs x=false->Calls prog 116 #[.pointer (some ⟨C,0,none⟩),.agg #[.string x.name,.string x.d.cls,.string x.d.fix,.slice ua un uc,.int .i64 x.tie,.slice va vn vc]] W (QA W):=fun W hb h=>
      qfy C _ ns ps cs x ⟨ua,un,uc⟩ ⟨va,vn,vc⟩ w0 W (hS.step hb) hK2.out hkb (hL.below hb) hnum.out (hcu'.below hb) (hcv'.below hb) h hux
     have hS':=vH hS
     have hL':=vH hL
     have hQ':=vH hQ
     have hlist:Hid ((os.take (k+1)).map (opR ns cs)=(os.take k).map (opR ns cs)++[opR ns cs x]):=vH (by rw[vX,hx,kM];rfl)
     have hgood:jm ns ps cs x=true->Hid (jj ns ps cs [] os=jj ns ps cs (os.take (k+1)) (os.drop (k+1))):=fun hf=>vH (by
      have h0:jI ns ps cs (os.take k) x=0:=by rw[hce.out,hf];rfl
      rw[hT2.out,h0];rfl)
     have hlk:Hid (((os.take k).map (opR ns cs)).length=k):=vH (by rw[vP,List.length_take];omega)
     have htie:(opR ns cs x).tie=x.tie:=rfl
     generalize opR ns cs x=ox at Kr hlist htie
     obtain⟨xn,⟨xc,xf⟩,xu,xt,xk⟩:=x
     dsimp only at hc0 hc1 hc2 hc3 hc4 hc5 hb0 Ka Kn Kr Kb htie
     replace hgood:=vH hgood
     replace htie:=vH htie
     replace hnx:=vH hnx
     clear ha0 he1 hx hmem hcu hcv e1 hT hS hL hQ hK2 hO2 hub hnum hcu' hcv' hux
     go_wp2_with fail
     go_region_held3 (fun w'=>w'.cell? ⟨wr.heap.size,0,none⟩=some (.string xn)/\w'.cell? ⟨wr.heap.size,1,none⟩=some (.string xc)/\w'.cell? ⟨wr.heap.size,2,none⟩=some (.string xf)/\w'.cell? ⟨wr.heap.size,3,none⟩=some (.slice ua un uc)/\w'.cell? ⟨wr.heap.size,4,none⟩=some (.int .i64 xt)/\w'.cell? ⟨wr.heap.size,5,none⟩=some (.slice va vn vc)/\w'.cell? ⟨C,3,none⟩=some (.slice (some ⟨b,o,none⟩) on oc))
      (go_keep)
      ((first
        |(go_at_call 113;refine(Ka _).mono ?_;clear Ka;rintro e W1 ⟨rfl,rfl⟩)
        |(go_at_call 114;refine(Kn _ hb0.drew).mono ?_;clear Kn;rintro e W2 ⟨rfl,hb2⟩;have hA2:=hb0.drew.trans (hb2.mono (by simp));have q0:W2.cell? ⟨wr.heap.size,0,none⟩=some (.string xn):=qs hb2;have q1:W2.cell? ⟨wr.heap.size,1,none⟩=some (.string xc):=qs hb2;have q2:W2.cell? ⟨wr.heap.size,2,none⟩=some (.string xf):=qs hb2;have q3:W2.cell? ⟨wr.heap.size,3,none⟩=some (.slice ua un uc):=qs hb2;have q4:W2.cell? ⟨wr.heap.size,4,none⟩=some (.int .i64 xt):=qs hb2;have q5:W2.cell? ⟨wr.heap.size,5,none⟩=some (.slice va vn vc):=qs hb2;have q6:W2.cell? ⟨C,3,none⟩=some (.slice (some ⟨b,o,none⟩) on oc):=qs hb2)))
     go_wp2_with fail
     go_at_call 116
     rcases hnx.out with hf|hbad
     ·refine(Kr _ hA2 hf).mono ?_
      have hg:=hgood.out hf
      rintro e W4 ⟨dv,uv,kv,rfl,hb4,hV⟩
      have hA4:=hA2.trans (hb4.mono hA2.size)
      have hS4:=hS'.out.step hA4
      have hL4:=hL'.out.below hA4
      obtain⟨vs,hv1,hrow,hv3⟩:=hQ'.out.below hA4
      rw[hlk.out] at hrow
      rw[htie.out]
      have hal:BX W4 (W4.alloc (.cells #[.slice dv.a dv.n dv.c,.slice uv.a uv.n uv.c,.int .i64 xt,.slice kv.a kv.n kv.c] 155)):=qi
      have hS5:=vH (hS4.step hal)
      have hL5:=vH (hL4.below hal)
      have hV5:=vH (hV.below hal)
      have hrow5:=qe hrow hal
      replace hv3:=vH fun i v o hv ho=>(show v.2.2.2=o.tie/\Ky (W4.alloc (.cells #[.slice dv.a dv.n dv.c,.slice uv.a uv.n uv.c,.int .i64 xt,.slice kv.a kv.n kv.c] 155)) v.1 v.2.1 v.2.2.1 o from⟨(hv3 i v o hv ho).1,(hv3 i v o hv ho).2.below hal⟩)
      replace hv1:=vH hv1
      clear q0 q1 q2 q3 q4 q5 q6 hc0 hc1 hc2 hc3 hc4 hc5 c3 hb2 hb4 hV hrow hS4 hL4 Kr Kb
      go_wp2_with fail
      have hop:=qd.new W4 155 #[.slice dv.a dv.n dv.c,.slice uv.a uv.n uv.c,.int .i64 xt,.slice kv.a kv.n kv.c]
      generalize W4.alloc (.cells #[.slice dv.a dv.n dv.c,.slice uv.a uv.n uv.c,.int .i64 xt,.slice kv.a kv.n kv.c] 155)=W5 at hS5 hL5 hV5 hrow5 hv3 hop ⊢
      clear hal hA4
      generalize W4.heap.size=P at hop ⊢
      have p0:=hop.cell (j:=0) (v:=.slice dv.a dv.n dv.c) rfl
      have p1:=hop.cell (j:=1) (v:=.slice uv.a uv.n uv.c) rfl
      have p2:=hop.cell (j:=2) (v:=.int .i64 xt) rfl
      have p3:=hop.cell (j:=3) (v:=.slice kv.a kv.n kv.c) rfl
      have hCk:=hS5.out.chk
      have c11:=hCk.cell (j:=11) (v:=.slice oV.a oV.n oV.c) rfl
      have f11:=hCk.frozen 11
      have hnr:=hCk.not_row (by decide) hrow5
      have hCb:=hS5.out.base
      have hCl:C<W5.heap.size:=hCk.lt
      have hnC:=World.new_ne W5 _ c11
      have hk64:k<=64:=by omega
      obtain⟨i0,hi0,hz0,hz1,hz2⟩:=info_parts qki
      have hC':=vH hCk
      clear hop hCk hno hA2
      go_region_law (refine step_append_lies _ (by rfl) _ _ _ (by rfl) w0.heap.size 155 i0 _ 4 80 underlying106 hi0 hz0 hz1 hz2 rfl (by omega) (.slice oV.a oV.n oV.c) k (vs.flatMap ZH) (by rfl) ((hrow5.alloc _).drew) ⟨W5.heap.size,0,none⟩ 1 1 [.slice dv.a dv.n dv.c,.slice uv.a uv.n uv.c,.int .i64 xt,.slice kv.a kv.n kv.c] (by rfl) (by rfl) (World.news_of_block (cs:=#[.slice dv.a dv.n dv.c,.slice uv.a uv.n uv.c,.int .i64 xt,.slice kv.a kv.n kv.c]) (t:=155) (fr:=(0,0)) (heap_alloc_new W5 _)) (by simp[Value.oneCell']) (by omega) (by unfold maxLen;omega) (by omega) (by simp;omega) (W5.heap.size+1) (by simp) ?_;intro gg gcap W6 hown1 hgrow hat hlt6;have hT6:=((hC'.out.alloc _).drew).kept hgrow hnr;have f6:=hT6.frozen 11;have c6:=hT6.cell (j:=11) (v:=.slice oV.a oV.n oV.c) rfl)
      all_goals
       have hgrow2:(W5.drew.alloc (.cells #[.slice dv.a dv.n dv.c,.slice uv.a uv.n uv.c,.int .i64 xt,.slice kv.a kv.n kv.c] 155)).grownBy W6 (Value.slice oV.a oV.n oV.c).ownBlock:=hgrow
       have hG:=jc (v:=.slice oV.a oV.n oV.c) hC'.out (j:=11) rfl (by decide) hCb ((kB W5.heap.size W5).drew) hrow5 hown1 hgrow2 (hat.elim (fun h=>.inl (by rw[h];rfl)) (fun h=>.inr (by rw[h];simp[Value.ownBlock])))
       have hSn:=hS5.out.grown (c':=⟨⟨mn,rg,kl,⟨some ⟨b,o,none⟩,on,oc⟩,ar,rs,sv,sl⟩,nV,pV,cV,⟨some ⟨gg,0,none⟩,k+1,gcap⟩,aV,r⟩) hG rfl rfl rfl (by decide) (by decide) (by decide)
       have hLn:=hL5.out.grown hG hC'.out (by decide) (by decide) (by decide) (by decide)
       have hVn:=hV5.out.grown hG hC'.out (by decide) (by decide) (by decide) (by decide)
       have hQn:XG w0 (W6.setCell ⟨C,11,none⟩ (.slice (some ⟨gg,0,none⟩) (k+1) gcap)) ⟨some ⟨gg,0,none⟩,k+1,gcap⟩ ((os.take (k+1)).map (opR ns cs)):=by
        refine⟨vs++[(dv,uv,kv,xt)],?_,?_,fun i v oo hv hoo=>?_⟩
        ·rw[hlist.out,kA,kA,hv1.out];rfl
        ·rw[hlist.out,kA,hlk.out,List.flatMap_append]
         have:=hG.row
         simpa[ZH,SlV.v] using this
        ·rw[hlist.out] at hoo
         by_cases hi:i<k
         ·rw[List.getElem?_append_left (by rw[hv1.out,hlk.out];exact hi)] at hv
          rw[List.getElem?_append_left (by rw[hlk.out];exact hi)] at hoo
          obtain⟨h1,h2⟩:=hv3.out i v oo hv hoo
          exact⟨h1,h2.grown hG hC'.out (by decide) (by decide) (by decide) (by decide)⟩
         ·rw[kR (by rw[hv1.out,hlk.out];omega),hv1.out,hlk.out] at hv
          rw[kR (by rw[hlk.out];omega),hlk.out] at hoo
          have hi0:i-k=0:=by
           have:=(vS.1 hoo).1
           simp at this;omega
          rw[hi0] at hv hoo
          cases hv
          cases hoo
          exact⟨htie.out.symm,hVn⟩
       clear hG hgrow hgrow2 hown1 hat hlt6 hT6 f6 c6 hVn hS5 hL5 hV5 hrow5 hv3 hv1 p0 p1 p2 p3 c11 f11 hnr hC' hi0 hz0 hz1 hz2
       replace hSn:=vH hSn
       replace hLn:=vH hLn
       replace hQn:=vH hQn
       go_wp2_with fail
       exact⟨⟨k+1,⟨some ⟨gg,0,none⟩,k+1,gcap⟩,by omega,by go_num,hSn.out,hLn.out,hQn.out,hg⟩,by simp[intOf];omega⟩
     ·refine(Kb _ hA2 hbad).mono ?_
      have he:Hid (jI ns ps cs (os.take k) ⟨xn,⟨xc,xf⟩,xu,xt,xk⟩=9):=vH (by rw[hce.out,hbad];rfl)
      rintro e W4 ⟨dv,uv,kv,tie4,rfl,hb4⟩
      clear hnx hbad Kr Kb
      go_wp2_with fail
      go_ret
      exact hno.out _ (hBr.trans ((hA2.trans ((hb4.alloc hb4.size _).mono hA2.size)).mono hBr.size)) 9 (by decide) he.out
   ·obtain rfl:k=on:=by omega
    have hfin:qcN w0 C cV (fun oV=>⟨⟨mn,rg,kl,⟨oa,k,oc⟩,ar,rs,sv,sl⟩,nV,pV,cV,oV,aV,r⟩) ns ps cs os (.returned (.int .i64 0)) wr:=by
     have h0:jf ns ps cs os=0:=by
      rw[hr.out,hT.out,List.drop_eq_nil_of_le (by have:=hkn'.out;omega)];rfl
     refine⟨qI h0.symm,hBr,fun _=>⟨oV,hS,hL,?_⟩⟩
     rw[List.take_of_length_le (by have:=hkn'.out;omega)] at hQ
     exact hQ
    replace hfin:=vH hfin
    clear hS hL hQ hK2 hO2 hub hnum
    go_wp2_with fail
    go_ret
    exact hfin.out
end Go.Proofs.YtomlgdnafeeeiaaGreatDoor
