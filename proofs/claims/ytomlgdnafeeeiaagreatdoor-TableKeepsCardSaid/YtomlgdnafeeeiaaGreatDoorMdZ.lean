
import Derived.Test.YtomlgdnafeeeiaaGreatDoorSmI
import Derived.Test.YtomlgdnafeeeiaaGreatDoorMdFive
set_option maxHeartbeats 4000000
set_option maxRecDepth 100000
/-
 Check,Fits and Pair of any machine that lies in memory: the first error,or none.
-/
namespace Go.Proofs.YtomlgdnafeeeiaaGreatDoor
open Proofs.Tryz
open Go.RowKit
theorem qby(C:Nat)(m:MV)(w0 w:World)(hB:BX w0 w)(hbase:w0.heap.size<=C)(hC:jq w C ⟨m,⟨none,0,0⟩,⟨none,0,0⟩,⟨none,0,0⟩,⟨none,0,0⟩,⟨none,0,0⟩,0⟩)
 (K:Calls prog 74 #[.slice m.regs.a m.regs.n m.regs.c] w (jh w [])) :
 Calls prog 60 #[.pointer (some ⟨C,0,none⟩)] w fun e w'=>e = .returned (.int .i64 1)/\BX w0 w':=by
 have c1:=hC.cell (j:=1) (v:=.slice m.regs.a m.regs.n m.regs.c) rfl
 have hC2:=vH hC
 clear hC
 go_enter func60,ntmps60
 go_wp2_with (go_at_call 74;refine K.mono ?_;clear K;rintro e W1 ⟨nV,pV,rfl,hn,hp,hb1⟩;obtain⟨na,nc,rfl⟩:=qx hn;obtain⟨pa,pc,rfl⟩:=qx hp;simp only[List.length_nil] at hn hp ⊢;have hC1:=hC2.out.below hb1 hC2.out.lt;have d8:=hC1.cell (j:=8) (v:=.slice none 0 0) rfl;have d9:=hC1.cell (j:=9) (v:=.slice none 0 0) rfl;have f8:=hC1.frozen 8;have f9:=hC1.frozen 9;replace hn:=vH hn;replace hp:=vH hp)
 go_ret
 exact⟨rfl,((hB.trans (hb1.mono hB.size)).setCell (p:=⟨C,8,none⟩) hbase _).setCell (p:=⟨C,9,none⟩) hbase _⟩
theorem qhs{w:World}{m:MV}(ok:Bool)(x:Int)(hx:x≠0)
 (hnm:∀W,BX w W->Calls prog 106 #[.string m.name] W fun e w'=>e = .returned (.bool ok)/\BX W w')
 (hbad:ok=false->x=5) (hpl:ok=true->∀W,BX w W->jq W (w.heap.size+1) m.fresh->Calls prog 60 #[.pointer (some ⟨w.heap.size+1,0,none⟩)] W fun e w'=>e = .returned (.int .i64 x)/\BX w w') :
 Calls prog 30 #[m.val] w fun e w'=>e = .returned (.int .i64 x)/\BX w w':=by
 have hBF:BX w (yY w m 7):=(qi.alloc (by simp) _).alloc (by simp;omega) _
 have K:Calls prog 58 #[.slice (some ⟨w.heap.size+1+1,0,none⟩) 7 7] (yY w m 7) fun e w'=>e = .returned (.int .i64 x)/\BX w w':=by
  have hCh:jq (yY w m 7) (w.heap.size+1) m.fresh:=by
   have:=(qd.new (w.alloc (.cells #[.string m.name,.slice m.regs.a m.regs.n m.regs.c,.slice m.classes.a m.classes.n m.classes.c,.slice m.ops.a m.ops.n m.ops.c,.slice m.args.a m.args.n m.args.c,.string m.result,.slice m.saved.a m.saved.n m.saved.c,.int .i64 m.slots] 27)) 108 m.fresh.cells).alloc (.cells (jE (w.heap.size+1) (yq.take 7)) 110)
   rw[vZ] at this;exact this
  have hF:qd (yY w m 7) (w.heap.size+1+1) 110 (jE (w.heap.size+1) (yq.take 7)):=by
   have:=qd.new ((w.alloc (.cells #[.string m.name,.slice m.regs.a m.regs.n m.regs.c,.slice m.classes.a m.classes.n m.classes.c,.slice m.ops.a m.ops.n m.ops.c,.slice m.args.a m.args.n m.args.c,.string m.result,.slice m.saved.a m.saved.n m.saved.c,.int .i64 m.slots] 27)).alloc (.cells m.fresh.cells 108)) 110 (jE (w.heap.size+1) (yq.take 7))
   rw[vZ,vZ] at this;exact this
  have F:=qbW (w.heap.size+1) (w.heap.size+1+1) yq
   (fun k W=>(k=0∨k=1/\ok=true)/\BX w W/\jq W (w.heap.size+1) m.fresh/\qd W (w.heap.size+1+1) 110 (jE (w.heap.size+1) yq))
   (fun y W=>y=x/\BX w W) (yY w m 7) (by decide) (fun k W h=>h.2.2.2) (fun f hf=>qdW f hf)
   (fun k f hf W ⟨hk,hb,hC,hFn⟩=>by
     rcases hk with rfl|⟨rfl,hok⟩
     ·cases hf
      refine(Jg (w.heap.size+1) _ ok W hC (hnm W hb)).mono fun e W' ⟨he,hb'⟩=>⟨_,he,fun h0=>⟨.inr ⟨rfl,?_⟩,hb.trans (hb'.mono hb.size),hC.below hb' hC.lt,hFn.below hb' hFn.lt⟩,fun h0=>⟨?_,hb.trans (hb'.mono hb.size)⟩⟩
      ·cases ok with
       | true=>rfl
       | false=>exact absurd h0 (by decide)
      ·cases ok with
       | true=>exact absurd rfl h0
       | false=>exact(hbad rfl).symm
     ·cases hf
      refine(hpl hok W hb hC).mono fun e W' ⟨he,hb'⟩=>⟨_,he,fun h0=>absurd h0 hx,fun _=>⟨rfl,hb'⟩⟩)
   ⟨.inl rfl,hBF,hCh,hF⟩
  refine F.mono fun e W' ⟨y,he,h1,h2⟩=>?_
  by_cases hy:y=0
  ·rcases(h1 hy).1 with h|⟨h,_⟩ <;> exact absurd h (by decide)
  ·obtain⟨rfl,hb⟩:=h2 hy
   exact⟨he,hb⟩
 unfold yY MV.fresh CV.cells jE yq at K
 unfold MV.val
 simp only[List.take_succ_cons,List.take_zero,List.map_cons,List.map_nil] at K
 clear hBF hnm hpl
 go_enter func30,ntmps30
 go_wp2_with (go_at_call 58;go_loud (refine K.mono ?_;clear K;rintro e W1 ⟨rfl,hb⟩))
 go_ret
 exact⟨rfl,hb⟩
structure qgt(w:World)(m:MV)(d:qz)(E:List qA):Prop where
 env:Env w
 result:m.result=d.result
 slots:m.slots=d.slots
 name:qj d.name=true
 same:m.name=d.name
 ne:E ≠ []
 few:E.length<=200
 ok:∀p,p∈E.map qA.place->xT p
 places:∀W,BX w W->Calls prog 74 #[.slice m.regs.a m.regs.n m.regs.c] W (jh W E)
 classes:qS w m.classes d.classes
 ops:jP w m.ops d.ops
 oub:∀o:OpD,o∈d.ops->o.uses.length<=100000
 args:qG w m.args d.args
 saved:qG w m.saved d.saved
def qii[Inhabited zH](w:World)(C:Nat)(m:MV)(d:qz)(ns:List ByteArray)(ps:List Plc):Nat->World->Prop
 | 0,W=>BX w W/\jq W C ⟨m,⟨none,0,0⟩,⟨none,0,0⟩,⟨none,0,0⟩,⟨none,0,0⟩,⟨none,0,0⟩,0⟩/\qd W (default:zH).b 110 (default:zH).cs
 | 1,W=>BX w W/\jq W C ⟨m,⟨none,0,0⟩,⟨none,0,0⟩,⟨none,0,0⟩,⟨none,0,0⟩,⟨none,0,0⟩,0⟩/\qd W (default:zH).b 110 (default:zH).cs
 | 2,W=>∃nV pV,St w W C ⟨m,nV,pV,⟨none,0,0⟩,⟨none,0,0⟩,⟨none,0,0⟩,0⟩ ns ps
 | 3,W=>qy qj ns ps d.classes=0/\∃nV pV cV,St w W C ⟨m,nV,pV,cV,⟨none,0,0⟩,⟨none,0,0⟩,0⟩ ns ps/\zC w W cV (qr ns d.classes)
 | 4,W=>(qy qj ns ps d.classes=0/\jf ns ps d.classes d.ops=0)/\∃nV pV cV oV,Rd w W C ⟨m,nV,pV,cV,oV,⟨none,0,0⟩,0⟩ ns ps (qr ns d.classes) (d.ops.map (opR ns d.classes))
 | 5,W=>(qy qj ns ps d.classes=0/\jf ns ps d.classes d.ops=0/\qL ns ps d.args d.result d.saved d.slots=true)/\∃nV pV cV oV aV,Rd w W C ⟨m,nV,pV,cV,oV,aV,qv ns d.result⟩ ns ps (qr ns d.classes) (d.ops.map (opR ns d.classes)) /\
    W.ownsRow w.heap.size 3 1 aV.v (qh ns d.args).length ((qh ns d.args).map (Value.int .i64))/\d.args.length<=16 /\
    ∃W1 aV0 r0,Rd w W1 C ⟨m,nV,pV,cV,oV,aV0,r0⟩ ns ps (qr ns d.classes) (d.ops.map (opR ns d.classes))/\xi C W1 W/\W1.heap.size<=W.heap.size/\∀b,aV.v.ownBlock=some b->W1.heap.size<=b
 | 6,W=>(qy qj ns ps d.classes=0/\jf ns ps d.classes d.ops=0/\qL ns ps d.args d.result d.saved d.slots=true/\qX (qr ns d.classes) (qh ns d.args++[qv ns d.result])=true) /\
    ∃nV pV cV oV aV,Rd w W C ⟨m,nV,pV,cV,oV,aV,qv ns d.result⟩ ns ps (qr ns d.classes) (d.ops.map (opR ns d.classes))
 | _,W=>(qy qj ns ps d.classes=0/\jf ns ps d.classes d.ops=0/\qL ns ps d.args d.result d.saved d.slots=true/\qX (qr ns d.classes) (qh ns d.args++[qv ns d.result])=true/\zQ ps (qr ns d.classes) (d.ops.map (opR ns d.classes))=true) /\
    BX w W/\qd W (default:zH).b 110 (default:zH).cs
def ptB(d:qz)(ns:List ByteArray)(ps:List Plc):Nat->Int
 | 2=>qy qj ns ps d.classes
 | 3=>jf ns ps d.classes d.ops
 | 4=>if qL ns ps d.args d.result d.saved d.slots=true then 0 else 10
 | 5=>if qX (qr ns d.classes) (qh ns d.args++[qv ns d.result])=true then 0 else 10
 | 6=>if zQ ps (qr ns d.classes) (d.ops.map (opR ns d.classes))=true then 0 else 11
 | _=>0
theorem qfz[Inhabited zH]{w:World}{C:Nat}{m:MV}{d:qz}{ns:List ByteArray}{ps:List Plc} : ∀ (k:Nat) (W:World),qii w C m d ns ps k W->qd W (default:zH).b 110 (default:zH).cs
 | 0,_,h=>h.2.2
 | 1,_,h=>h.2.2
 | 2,_,⟨_,_,h⟩=>h.fns
 | 3,_,⟨_,_,_,_,h,_⟩=>h.fns
 | 4,_,⟨_,_,_,_,_,h⟩=>h.st.fns
 | 5,_,⟨_,_,_,_,_,_,h,_⟩=>h.st.fns
 | 6,_,⟨_,_,_,_,_,_,h⟩=>h.st.fns
 | _+7,_,h=>h.2.2
theorem qkk[Inhabited zH]{w:World}{C:Nat}{m:MV}{d:qz}{E:List qA}(hR:qgt w m d E)(hbase:w.heap.size<=C) :
 ∀k f,yq[k]?=some f->∀W,qii w C m d (E.map (·.name)) (E.map qA.place) k W->Calls prog f #[.pointer (some ⟨C,0,none⟩)] W (PtS w (ptB d (E.map (·.name)) (E.map qA.place) k) (qii w C m d (E.map (·.name)) (E.map qA.place) (k+1))):=by
 obtain⟨mn,rg,⟨ka,kn,kc⟩,⟨oa,on,oc⟩,ar,rs,sv,sl⟩:=m
 have hres:=hR.result
 have hslo:=hR.slots
 dsimp only at hres hslo
 intro k f hf W hW
 match k,hf,hW with
 |0,hf,hW=>
  cases hf
  obtain⟨hb,hC,hF⟩:=hW
  refine(Jg C _ true W hC (by have hn:=ZF d.name W (hR.env.below hb);rw[hR.name,←hR.same] at hn;exact hn)).mono fun e W' ⟨he,hb'⟩=>⟨he,hb.trans (hb'.mono hb.size),fun _=>⟨hb.trans (hb'.mono hb.size),hC.below hb' hC.lt,hF.below hb' hF.lt⟩⟩
 |1,hf,hW=>
  cases hf
  obtain⟨hb,hC,hF⟩:=hW
  exact(qdO C _ E w W hb hbase hC hF hR.ne hR.few hR.ok (hR.places W hb)).mono fun e W' ⟨he,nV,pV,hS⟩=>⟨he,hS.below,fun _=>⟨nV,pV,hS⟩⟩
 |2,hf,hW=>
  cases hf
  obtain⟨nV,pV,hS⟩:=hW
  exact(Kz C mn rs rg ⟨oa,on,oc⟩ ar sv ka kn kc sl nV pV ⟨none,0,0⟩ ⟨none,0,0⟩ 0 _ _ d.classes w W hR.env hS hR.classes).mono fun e W' ⟨he,hb,h⟩=>⟨he,hb,fun h0=>by
   obtain⟨cV,h1,h2⟩:=h h0
   exact⟨h0,nV,pV,cV,h1,h2⟩⟩
 |3,hf,hW=>
  cases hf
  obtain⟨h0,nV,pV,cV,hS,hL⟩:=hW
  have hkn:=hR.classes.1
  have hk64:=(xD h0).1
  dsimp only at hkn
  exact(qdQ C mn rs rg ⟨ka,kn,kc⟩ ar sv oa on oc sl nV pV cV ⟨none,0,0⟩ 0 _ _ d.classes d.ops w W hS hR.classes (by dsimp only;omega) hL (Zl hS.same h0) hR.ops hR.oub).mono fun e W' ⟨he,hb,h⟩=>⟨he,hb,fun h1=>by
   obtain⟨oV,g1,g2,g3⟩:=h h1
   exact⟨⟨h0,h1⟩,nV,pV,cV,oV,g1,g2,g3⟩⟩
 |4,hf,hW=>
  cases hf
  obtain⟨⟨h0,h1⟩,nV,pV,cV,oV,hRd⟩:=hW
  refine(Ju C mn rs rg ⟨ka,kn,kc⟩ ⟨oa,on,oc⟩ ar sv sl nV pV cV oV ⟨none,0,0⟩ 0 _ _ _ _ d.args d.saved w W hRd hR.args hR.saved).mono fun e W' h=>?_
  rw[hres,hslo] at h
  rcases h with⟨hf,he,hb⟩|⟨hf,he,aV,g1,g2,g3,_,_,W1,aV0,r0,g4,g5,g6,g7⟩
  ·refine⟨?_,hb,?_⟩
   ·show e = .returned (.int .i64 (if qL (E.map (·.name)) (E.map qA.place) d.args d.result d.saved d.slots=true then 0 else 10))
    rw[hf];exact he
   ·show(if qL (E.map (·.name)) (E.map qA.place) d.args d.result d.saved d.slots=true then(0:Int) else 10)=0->_
    rw[hf];intro h;cases h
  ·refine⟨?_,g1.st.below,fun _=>⟨⟨h0,h1,hf⟩,nV,pV,cV,oV,aV,?_,g2,g3,W1,aV0,r0,?_,g5,g6,g7⟩⟩
   ·show e = .returned (.int .i64 (if qL (E.map (·.name)) (E.map qA.place) d.args d.result d.saved d.slots=true then 0 else 10))
    rw[hf];exact he
   ·rw[hres,hslo];exact g1
   ·rw[hres,hslo];exact g4
 |5,hf,hW=>
  cases hf
  obtain⟨⟨h0,h1,h2⟩,nV,pV,cV,oV,aV,g1,g2,g3,W1,aV0,r0,g4,g5,g6,g7⟩:=hW
  have hcl:(qr (E.map (·.name)) d.classes).length<=64:=by have:=(xD h0).1;simpa[qr] using this
  refine(qaG C _ nV pV cV oV aV aV0 _ r0 _ _ _ _ (qh (E.map (fun x:qA=>x.name)) d.args) w W W1 g1 g2 (by simpa[qh] using g3) hcl g4 g5 g6 g7).mono fun e W' ⟨he,hq⟩=>⟨he,hq.st.below,fun hx=>⟨⟨h0,h1,h2,?_⟩,nV,pV,cV,oV,aV,hq⟩⟩
  change(if qX (qr (E.map (·.name)) d.classes) (qh (E.map (·.name)) d.args++[qv (E.map (·.name)) d.result])=true then(0:Int) else 10)=0 at hx
  split at hx
  ·assumption
  ·cases hx
 |6,hf,hW=>
  cases hf
  obtain⟨⟨h0,h1,h2,h3⟩,nV,pV,cV,oV,aV,g1⟩:=hW
  have hcl:(qr (E.map (·.name)) d.classes).length<=64:=by have:=(xD h0).1;simpa[qr] using this
  have hol:(d.ops.map (opR (E.map (·.name)) d.classes)).length<=64:=by have:=(Zk h1).1;simpa using this
  refine(qbt C _ nV pV cV oV aV _ _ _ _ _ w W g1 (by omega) (by omega) (qkj g1.st.same h0 h1) (Zl g1.st.same h0)).mono fun e W' ⟨he,hb⟩=>⟨he,g1.st.below.trans (hb.mono g1.st.below.size),fun hx=>⟨⟨h0,h1,h2,h3,?_⟩,g1.st.below.trans (hb.mono g1.st.below.size),g1.st.fns.below hb g1.st.fns.lt⟩⟩
  change(if zQ (E.map qA.place) (qr (E.map (·.name)) d.classes) (d.ops.map (opR (E.map (·.name)) d.classes))=true then(0:Int) else 11)=0 at hx
  split at hx
  ·assumption
  ·cases hx
 | k+7,hf,_=>simp[yq] at hf
theorem qcQ[Inhabited zH]{w:World}{C:Nat}{m:MV}{d:qz}{E:List qA}(hR:qgt w m d E)(hbase:w.heap.size<=C)(N:Nat)(hN:N<=7)(hg:(default:zH).cs=jE C (yq.take N))(W:World)
 (h0:qii w C m d (E.map (·.name)) (E.map qA.place) 0 W) :
 Calls prog 58 #[.slice (some ⟨(default:zH).b,0,none⟩) N N] W (qgh (fun W'=>qii w C m d (E.map (·.name)) (E.map qA.place) N W'/\∀j,j<N->ptB d (E.map (·.name)) (E.map qA.place) j=0)
  (fun x W'=>BX w W'/\∃k,k<N/\x=ptB d (E.map (·.name)) (E.map qA.place) k/\∀j,j<k->ptB d (E.map (·.name)) (E.map qA.place) j=0)):=by
 have hl:(yq.take N).length=N:=by rw[List.length_take];exact Nat.min_eq_left hN
 have:=qbW C (default:zH).b (yq.take N) (fun k W'=>qii w C m d (E.map (·.name)) (E.map qA.place) k W'/\k<=N/\∀j,j<k->ptB d (E.map (·.name)) (E.map qA.place) j=0)
  (fun x W'=>BX w W'/\∃k,k<N/\x=ptB d (E.map (·.name)) (E.map qA.place) k/\∀j,j<k->ptB d (E.map (·.name)) (E.map qA.place) j=0) W (by omega)
  (fun k W' h=>by have:=qfz k W' h.1;rw[hg] at this;exact this)
  (fun f hf=>by
    exact qdW f (List.mem_of_mem_take hf))
  (fun k f hf W' hW=>by
    have hk:k<N:=by have:=(vS.1 hf).1;omega
    have hf':yq[k]?=some f:=by rw[List.getElem?_take] at hf;simpa[hk] using hf
    refine(qkk hR hbase k f hf' W' hW.1).mono fun e W2 ⟨he,hb,h⟩=>⟨_,he,fun hx=>⟨h hx,hk,fun j hj=>?_⟩,fun _=>⟨hb,k,hk,rfl,hW.2.2⟩⟩
    by_cases hjk:j=k
    ·rw[hjk];exact hx
    ·exact hW.2.2 j (by omega))
  ⟨h0,vO _,fun j hj=>by omega⟩
 rw[hl] at this
 exact this.mono fun e W' ⟨x,he,h1,h2⟩=>⟨x,he,fun hx=>⟨(h1 hx).1,(h1 hx).2.2⟩,h2⟩
theorem qdX{d:qz}{ns:List ByteArray}{ps:List Plc}(hnm:qj d.name=true)(hne:ns ≠ [])(h:∀j,j<7->ptB d ns ps j=0):zV qj d 0 ns ps=0:=by
 have h2:qy qj ns ps d.classes=0:=h 2 (by omega)
 have h3:jf ns ps d.classes d.ops=0:=h 3 (by omega)
 have h4:(if qL ns ps d.args d.result d.saved d.slots=true then(0:Int) else 10)=0:=h 4 (by omega)
 have h5:(if qX (qr ns d.classes) (qh ns d.args++[qv ns d.result])=true then(0:Int) else 10)=0:=h 5 (by omega)
 have h6:(if zQ ps (qr ns d.classes) (d.ops.map (opR ns d.classes))=true then(0:Int) else 11)=0:=h 6 (by omega)
 unfold zV
 rw[if_neg (by simp[hnm]),if_neg (by simp),if_neg hne,if_neg (by simp[h2]),if_neg (by simp[h3])]
 cases hc:qL ns ps d.args d.result d.saved d.slots
 ·rw[hc] at h4;cases h4
 ·cases hh:qX (qr ns d.classes) (qh ns d.args++[qv ns d.result])
  ·rw[hh] at h5;cases h5
  ·cases hr:zQ ps (qr ns d.classes) (d.ops.map (opR ns d.classes))
   ·rw[hr] at h6;cases h6
   ·simp
theorem qfA{d:qz}{ns:List ByteArray}{ps:List Plc}(hnm:qj d.name=true)(hne:ns ≠ []){k:Nat}(hk:k<7)(h:∀j,j<k->ptB d ns ps j=0)(hx:ptB d ns ps k≠0):zV qj d 0 ns ps=ptB d ns ps k:=by
 match k,hk,h,hx with
 | 0,_,_,hx=>exact absurd rfl hx
 | 1,_,_,hx=>exact absurd rfl hx
 |2,_,h,hx=>
  have h2:qy qj ns ps d.classes≠0:=hx
  unfold zV
  rw[if_neg (by simp[hnm]),if_neg (by simp),if_neg hne,if_pos h2];rfl
 |3,_,h,hx=>
  have h2:qy qj ns ps d.classes=0:=h 2 (by omega)
  have h3:jf ns ps d.classes d.ops≠0:=hx
  unfold zV
  rw[if_neg (by simp[hnm]),if_neg (by simp),if_neg hne,if_neg (by simp[h2]),if_pos h3];rfl
 |4,_,h,hx=>
  have h2:qy qj ns ps d.classes=0:=h 2 (by omega)
  have h3:jf ns ps d.classes d.ops=0:=h 3 (by omega)
  have h4:¬ (if qL ns ps d.args d.result d.saved d.slots=true then(0:Int) else 10)=0:=hx
  unfold zV
  rw[if_neg (by simp[hnm]),if_neg (by simp),if_neg hne,if_neg (by simp[h2]),if_neg (by simp[h3])]
  show _=(if qL ns ps d.args d.result d.saved d.slots=true then(0:Int) else 10)
  cases hc:qL ns ps d.args d.result d.saved d.slots
  ·simp
  ·rw[hc] at h4;exact absurd rfl h4
 |5,_,h,hx=>
  have h2:qy qj ns ps d.classes=0:=h 2 (by omega)
  have h3:jf ns ps d.classes d.ops=0:=h 3 (by omega)
  have h4:(if qL ns ps d.args d.result d.saved d.slots=true then(0:Int) else 10)=0:=h 4 (by omega)
  have h5:¬ (if qX (qr ns d.classes) (qh ns d.args++[qv ns d.result])=true then(0:Int) else 10)=0:=hx
  unfold zV
  rw[if_neg (by simp[hnm]),if_neg (by simp),if_neg hne,if_neg (by simp[h2]),if_neg (by simp[h3])]
  show _=(if qX (qr ns d.classes) (qh ns d.args++[qv ns d.result])=true then(0:Int) else 10)
  cases hc:qL ns ps d.args d.result d.saved d.slots
  ·rw[hc] at h4;cases h4
  ·cases hh:qX (qr ns d.classes) (qh ns d.args++[qv ns d.result])
   ·simp
   ·rw[hh] at h5;exact absurd rfl h5
 |6,_,h,hx=>
  have h2:qy qj ns ps d.classes=0:=h 2 (by omega)
  have h3:jf ns ps d.classes d.ops=0:=h 3 (by omega)
  have h4:(if qL ns ps d.args d.result d.saved d.slots=true then(0:Int) else 10)=0:=h 4 (by omega)
  have h5:(if qX (qr ns d.classes) (qh ns d.args++[qv ns d.result])=true then(0:Int) else 10)=0:=h 5 (by omega)
  have h6:¬ (if zQ ps (qr ns d.classes) (d.ops.map (opR ns d.classes))=true then(0:Int) else 11)=0:=hx
  unfold zV
  rw[if_neg (by simp[hnm]),if_neg (by simp),if_neg hne,if_neg (by simp[h2]),if_neg (by simp[h3])]
  show _=(if zQ ps (qr ns d.classes) (d.ops.map (opR ns d.classes))=true then(0:Int) else 11)
  cases hc:qL ns ps d.args d.result d.saved d.slots
  ·rw[hc] at h4;cases h4
  ·cases hh:qX (qr ns d.classes) (qh ns d.args++[qv ns d.result])
   ·rw[hh] at h5;cases h5
   ·cases hr:zQ ps (qr ns d.classes) (d.ops.map (opR ns d.classes))
    ·simp
    ·rw[hr] at h6;exact absurd rfl h6
theorem qfB{w:World}{m:MV}{d:qz}{E:List qA}(hR:qgt w m d E) :
 Calls prog 30 #[m.val] w fun e w'=>e = .returned (.int .i64 (zV qj d 0 (E.map (·.name)) (E.map qA.place)))/\BX w w':=by
 have hBF:BX w (yY w m 7):=(qi.alloc (by simp) _).alloc (by simp;omega) _
 have K:Calls prog 58 #[.slice (some ⟨w.heap.size+1+1,0,none⟩) 7 7] (yY w m 7) fun e w'=>e = .returned (.int .i64 (zV qj d 0 (E.map (·.name)) (E.map qA.place)))/\BX w w':=by
  letI:Inhabited zH:=⟨⟨w.heap.size+1+1,jE (w.heap.size+1) (yq.take 7)⟩⟩
  have hCh:jq (yY w m 7) (w.heap.size+1) m.fresh:=by
   have:=(qd.new (w.alloc (.cells #[.string m.name,.slice m.regs.a m.regs.n m.regs.c,.slice m.classes.a m.classes.n m.classes.c,.slice m.ops.a m.ops.n m.ops.c,.slice m.args.a m.args.n m.args.c,.string m.result,.slice m.saved.a m.saved.n m.saved.c,.int .i64 m.slots] 27)) 108 m.fresh.cells).alloc (.cells (jE (w.heap.size+1) (yq.take 7)) 110)
   rw[vZ] at this;exact this
  have hF:qd (yY w m 7) (w.heap.size+1+1) 110 (jE (w.heap.size+1) (yq.take 7)):=by
   have:=qd.new ((w.alloc (.cells #[.string m.name,.slice m.regs.a m.regs.n m.regs.c,.slice m.classes.a m.classes.n m.classes.c,.slice m.ops.a m.ops.n m.ops.c,.slice m.args.a m.args.n m.args.c,.string m.result,.slice m.saved.a m.saved.n m.saved.c,.int .i64 m.slots] 27)).alloc (.cells m.fresh.cells 108)) 110 (jE (w.heap.size+1) (yq.take 7))
   rw[vZ,vZ] at this;exact this
  have hnn:E.map (fun x:qA=>x.name) ≠ []:=by intro h;exact hR.ne (List.map_eq_nil_iff.1 h)
  refine(qcQ hR (C:=w.heap.size+1) (by omega) 7 (vL _) rfl (yY w m 7) ⟨hBF,hCh,hF⟩).mono fun e W' ⟨x,he,h1,h2⟩=>?_
  by_cases hx:x=0
  ·obtain⟨hI,hall⟩:=h1 hx
   have hb:BX w W':=hI.2.1
   exact⟨by rw[he,hx,qdX hR.name hnn hall],hb⟩
  ·obtain⟨hb,k,hk,hxk,hj⟩:=h2 hx
   exact⟨by rw[he,hxk,qfA hR.name hnn hk hj (by rw[←hxk];exact hx)],hb⟩
 unfold yY MV.fresh CV.cells jE yq at K
 unfold MV.val
 simp only[List.take_succ_cons,List.take_zero,List.map_cons,List.map_nil] at K
 clear hR hBF
 go_enter func30,ntmps30
 go_wp2_with (go_at_call 58;go_loud (refine K.mono ?_;clear K;rintro e W1 ⟨rfl,hb⟩))
 go_ret
 exact⟨rfl,hb⟩
end Go.Proofs.YtomlgdnafeeeiaaGreatDoor
