
import Derived.Test.YtomlgdnafeeeiaaGreatDoorGeoTwo
import Derived.Lib.SplitLaws
set_option maxHeartbeats 8000000
set_option maxRecDepth 100000
/-
 The lexer's Tokens of any text of a name's length.
-/
namespace Go.Proofs.YtomlgdnafeeeiaaGreatDoor
open Proofs.Tryz
open Go.RowKit Go.Shelf
structure qeQ where
 kind:Int
 text:ByteArray
 num:Int
 col:Int
 err:Int
def qeQ.ret(t:qeQ):Value:=.tuple #[.agg #[.int .i64 t.kind,.string t.text,.int .i64 t.num,.int .i64 0,.int .i64 t.col],.int .i64 t.err]
def qgp(s:ByteArray)(k:Nat)(t:qeQ):Prop:=t.text.size<=65536/\(t.err=0->(t.kind=1->xo t.text)/\1<=t.text.size/\k+t.text.size<=s.size)
def JJ(s:ByteArray)(k:Nat)(w:World)(e:Ending)(w':World):Prop:=∃t:qeQ,e = .returned t.ret/\qgp s k t/\BX w w'
theorem Qx{s:ByteArray}{k:Nat}{w w':World}{e:Ending}(kind:Int)(text:ByteArray)(num col err:Int)
 (he:e = .returned (.tuple #[.agg #[.int .i64 kind,.string text,.int .i64 num,.int .i64 0,.int .i64 col],.int .i64 err])) (h1:text.size<=65536) (h:err=0->(kind=1->xo text)/\1<=text.size/\k+text.size<=s.size) (hb:BX w w'):JJ s k w e w':=
 ⟨⟨kind,text,num,col,err⟩,he,⟨h1,h⟩,hb⟩
theorem qdw(c:UInt8)(w:World):Calls prog 223 #[.int .u8 c.toNat] w fun e w'=>(∃b:Bool,e = .returned (.bool b))/\w=w':=by
 have C:=strings_IndexByte ⟨#[123,125,61,58]⟩ c.toNat w
 go_enter func223,ntmps223
 go_wp2_with (go_at_call 218;refine C.mono ?_;rintro e w' ⟨rfl,rfl⟩)
 go_ret
 exact⟨⟨_,rfl⟩,rfl⟩
theorem Jc{α:Type}{p:α->Bool} : ∀ {l:List α} {x:α},x∈l.takeWhile p->p x=true
 |a::l,x,h=>by
  rw[List.takeWhile_cons] at h
  cases hp:p a with
  | false=>rw[hp,if_neg (by decide)] at h;cases h
  |true=>
   rw[hp,if_pos rfl] at h
   rcases List.mem_cons.1 h with rfl|h
   ·exact hp
   ·exact Jc h
theorem qbP(p:Int->Bool)(s:ByteArray)(k:Nat):(s.extract k (zb p s k)).data.toList=(s.data.toList.drop k).takeWhile fun c=>p c.toNat:=by
 rw[Lib.extract_data]
 unfold zb
 rw[Nat.add_sub_cancel_left]
 exact(List.prefix_iff_eq_take.1 (List.takeWhile_prefix _)).symm
theorem qdx{p:Int->Bool}{s:ByteArray}{k:Nat} : ∀c,c∈(s.extract k (zb p s k)).data.toList->p c.toNat=true:=fun c hc=>by
 rw[qbP] at hc
 exact Jc (p:=fun c:UInt8=>p c.toNat) hc
theorem Yp{p:Int->Bool}{s:ByteArray}{k:Nat}(h:k<=s.size):(s.extract k (zb p s k)).size=zb p s k-k:=by
 have:=yF p s k h
 simp;omega
theorem qdy{p:Int->Bool}{s:ByteArray}{k:Nat}(h:k<s.size)(hp:p s[k].toNat=true):k<zb p s k:=by
 rw[←Qf h hp]
 have:=Jp p s (k+1)
 omega
theorem qgU{s:ByteArray}{k:Nat}(h:k<s.size)(hl:xe s[k].toNat=true)(h20:zb qU s k<=k+20):xo (s.extract k (zb qU s k)):=by
 have hin:qU s[k].toNat=true:=by unfold qU;rw[hl];rfl
 have hp:=qdy h hin
 have hz:=Yp (p:=qU) (Nat.le_of_lt h)
 refine⟨by omega,by omega,?_,qdx⟩
 have he:(s.extract k (zb qU s k))[0]'(by omega)=s[k]:=by
  have hd:=Zw (s.extract k (zb qU s k)) 0 (by omega)
  rw[List.drop_zero,qbP,Zw s k h,List.takeWhile_cons,hin,if_pos rfl] at hd
  exact(List.cons.inj hd).1.symm
 rw[he];exact hl
theorem qgV{l:List UInt8}(h0:l ≠ [])(h:∀c,c∈l->xK c.toNat=true):∃n,Lib.atoi l=some n:=by
 have hd:∀ (l:List UInt8) (acc:Nat),(∀c,c∈l->xK c.toNat=true)->∃n,Lib.decFrom acc l=some n:=by
  intro l
  induction l with
  | nil=>exact fun acc _=>⟨acc,rfl⟩
  |cons b r ih=>
   intro acc hl
   have hb:=hl b (by simp)
   unfold xK at hb
   simp only[Bool.and_eq_true,decide_eq_true_eq] at hb
   have:Lib.digitVal b=some (b.toNat-48):=by unfold Lib.digitVal;rw[if_pos (by omega)]
   obtain⟨n,hn⟩:=ih (acc*10+(b.toNat-48)) fun c hc=>hl c (by simp[hc])
   exact⟨n,by simp only[Lib.decFrom,this];exact hn⟩
 cases l with
 | nil=>exact absurd rfl h0
 |cons b r=>
  have hb:=h b (by simp)
  unfold xK at hb
  simp only[Bool.and_eq_true,decide_eq_true_eq] at hb
  have h45:(b==45)=false:=by simpa using fun e:b=45=>by subst e;revert hb;decide
  have h43:(b==43)=false:=by simpa using fun e:b=43=>by subst e;revert hb;decide
  obtain⟨n,hn⟩:=hd (b::r) 0 h
  refine⟨n,?_⟩
  simp[Lib.atoi,h45,h43,Lib.decNat,hn]
theorem qdz(w:World)(e:TypeId)(s:ByteArray):BX w (Lib.bytesWorld w e s):=
 ⟨rfl,rfl,rfl,by rw[Lib.bytesWorld_size];omega,fun k hk=>Lib.bytesWorld_at_old w e s k hk⟩
theorem qdA(s:ByteArray)(k:Nat)(w:World)(hs:s.size<=65536)(hk:k<s.size)(hl:xe s[k].toNat=true) :
 Calls prog 220 #[.string s,.int .i64 k] w (JJ s k w):=by
 by_cases hle:zb qU s k<=k+20
 ·have hz:=Yp (p:=qU) (Nat.le_of_lt hk)
  have h2:=yF qU s k (Nat.le_of_lt hk)
  have hN:=qgU hk hl hle
  refine(qgk s k _ w hs (Nat.le_of_lt hk) rfl hle).mono fun e w' ⟨he,hb⟩=>Qx 1 _ 0 _ 0 he (by omega) (fun _=>⟨fun _=>hN,hN.pos,by omega⟩) hb
 ·have C1:=fun w=>XZ s k w hs (Nat.le_of_lt hk)
  have h2:=yF qU s k (Nat.le_of_lt hk)
  generalize zb qU s k=n at C1 hle h2
  go_enter func220,ntmps220
  go_wp2_with (go_at_call 211;refine(C1 _).mono ?_;clear C1;rintro e w' ⟨rfl,rfl⟩)
  refine bodyPost_ret (v:=.tuple #[.agg #[.int .i64 0,.string ⟨#[]⟩,.int .i64 0,.int .i64 0,.int .i64 (k+1)],.int .i64 2]) (by simp[results,results220,go_sem]) rfl ?_
  exact Qx 0 ⟨#[]⟩ 0 _ 2 rfl (by decide) (fun h=>absurd h (by decide)) (qi)
theorem qbl(s:ByteArray)(k:Nat)(w:World)(hs:s.size<=65536)(hk:k<s.size)(hd:xK s[k].toNat=true) :
 Calls prog 222 #[.string s,.int .i64 k] w (JJ s k w):=by
 have C1:=fun w=>qcp s k w hs (Nat.le_of_lt hk)
 have h2:=yF xK s k (Nat.le_of_lt hk)
 have h3:=qdy hk hd
 have hz:=Yp (p:=xK) (Nat.le_of_lt hk)
 have hdig:=qdx (p:=xK) (s:=s) (k:=k)
 generalize zb xK s k=n at C1 h2 h3 hz hdig
 by_cases hl:∃h:n<s.size,xe s[n].toNat=true
 ·obtain⟨hn,hl⟩:=hl
  have C2:=fun w=>yv s[n].toNat w
  rw[hl] at C2
  clear hdig hl hd
  go_enter func222,ntmps222
  go_wp2_with (first
   |(go_at_call 211;refine(C1 _).mono ?_;clear C1;rintro e w' ⟨rfl,rfl⟩)
   |(go_at_call 219;refine(C2 _).mono ?_;clear C2;rintro e w' ⟨rfl,rfl⟩))
  refine bodyPost_ret (v:=.tuple #[.agg #[.int .i64 0,.string ⟨#[]⟩,.int .i64 0,.int .i64 0,.int .i64 (n+1)],.int .i64 3]) (by simp[results,results222,go_sem]) rfl ?_
  exact Qx 0 ⟨#[]⟩ 0 _ 3 rfl (by decide) (fun h=>absurd h (by decide)) (qi)
 ·have C2:∀ (h:n<s.size) w,Calls prog 219 #[.int .u8 s[n].toNat] w fun e w'=>e = .returned (.bool false)/\w=w':=fun h w=>by
   have:=yv s[n].toNat w
   cases hb:xe s[n].toNat with
   | false=>rw[hb] at this;exact this
   | true=>exact absurd ⟨h,hb⟩ hl
  clear hl hd
  by_cases h6:k+6<n
  ·clear hdig
   by_cases hn:n<s.size
   all_goals
    go_enter func222,ntmps222
    go_wp2_with (first
     |(go_at_call 211;refine(C1 _).mono ?_;clear C1;rintro e w' ⟨rfl,rfl⟩)
     |(go_at_call 219;refine(C2 hn _).mono ?_;clear C2;rintro e w' ⟨rfl,rfl⟩))
    refine bodyPost_ret (v:=.tuple #[.agg #[.int .i64 0,.string ⟨#[]⟩,.int .i64 0,.int .i64 0,.int .i64 (k+1)],.int .i64 2]) (by simp[results,results222,go_sem]) rfl ?_
    exact Qx 0 ⟨#[]⟩ 0 _ 2 rfl (by decide) (fun h=>absurd h (by decide)) (qi)
  ·have C3:=fun w=>Ym 2 s k n w hs (by omega) h2
   have hnil:(s.extract k n).data.toList ≠ []:=fun e=>by
    have h0:(s.extract k n).size=0:=by rw[Lib.size_eq,e];rfl
    omega
   obtain⟨num,hnum⟩:=qgV hnil hdig
   have C4:∀w,Calls prog 231 #[.string (s.extract k n)] w fun e w'=>e = .returned (.tuple #[.int .i64 num,.nilIface])/\BX w w':=fun w=>
    (strconv_Atoi (s.extract k n) num (by omega) hnum w).mono fun e w' ⟨he,t,hw⟩=>⟨he,by rw[hw];exact qdz _ _ _⟩
   clear hdig hnum
   by_cases hn:n<s.size
   all_goals
    go_enter func222,ntmps222
    go_wp2_with (first
     |(go_at_call 211;refine(C1 _).mono ?_;clear C1;rintro e w' ⟨rfl,rfl⟩)
     |(go_at_call 219;refine(C2 hn _).mono ?_;clear C2;rintro e w' ⟨rfl,rfl⟩)
     |(go_at_call 224;refine(C3 _).mono ?_;clear C3;rintro e w1 ⟨rfl,hb⟩;obtain⟨hc,hf⟩:=yR hb;have hz1:w.heap.size<w1.heap.size:=(by have:=hb.size;simp at this;omega))
     |(go_at_call 231;refine(C4 _).mono ?_;clear C4;rintro e w2 ⟨rfl,hb2⟩;obtain⟨hc2,hf2⟩:=yR hb2;have hz2:w1.heap.size+1<=w2.heap.size:=(by have:=hb2.size;simpa using this)))
    have hB:BX w w2:=(qi.trans (hb.mono (by simp))).alloc (by omega) _ |>.trans (hb2.mono (by simp;omega))
    have hP:JJ s k w (.returned (.tuple #[.agg #[.int .i64 2,.string (s.extract k n),.int .i64 num,.int .i64 0,.int .i64 (k+1)],.int .i64 0])) _:=Qx 2 _ num _ 0 rfl (by omega) (fun _=>⟨fun h=>absurd h (by decide),by omega,by omega⟩) ((((((hB.setCell (p:=⟨w1.heap.size,2,none⟩) (by simp;omega) (.int .i64 num)).setCell (p:=⟨w.heap.size,0,none⟩) (by simp) (.int .i64 2)).setCell (p:=⟨w.heap.size,1,none⟩) (by simp) (.string (s.extract k n))).setCell (p:=⟨w.heap.size,2,none⟩) (by simp) (.int .i64 num)).setCell (p:=⟨w.heap.size,3,none⟩) (by simp) (.int .i64 0)).setCell (p:=⟨w.heap.size,4,none⟩) (by simp) (.int .i64 (k+1)))
    have hR2:qd w2 w.heap.size 252 #[.int .i64 0,.string ⟨#[]⟩,.int .i64 0,.int .i64 0,.int .i64 0]:=(((qd.new w _ _).below hb (by simp)).alloc _).below hb2 (by simp;omega)
    have hC:=(((((hR2.other (T:=w1.heap.size) (j:=2) (by omega) (.int .i64 num)).set (j:=0) (.int .i64 2)).set (j:=1) (.string (s.extract k n))).set (j:=2) (.int .i64 num)).set (j:=3) (.int .i64 0)).set (j:=4) (.int .i64 (k+1))
    generalize(((((w2.setCell ⟨w1.heap.size,2,none⟩ (.int .i64 num)).setCell ⟨w.heap.size,0,none⟩ (.int .i64 2)).setCell ⟨w.heap.size,1,none⟩ (.string (s.extract k n))).setCell ⟨w.heap.size,2,none⟩ (.int .i64 num)).setCell ⟨w.heap.size,3,none⟩ (.int .i64 0)).setCell ⟨w.heap.size,4,none⟩ (.int .i64 (k+1))=Wf at hP hC ⊢
    have z0:=hC.cell (j:=0) (v:=.int .i64 2) rfl
    have z1:=hC.cell (j:=1) (v:=.string (s.extract k n)) rfl
    have z2:=hC.cell (j:=2) (v:=.int .i64 num) rfl
    have z3:=hC.cell (j:=3) (v:=.int .i64 0) rfl
    have z4:=hC.cell (j:=4) (v:=.int .i64 (k+1)) rfl
    exact bodyPost_ret (v:=.tuple #[.agg #[.int .i64 2,.string (s.extract k n),.int .i64 num,.int .i64 0,.int .i64 (k+1)],.int .i64 0]) (by simp[results,results222,go_sem,z0,z1,z2,z3,z4]) rfl hP
theorem qcx(s:ByteArray)(k:Nat)(w:World)(hs:s.size<=65536)(hk:k<s.size) :
 Calls prog 213 #[.string s,.int .i64 k] w (JJ s k w):=by
 have L:=fun w=>yv s[k].toNat w
 have D:=fun w=>QK s[k].toNat w
 have S:=fun w=>qdw s[k] w
 by_cases hl:xe s[k].toNat=true
 ·rw[hl] at L
  have C2:=fun w=>qdA s k w hs hk hl
  clear D S hl
  go_enter func213,ntmps213
  go_wp2_with (first
   |(go_at_call 219;refine(L _).mono ?_;clear L;rintro e w' ⟨rfl,rfl⟩)
   |(go_at_call 220;refine(C2 _).mono ?_;clear C2;rintro e w' ⟨⟨kind,text,num,col,err⟩,rfl,ht,hb⟩;obtain⟨hc,hf⟩:=yR hb;have hz:w.heap.size<w'.heap.size:=(by have:=hb.size;simp at this;omega);unfold qeQ.ret;dsimp only))
  refine bodyPost_ret (v:=.tuple #[.agg #[.int .i64 kind,.string text,.int .i64 num,.int .i64 0,.int .i64 col],.int .i64 err]) (by simp[results,results213,go_sem,hc]) rfl ?_
  exact⟨⟨kind,text,num,col,err⟩,rfl,ht,((((((qi.trans (hb.mono (by simp))).setCell (by simp) _).setCell (by simp) _).setCell (by simp) _).setCell (by simp) _).setCell (by simp) _)⟩
 ·have hl':xe s[k].toNat=false:=by simpa using hl
  rw[hl'] at L
  by_cases hd:xK s[k].toNat=true
  ·rw[hd] at D
   have C2:=fun w=>qbl s k w hs hk hd
   clear S hl hl' hd
   go_enter func213,ntmps213
   go_wp2_with (first
    |(go_at_call 219;refine(L _).mono ?_;clear L;rintro e w' ⟨rfl,rfl⟩)
    |(go_at_call 221;refine(D _).mono ?_;clear D;rintro e w' ⟨rfl,rfl⟩)
    |(go_at_call 222;refine(C2 _).mono ?_;clear C2;rintro e w' ⟨⟨kind,text,num,col,err⟩,rfl,ht,hb⟩;obtain⟨hc,hf⟩:=yR hb;have hz:w.heap.size<w'.heap.size:=(by have:=hb.size;simp at this;omega);unfold qeQ.ret;dsimp only))
   refine bodyPost_ret (v:=.tuple #[.agg #[.int .i64 kind,.string text,.int .i64 num,.int .i64 0,.int .i64 col],.int .i64 err]) (by simp[results,results213,go_sem,hc]) rfl ?_
   exact⟨⟨kind,text,num,col,err⟩,rfl,ht,((((((qi.trans (hb.mono (by simp))).setCell (by simp) _).setCell (by simp) _).setCell (by simp) _).setCell (by simp) _).setCell (by simp) _)⟩
  ·have hd':xK s[k].toNat=false:=by simpa using hd
   rw[hd'] at D
   have C3:=fun w=>Ym 3 s k (k+1) w hs (by omega) hk
   have hx1:(s.extract k (k+1)).size=1:=by simp;omega
   have hw:IntKind.i64.wrap ((k:Int)+1)=k+1:=vI _ (by omega)
   have C3':∀w,Calls prog 224 #[.int .i64 3,.string s,.int .i64 k,.int .i64 (k+1)] w fun e w'=>e = .returned (.agg #[.int .i64 3,.string (s.extract k (k+1)),.int .i64 0,.int .i64 0,.int .i64 (k+1)])/\BX w w':=C3
   clear C3 hl hl' hd hd'
   go_enter func213,ntmps213
   go_wp2_with (first
    |(go_at_call 219;refine(L _).mono ?_;clear L;rintro e w' ⟨rfl,rfl⟩)
    |(go_at_call 221;refine(D _).mono ?_;clear D;rintro e w' ⟨rfl,rfl⟩)
    |(go_at_call 223;refine(S _).mono ?_;clear S;rintro e w' ⟨⟨b,rfl⟩,rfl⟩;cases b)
    |(go_at_call 224;refine(C3' _).mono ?_;clear C3';rintro e w' ⟨rfl,hb⟩;obtain⟨hc,hf⟩:=yR hb;have hz:w.heap.size<w'.heap.size:=(by have:=hb.size;simp at this;omega)))
   ·refine bodyPost_ret (v:=.tuple #[.agg #[.int .i64 0,.string ⟨#[]⟩,.int .i64 0,.int .i64 0,.int .i64 (k+1)],.int .i64 3]) (by simp[results,results213,go_sem]) rfl ?_
    exact Qx 0 ⟨#[]⟩ 0 _ 3 rfl (by decide) (fun h=>absurd h (by decide)) (qi)
   ·refine bodyPost_ret (v:=.tuple #[.agg #[.int .i64 3,.string (s.extract k (k+1)),.int .i64 0,.int .i64 0,.int .i64 (k+1)],.int .i64 0]) (by simp[results,results213,go_sem,hc]) rfl ?_
    exact Qx 3 _ 0 _ 0 rfl (by omega) (fun _=>⟨fun h=>absurd h (by decide),by omega,by omega⟩) ((((((qi.trans (hb.mono (by simp))).setCell (by simp) _).setCell (by simp) _).setCell (by simp) _).setCell (by simp) _).setCell (by simp) _)
section
attribute [local go_sem] Oper.semAt_some
abbrev Kk:={ t:qeQ // t.text.size<=65536/\(t.err=0->t.kind=1->xo t.text) }
def qdb(n:Int)(t:Kk):Array Value:=#[.agg #[.int .i64 t.1.kind,.string t.1.text,.int .i64 t.1.num,.int .i64 n,.int .i64 t.1.col],.int .i64 t.1.err]
structure qgK(Ts:List Nat)(Bs Bn:Nat)(s:ByteArray)(n:Int)(J:List Kk->World->Prop)(k:Nat)(pre:List Kk)(wr:World):Prop where
 le:k<=s.size
 few:pre.length<=k
 j:J pre wr
 s:wr.cell? ⟨Bs,0,none⟩=some (.string s)
 n:wr.cell? ⟨Bn,0,none⟩=some (.int .i64 n)
 ok:zp Ts wr
 os:¬ zg Ts wr Bs
 on:¬ zg Ts wr Bn
theorem qcy(m:Nat)(Ts:List Nat)(Bs Bn l:Nat)(s:ByteArray)(n:Int)(J Jx:List Kk->World->Prop)(W:World)
 (hm:1<=m) (hle:s.size<=65536) (hs:W.cell? ⟨Bs,0,none⟩=some (.string s)) (hn:W.cell? ⟨Bn,0,none⟩=some (.int .i64 n)) (hok:zp Ts W) (hos:¬ zg Ts W Bs) (hon:¬ zg Ts W Bn)
 (hJ:AbidesFrom W.heap.size J) (hY:∀pre x W1,J pre W1->pre.length<65536->YieldAt Fence.wide (m-1) prog l (qdb n x) W1 fun e W'=>
   (e = .returned (.bool true)/\J (pre++[x]) W'/\qR Ts W1 W')∨(e = .returned (.bool false)/\Jx (pre++[x]) W')) (h0:J [] W) :
 CallsIn Fence.wide m prog 210 #[.func (.yield l) #[] #[],.pointer (some ⟨Bs,0,none⟩),.pointer (some ⟨Bn,0,none⟩)] W fun e W'=>(∃v,e = .returned v) /\
  ((∃ys,ys.length<=65536/\J ys W')∨(∃pre,True/\Jx pre W')):=by
 have S0:∀k,k<=s.size->∀w,Calls prog 211 #[.string s,.int .i64 k,.func (.func 212) #[] #[]] w fun e w'=>(∃n:Nat,e = .returned (.int .i64 n)/\k<=n/\n<=s.size)/\w=w':=fun k hk w=>
  (Zx s k w hle hk).mono fun e w' ⟨he,hw⟩=>⟨⟨_,he,Jp _ _ _,yF _ _ _ hk⟩,hw⟩
 have hJB:∀pre A B,W.heap.size<=A.heap.size->J pre A->BX A B->J pre B:=fun pre A B hA hj hb=>hJ pre A B none hj (xz hb) (fun r e=>by cases e)
 have hstep:∀ (k:Nat) (pre:List Kk) (wr:World),qgK Ts Bs Bn s n J k pre wr->k<s.size->∀ (kind num col err:Int) (text:ByteArray) (w1:World),qgp s k ⟨kind,text,num,col,err⟩->BX wr w1 ->
  (∀o,(w1.alloc o).cell? ⟨Bn,0,none⟩=some (.int .i64 n)) /\
  YieldAt Fence.wide (m-1) prog l #[.agg #[.int .i64 kind,.string text,.int .i64 num,.int .i64 n,.int .i64 col],.int .i64 err] (w1.alloc (.cells #[.int .i64 kind,.string text,.int .i64 num,.int .i64 n,.int .i64 col] 252)) fun e W'=>
   (e = .returned (.bool true)/\(∃x:Kk,J (pre++[x]) W'/\W'.cell? ⟨Bs,0,none⟩=some (.string s)/\W'.cell? ⟨w1.heap.size,1,none⟩=some (.string text)/\∀k',k+text.size<=k'->k<k'->k'<=s.size->qgK Ts Bs Bn s n J k' (pre++[x]) W'))∨(e = .returned (.bool false)/\∃x:Kk,Jx (pre++[x]) W'):=fun k pre wr R hk kind num col err text w1 hF hb=>by
  have hB2:BX wr (w1.alloc (.cells #[.int .i64 kind,.string text,.int .i64 num,.int .i64 n,.int .i64 col] 252)):=hb.alloc hb.size _
  refine⟨fun o=>qb (hb.alloc hb.size o) R.n,YieldAt.mono (hY pre ⟨⟨kind,text,num,col,err⟩,hF.1,fun h=>(hF.2 h).1⟩ _ (JF hJ R.j hB2) (by have:=R.few;omega)) fun e W' h=>?_⟩
  rcases h with⟨he,hj,hkp⟩|⟨he,hx⟩
  ·have hok2:=R.ok.below hB2
   have nb:∀b,¬ zg Ts wr b->¬ zg Ts (w1.alloc (.cells #[.int .i64 kind,.string text,.int .i64 num,.int .i64 n,.int .i64 col] 252)) b:=fun b h h'=>h ((zF R.ok hB2 _).1 h')
   have hs2:=hkp.cell hok2 (qb hB2 R.s) (nb _ R.os)
   have hn2:=hkp.cell hok2 (qb hB2 R.n) (nb _ R.on)
   have ltS:=kW _ _ (qb hB2 R.s)
   have ltN:=kW _ _ (qb hB2 R.n)
   refine .inl ⟨he,_,hj,hs2,hkp.cell hok2 ?_ (zi R.ok hB2 hb.size),fun k' h1 h2 h3=>⟨h3,by have:=R.few;simp;omega,hj,hs2,hn2,hkp.ok hok2,hkp.own hok2 _ ltS (nb _ R.os),hkp.own hok2 _ ltN (nb _ R.on)⟩⟩
   unfold World.cell?;rw[World.alloc_heap_new];rfl
  ·exact .inr ⟨he,_,hx⟩
 have hR0:∀k,k<=s.size->qgK Ts Bs Bn s n J k [] W:=fun k hk=>⟨hk,vO _,h0,hs,hn,hok,hos,hon⟩
 replace hstep:=vH hstep
 clear hY hJ hJB hn hok hos hon h0
 refine callsIn_of_wp func210 rfl trivial ?_ rfl
 simp only[ntmps210,List.size_toArray,List.length_cons,List.length_nil,Nat.reduceAdd,Nat.reduceSub,Array.replicate_succ,Array.replicate_zero,List.push_toArray,List.append_toArray,List.nil_append,List.cons_append]
 gi_wp2_with (refine⟨trivial,?_⟩;gi_at_call 211;refine(callsIn_wide.2 (S0 0 (vO _) _)).mono ?_;rintro e w' ⟨⟨k0,rfl,hk1,hk2⟩,rfl⟩)
 have hRk:=hR0 k0 hk2
 clear hR0 hs
 gi_loopw [4] (fun i wr=>∃ (k:Nat) (pre:List Kk),i = .int .i64 k/\qgK Ts Bs Bn s n J k pre wr) (fun i _=>s.size-(intOf i).toNat)
 case atStart=>exact⟨k0,[],rfl,hRk⟩
 case round=>
  obtain⟨k,pre,rfl,R⟩:=hrel
  have hs2:=R.s
  have hkl:=R.le
  by_cases hk:k<s.size
  ·have F0:=fun w=>qcx s k w hle hk
   have hst:=vH (hstep.out k pre wr R hk)
   clear hstep hRk hk1 hk2
   gi_wp2_with (first
    |(refine⟨trivial,?_⟩;gi_at_call 213;refine(callsIn_wide.2 (F0 _)).mono ?_;rintro e w1 ⟨⟨kind,text,num,col,err⟩,rfl,hF,hb⟩;unfold qeQ.ret;dsimp only;obtain⟨hn1,fn,tmps,assign,body,hy,hRd⟩:=hst.out kind num col err text w1 hF hb;clear hst)
    |(refine hRd.mono ?_;clear hRd;rintro e W2 (⟨rfl,x,hJ2,hs3,ht2,hnext⟩|⟨rfl,x,hx2⟩) <;> rcases Classical.em (err=0) with h0|h0 <;> (first|(subst h0;obtain⟨_,hp1,hp2⟩:=hF.2 rfl;dsimp only at hp1 hp2;have hw2:IntKind.i64.wrap ((k:Int)+text.size)=((k+text.size:Nat):Int):=(by rw[vI _ (by omega)];omega))|have hne0:(err != 0)=true:=(by simpa using h0)))
    |(refine⟨trivial,?_⟩;gi_at_call 211;refine(callsIn_wide.2 (S0 (k+text.size) hp2 _)).mono ?_;rintro e w' ⟨⟨k2,rfl,hk3,hk4⟩,rfl⟩))
   ·exact⟨⟨k2,pre++[x],rfl,hnext k2 (by omega) (by omega) hk4⟩,by simp[intOf];omega⟩
   ·refine bodyPost_ret (results_none rfl _ _ _) rfl ?_
    exact⟨⟨_,rfl⟩,.inl ⟨pre++[x],by have:=R.few;simp;omega,hJ2⟩⟩
   ·refine bodyPost_ret (results_none rfl _ _ _) rfl ?_
    exact⟨⟨_,rfl⟩,.inr ⟨pre++[x],trivial,hx2⟩⟩
   ·refine bodyPost_ret (results_none rfl _ _ _) rfl ?_
    exact⟨⟨_,rfl⟩,.inr ⟨pre++[x],trivial,hx2⟩⟩
  ·clear hstep
   gi_wp2_with fail
   go_end0
   exact⟨⟨_,rfl⟩,.inl ⟨pre,by have:=R.few;omega,R.j⟩⟩
theorem Kq(m:Nat)(Ts:List Nat)(Bs Bn:Nat)(s:ByteArray)(n:Int)(w:World)
 (hm:1<=m) (hle:s.size<=65536) (hs:w.cell? ⟨Bs,0,none⟩=some (.string s)) (hn:w.cell? ⟨Bn,0,none⟩=some (.int .i64 n)) (hok:zp Ts w) (hos:¬ zg Ts w Bs) (hon:¬ zg Ts w Bn) :
 SeqStopsK Fence.wide m prog 210 #[.pointer (some ⟨Bs,0,none⟩),.pointer (some ⟨Bn,0,none⟩)] (qdb n) (qR Ts) (fun ys=>ys.length<=65536) (fun _=>True) 65536 w:=
 fun l J Jx W hW hJ _ hY h0=>
  qcy m Ts Bs Bn l s n J Jx W hm hle (qb hW hs) (qb hW hn)
   (hok.below hW) (fun h=>hos ((zF hok hW _).1 h)) (fun h=>hon ((zF hok hW _).1 h)) hJ hY h0
end
section
attribute [local go_sem] Oper.semAt_some
def Zt(A B:World):Prop:=A.heap.size<=B.heap.size/\∀ (b:Nat) (o:Obj),A.heap[b]?=some o->o.isCells=true->B.heap[b]?=some o
theorem Zt.refl(A:World):Zt A A:=⟨vL _,fun _ _ h _=>h⟩
theorem Zt.trans{A B C:World}(h:Zt A B)(k:Zt B C):Zt A C:=⟨vR h.1 k.1,fun b o hb hc=>k.2 b o (h.2 b o hb hc) hc⟩
theorem Zt.put{A:World}{l:Nat}{o o':Obj}(h:A.heap[l]?=some o)(hc:o.isCells=false):Zt A (A.putObj l o'):=by
 refine⟨by simp,fun b p hp hpc=>?_⟩
 have:b≠l:=fun e=>by subst e;rw[hp] at h;cases h;rw[hc] at hpc;cases hpc
 exact(kP this).trans hp
theorem Zt.cell{A B:World}(h:Zt A B){p:Addr}{v:Value}(hc:A.cell? p=some v):B.cell? p=some v:=by
 have hex:∃o,A.heap[p.block]?=some o/\o.isCells=true:=by
  cases hh:A.heap[p.block]? with
  | none=>simp[World.cell?,hh] at hc
  | some o=>cases o <;> simp[World.cell?,hh,Obj.isCells] at hc ⊢
 obtain⟨o,ho1,ho2⟩:=hex
 rw[World.cell?_of_block (w:=A) ((h.2 _ o ho1 ho2).trans ho1.symm)];exact hc
theorem qfa{B0:Nat}{w W:World}{l:Nat}(o':Obj)(h:Below B0 w W)(hl:B0<=l):Below B0 w (W.putObj l o'):=
 h.trans ⟨rfl,rfl,rfl,by simp,fun k hk=>kP (by omega)⟩
def qlg(Ds:List Nat):List Deferred:=Ds.map fun D=>{ target:=.collected D,args:=#[] }
theorem Zz{F:Fence}{n:Nat}{P:Program}{fn:Func}{tmps:Array Value}{R:Ending->World->Prop}(base:Nat):∀ (Ds:List Nat) (W:World),Ds.Nodup->(∀D,D∈Ds->base<=D/\W.heap[D]?=some (.deferred (some []))) ->
 (∀W',Zt W W'->Below base W W'->LeavesInM F n P fn tmps R [] .returning W')->LeavesInM F n P fn tmps R (qlg Ds) .returning W
 | [],W,_,_,h=>h W (Zt.refl W) (kB _ W)
 |D::Ds,W,hnd,hD,h=>by
  obtain⟨hb,hk⟩:=hD D List.mem_cons_self
  obtain⟨hn1,hn2⟩:=List.nodup_cons.1 hnd
  refine⟨by simp,.inl ⟨_,_,rfl,run_takeDeferred hk,?_⟩⟩
  refine Zz base Ds _ hn2 (fun D' hD'=>?_) (fun W' h1 h2=>h W' ((Zt.put hk rfl).trans h1) ((qfa _ (kB _ W) hb).trans h2))
  obtain⟨hb',hk'⟩:=hD D' (List.mem_cons_of_mem _ hD')
  exact⟨hb',(kP (fun e=>hn1 (by rw[←e];exact hD'))).trans hk'⟩
abbrev qis:=Kk×Int
def JK(t:qis):List Value:=[.int .i64 t.1.1.kind,.string t.1.1.text,.int .i64 t.1.1.num,.int .i64 t.2,.int .i64 t.1.1.col]
def qgW(w:World)(ls:Array Value)(Ds:List Nat)(ts0:List qis)(n x:Int)(B:Nat)(pre:List Kk)(W:World):Prop:=
 (∃v,Boxed W (w.heap.size+1) 248 v/\W.ownsRow w.heap.size 252 5 v (ts0.length+pre.length) ((ts0++pre.map fun t=>(t,n)).flatMap JK)/\∀g,v.ownBlock=some g->w.heap.size+4<=g)/\BX w W /\
   qd W w.heap.size 9 ls/\(∃k s a l c,qd W (w.heap.size+1+1) 252 #[.int .i64 k,.string s,.int .i64 a,.int .i64 l,.int .i64 c])/\qd W (w.heap.size+1+1+1) 35 #[.int .i64 x] /\
   (∀D,D∈Ds->w.heap.size<=D/\D<B/\W.heap[D]?=some (.deferred (some [])))/\B<=W.heap.size
theorem yk{α β:Type}{B:Nat}{p:α->β->World->Prop}(h:∀a,OwnFrom B (p a)):OwnFrom B (fun s W=>∃a,p a s W):=fun s A C row ⟨a,ha⟩ hg hr=>⟨a,h a s A C row ha hg hr⟩
theorem qar(w:World)(ls:Array Value)(Ds:List Nat)(ts0:List qis)(n x:Int)(B:Nat)(hB:w.heap.size<=B):OwnFrom B (qgW w ls Ds ts0 n x B):=
 OwnFrom.and (Own.from (holdsRow_own _ _ _ _ _ (fun pre:List Kk=>ts0.length+pre.length) (fun pre=>(ts0++pre.map fun t=>(t,n)).flatMap JK) (fun _ v=>∀g,v.ownBlock=some g->w.heap.size+4<=g)) _)
  (OwnFrom.and (ownFrom_below (vL _) hB) (OwnFrom.and (Own.from (ja _ _ fun _=>_) _) (OwnFrom.and
    (yk fun k=>yk fun s=>yk fun a=>yk fun l=>yk fun c=>Own.from (ja _ _ fun _=>_) _) (OwnFrom.and (Own.from (ja _ _ fun _=>_) _)
      (OwnFrom.and (fun s A C row hs hg hr D hD=>⟨(hs D hD).1,(hs D hD).2.1,(hg.block D (qD (hs D hD).2.2) (fun e=>by have:=(hr D e.symm).1;have:=(hs D hD).2.1;omega)).trans (hs D hD).2.2⟩)
        (fun _ _ _ _ hs hg _=>vR hs hg.size))))))
theorem JL(sep:ByteArray):∀ (k:Nat) (s x:ByteArray),x∈Lib.splitB sep 0 k s->x.size<=s.size
 | 0,s,x,h=>by rw[Lib.splitB_zero] at h;simp at h;rw[h];exact vL _
 |k+1,s,x,h=>by
  unfold Lib.splitB at h
  split at h
  ·simp at h;rw[h];exact vL _
  ·rcases List.mem_cons.1 h with rfl|h
   ·simp;omega
   ·have:=JL sep k _ x h
    simp at this;omega
theorem qgX(s:ByteArray)(w:World)(hE:Env w)(hs:s.size<=20) :
 Calls prog 204 #[.string s,.string ⟨#[10]⟩] w fun e w'=>∃L:List ByteArray,1<=L.length/\L.length<=21/\(∀x,x∈L->x.size<=20)/\e = .returned (.slice (some ⟨w.heap.size,0,none⟩) L.length L.length)/\w'=w.alloc (.cells (L.map Value.string).toArray 9):=by
 obtain⟨m,hm⟩:=hE
 have C:=strings_Split s ⟨#[10]⟩ m w (by omega) hm (by decide)
 have hl:=Lib.splitB_all ⟨#[10]⟩ (by decide) 0 _ s rfl
 refine C.mono fun e w' ⟨he,hw⟩=>⟨Lib.splitB ⟨#[10]⟩ 0 (Lib.countB s ⟨#[10]⟩) s,by omega,?_,fun x hx=>vR (JL _ _ _ _ hx) hs,by rw[he,hl],hw⟩
 rw[hl]
 have:=Lib.countB_le ⟨#[10]⟩ (by decide) s.size s (vL _)
 omega
theorem qgY(s:ByteArray)(n:Int)(w:World)(hE:Env w)(hs:s.size<=65536) :
 Calls prog 205 #[.string s,.int .i64 n] w fun e w'=>
  e = .returned (.func (.func 210) #[] #[.pointer (some ⟨w.heap.size+1,0,none⟩),.pointer (some ⟨w.heap.size,0,none⟩)]) /\
  ∃ (t:ByteArray) (d:Nat),t.size<=s.size/\w'=((w.alloc (.cells #[.int .i64 n] 3)).alloc (.cells #[.string t] 9)).drewN d:=by
 obtain⟨m,hm⟩:=hE
 have C:=strings_Cut s ⟨#[35]⟩ m (w.alloc (.cells #[.int .i64 n] 3)) (by omega) (by rw[World.cell?_alloc_old _ _ _ (Nat.ne_of_lt (kW _ _ hm))];exact hm)
 have hsz:(⟨(Lib.cut s.data.toList (⟨#[35]⟩:ByteArray).data.toList).1.toArray⟩:ByteArray).size<=s.size:=by
  rw[Lib.size_eq,Lib.size_eq]
  unfold Lib.cut
  split
  ·simp;omega
  ·simp
 generalize(⟨(Lib.cut s.data.toList (⟨#[35]⟩:ByteArray).data.toList).1.toArray⟩:ByteArray)=t at C hsz
 generalize(⟨(Lib.cut s.data.toList (⟨#[35]⟩:ByteArray).data.toList).2.1.toArray⟩:ByteArray)=t2 at C
 generalize(Lib.cut s.data.toList (⟨#[35]⟩:ByteArray).data.toList).2.2=b2 at C
 clear hm
 go_enter func205,ntmps205
 go_wp2_with (go_at_call 209;refine C.mono ?_;clear C;rintro e w' ⟨rfl,d,rfl⟩)
 go_ret
 exact⟨rfl,t,d,hsz,rfl⟩
def qfb(w:World)(e:Ending)(w':World):Prop:=BX w w' /\
 ((∃l c x:Int,x≠0/\e = .returned (.tuple #[.slice none 0 0,.int .i64 l,.int .i64 c,.int .i64 x])) ∨
   ∃ (g n c:Nat) (k:Int) (t:ByteArray),e = .returned (.tuple #[.slice (some ⟨g,0,none⟩) (n+1) c,.int .i64 0,.int .i64 0,.int .i64 0])/\w'.cell? ⟨g,0,none⟩=some (.int .i64 k)/\w'.cell? ⟨g,1,none⟩=some (.string t)/\(k=1->xo t))
theorem qit(ts:List qis)(l c:Int)(hok:∀t,t∈ts->t.1.1.err=0):∃ (k:Int) (t:ByteArray) (r:List Value),ts.flatMap JK++[.int .i64 4,.string ⟨#[]⟩,.int .i64 0,.int .i64 l,.int .i64 c] = .int .i64 k :: .string t::r/\(k=1->xo t):=by
 cases ts with
 | nil=>exact⟨4,⟨#[]⟩,_,rfl,fun h=>absurd h (by decide)⟩
 | cons t r=>exact⟨t.1.1.kind,t.1.1.text,_,rfl,t.1.2.2 (hok t List.mem_cons_self)⟩
theorem qfc(s:ByteArray)(w:World)(hE:Env w)(hle:s.size<=20):Calls prog 199 #[.string s] w (qfb w):=by
 have C1:=qgX s w hE hle
 refine(callsIn_wide (n:=4)).1 ?_
 refine callsIn_of_wp_marks func199 rfl trivial ?_ rfl
 simp only[ntmps199,List.size_toArray,List.length_cons,List.length_nil,Nat.reduceAdd,Nat.reduceSub,Array.replicate_succ,Array.replicate_zero,List.push_toArray,List.append_toArray,List.nil_append,List.cons_append]
 gi_wp2
 apply ZY
 gi_wp2_with (refine⟨trivial,?_⟩;gi_at_call 204;refine(callsIn_wide.2 C1).mono ?_;rintro e w' ⟨L,hL1,hL2,hL3,rfl,rfl⟩)
 apply wpIn_label
 gi_wp2_with fail
 obtain⟨N,hN⟩:∃N,L.length=N:=⟨_,rfl⟩
 rw[hN] at hL1 hL2 ⊢
 replace hN:=vH hN
 obtain⟨ls,hls⟩:∃ls,(L.map Value.string).toArray=ls:=⟨_,rfl⟩
 rw[hls]
 generalize hW:((((w.alloc (.cells ls 9)).alloc (.cells #[.slice none 0 0] 248)).alloc (.cells #[.int .i64 0,.string ⟨#[]⟩,.int .i64 0,.int .i64 0,.int .i64 0] 252)).alloc (.cells #[.int .i64 0] 35))=W0
 have hJ0:qgW w ls [] [] 0 0 W0.heap.size [] W0:=by
  rw[←hW]
  refine⟨⟨_,?_,kO _ _ _ _,fun g hg=>(by cases hg)⟩,((qi.alloc (by simp) _).alloc (by simp;omega) _).alloc (by simp;omega) _,(((qd.new _ _ _).alloc _).alloc _).alloc _,⟨0,⟨#[]⟩,0,0,0,?_⟩,?_,fun D hD=>(by cases hD),vL _⟩
  ·have:=(Boxed.new (w.alloc (.cells ls 9)) 248 (.slice none 0 0))
   rw[vZ] at this
   exact(this.alloc _).alloc _
  ·have:=qd.new ((w.alloc (.cells ls 9)).alloc (.cells #[.slice none 0 0] 248)) 252 #[.int .i64 0,.string ⟨#[]⟩,.int .i64 0,.int .i64 0,.int .i64 0]
   simp only[vZ] at this;exact this.alloc _
  ·have:=qd.new (((w.alloc (.cells ls 9)).alloc (.cells #[.slice none 0 0] 248)).alloc (.cells #[.int .i64 0,.string ⟨#[]⟩,.int .i64 0,.int .i64 0,.int .i64 0] 252)) 35 #[.int .i64 0]
   simp only[vZ] at this;exact this
 have hz0:w.heap.size+4<=W0.heap.size:=by rw[←hW];simp
 have hline:∀k,k<N->∃x,ls[k]?=some (.string x)/\x.size<=20:=fun k hk=>by
  have hkl:k<L.length:=by rw[hN.out];exact hk
  exact⟨L[k],by rw[←hls];simp[hkl],hL3 _ (List.getElem_mem hkl)⟩
 clear hW C1 hls hL3 hN
 refine wpIn_loop (fun a W=>∃ (k:Nat) (ts:List qis) (Ds:List Nat) (u10 u11 u15 u16 u17 u18 u19 u23 u24 u25 u26 u27 u28 u29 u30 u41:Value),(k<=N/\Ds.Nodup/\(∀t,t∈ts->t.1.1.err=0)/\ts.length<=k*65536/\qgW w ls Ds ts 0 0 W.heap.size [] W)/\a = { tmps:=#[Value.string s,undef,Value.slice none 0 0,Value.int .i64 0,Value.int .i64 0,Value.int .i64 0,Value.slice (some ⟨w.heap.size,0,none⟩) N N,Value.pointer (some ⟨w.heap.size+1,0,none⟩),Value.pointer (some ⟨w.heap.size+1+1,0,none⟩),Value.pointer (some ⟨w.heap.size+1+1+1,0,none⟩),u10,u11,undef,undef,undef,u15,u16,u17,u18,u19,Value.slice (some ⟨w.heap.size,0,none⟩) N N,Value.int .i64 N,Value.int .i64 k,u23,u24,u25,u26,u27,u28,u29,u30,undef,undef,undef,undef,undef,undef,undef,undef,undef,undef,u41,undef,undef,undef,undef,undef,undef,undef,undef,undef,undef,undef,undef,undef,undef,undef,undef,undef,undef,undef,undef,undef],defers:=qlg Ds })
  (fun a _=>N-(intOf (a.tmps.getD 22 undef)).toNat) ⟨0,[],[],_,_,_,_,_,_,_,_,_,_,_,_,_,_,_,_,⟨vO _,List.nodup_nil,fun t ht=>(by cases ht),vO _,hJ0⟩,rfl⟩ ?_
 clear hJ0
 rintro a W ⟨k,ts,Ds,u10,u11,u15,u16,u17,u18,u19,u23,u24,u25,u26,u27,u28,u29,u30,u41,⟨hk,hnd,hok,hfew,⟨v,hv,hrow,hvo⟩,hB,hls,⟨k0,s0,a0,l0,c0,h8⟩,h9,hDs,_⟩,rfl⟩
 have kp:(0:Int)<=k:=vN _
 have hz4:w.heap.size+1+1+1<W.heap.size:=h9.lt
 by_cases hlt:k<N
 ·obtain⟨x,hx,hx20⟩:=hline k hlt
  have cl:=hls.cell hx
  have hkI:(k:Int)<N:=by omega
  have hi:IntKind.i64.wrap ((k:Int)+1)=k+1:=vI _ (by omega)
  have C2:=qgY x (k+1) W (hE.below hB) (by omega)
  gi_wp2_with (refine⟨trivial,?_⟩;gi_at_call 205;refine(callsIn_wide.2 C2).mono ?_;clear C2;rintro e w' ⟨rfl,t,d,ht,rfl⟩)
  generalize hW1:((W.alloc (.cells #[.int .i64 (k+1)] 3)).alloc (.cells #[.string t] 9)).drewN d=We
  have hBd:BX W We:=by rw[←hW1];exact below_drewN (qi.alloc (by simp) _) d
  have hze:We.heap.size=W.heap.size+2:=by rw[←hW1];simp
  have hse:qd We (W.heap.size+1) 9 #[.string t]:=by
   rw[←hW1]
   have:=qd.new (W.alloc (.cells #[.int .i64 (k+1)] 3)) 9 #[.string t]
   rw[vZ] at this;exact this
  have hne:qd We W.heap.size 3 #[.int .i64 (k+1)]:=by
   rw[←hW1];exact(qd.new W 3 #[.int .i64 (k+1)]).alloc _
  have hJe:qgW w ls Ds ts (k+1) 0 We.heap.size [] We:=⟨⟨v,(hBd.block _ (qD hv)).trans hv,by simpa using qe hrow hBd,hvo⟩,hB.trans (hBd.mono hB.size),hls.below hBd hls.lt,⟨k0,s0,a0,l0,c0,h8.below hBd h8.lt⟩,h9.below hBd h9.lt,
   fun D hD=>⟨(hDs D hD).1,by have:=(hDs D hD).2.1;omega,(hBd.block D (qD (hDs D hD).2.2)).trans (hDs D hD).2.2⟩,vL _⟩
  clear hW1 hv hrow h8 h9 cl
  obtain⟨⟨v',hv',hrow',_⟩,hBe,_⟩:=id hJe
  have hTs:∀b,zg [w.heap.size+1] We b->b=w.heap.size+1∨∃cur,qd We b 252 cur:=fun b hb=>by
   rcases XF hv' hb with h|⟨a,n,c,h,ha⟩
   ·exact .inl h
   ·exact .inr (qf hrow' (by rw[h,←ha];rfl)).2
  have hokT:zp [w.heap.size+1] We:=fun b hb=>by
   rcases hTs b hb with rfl|⟨cur,hc⟩
   ·exact qD hv'
   ·exact hc.lt
  have hnoT:∀ {b t' cs},qd We b t' cs->b≠w.heap.size+1->t'≠252->¬ zg [w.heap.size+1] We b:=fun {b t' cs} hc hne ht' hb=>by
   rcases hTs b hb with h|⟨cur,hc2⟩
   ·exact hne h
   ·have:=(show We.heap[b]?=_ from hc).symm.trans (show We.heap[b]?=_ from hc2)
    cases this;exact ht' rfl
  refine wpIn_rangeFunc_ownH (F:=Fence.wide) rfl (by omega) (gf:=210) (lb:=#[.pointer (some ⟨W.heap.size+1,0,none⟩),.pointer (some ⟨W.heap.size,0,none⟩)]) rfl trivial (enters_of func210 (by kernel_rfl) rfl)
   (Kq 3 [w.heap.size+1] (W.heap.size+1) W.heap.size t (k+1) We (by omega) (by omega) (hse.cell rfl) (hne.cell rfl) hokT (hnoT hse (by omega) (by decide)) (hnoT hne (by omega) (by decide))) qdi (Zg (by simp;omega)) (kB _ _) (fun _=>rfl)
   (fun pre W=>qgW w ls Ds ts (k+1) 0 We.heap.size pre W/\∀t,t∈pre->t.1.err=0) (fun c _ W=>c = .exit 0/\∃ (pre:List Kk) (y:Int),y≠0/\qgW w ls Ds ts (k+1) y We.heap.size pre W)
   (OwnFrom.and (qar w ls Ds ts (k+1) 0 We.heap.size hBe.size) (ownFrom_pure _ _)) (fun c=>OwnFrom.and (ownFrom_pure _ _) (yk fun pre=>yk fun y=>OwnFrom.and (ownFrom_pure _ _) (fun s A C row h hg hr=>qar w ls Ds ts (k+1) y We.heap.size hBe.size pre A C row h hg hr)))
   ⟨hJe,fun t ht=>(by cases ht)⟩
   (fun x a' W=>∃ (Bt:Nat) (v0 v1 v2 v3 v4 v5 v6 v10 v11 v14 v15 v16 v17 v18 v19 v20 v21 v22 v23 v24 v25 v26 v27 v28 v29 v30 v31 v32 v33 v34 v35 v36 v37 v38 v39 v40 v41 v42 v43 v44 v45 v46 v47 v48 v49 v50 v51 v52 v53 v54 v55 v56 v57 v58 v59 v60 v61 v62:Value),We.heap.size<=Bt/\qd W Bt 252 #[.int .i64 x.1.kind,.string x.1.text,.int .i64 x.1.num,.int .i64 (k+1),.int .i64 x.1.col]/\a' = { tmps:=#[v0,v1,v2,v3,v4,v5,v6,Value.pointer (some ⟨w.heap.size+1,0,none⟩),Value.pointer (some ⟨w.heap.size+1+1,0,none⟩),Value.pointer (some ⟨w.heap.size+1+1+1,0,none⟩),v10,v11,Value.pointer (some ⟨Bt,0,none⟩),Value.int .i64 x.1.err,v14,v15,v16,v17,v18,v19,v20,v21,v22,v23,v24,v25,v26,v27,v28,v29,v30,v31,v32,v33,v34,v35,v36,v37,v38,v39,v40,v41,v42,v43,v44,v45,v46,v47,v48,v49,v50,v51,v52,v53,v54,v55,v56,v57,v58,v59,v60,v61,v62],defers:=[] })
   (fun x a'=>fun _ A B row hs hg hr=>by
     obtain⟨Bt,v0,v1,v2,v3,v4,v5,v6,v10,v11,v14,v15,v16,v17,v18,v19,v20,v21,v22,v23,v24,v25,v26,v27,v28,v29,v30,v31,v32,v33,v34,v35,v36,v37,v38,v39,v40,v41,v42,v43,v44,v45,v46,v47,v48,v49,v50,v51,v52,v53,v54,v55,v56,v57,v58,v59,v60,v61,v62,h1,h2,h3⟩:=hs
     exact⟨Bt,v0,v1,v2,v3,v4,v5,v6,v10,v11,v14,v15,v16,v17,v18,v19,v20,v21,v22,v23,v24,v25,v26,v27,v28,v29,v30,v31,v32,v33,v34,v35,v36,v37,v38,v39,v40,v41,v42,v43,v44,v45,v46,v47,v48,v49,v50,v51,v52,v53,v54,v55,v56,v57,v58,v59,v60,v61,v62,h1,ja (β:=Unit) Bt _ (fun _=>_) () A B row h2 hg (fun r e=>(hr r e).2),h3⟩)
   ?assign ?body ?done ?stop
  case assign=>
   rintro l pre x W2 K hi hK
   unfold qdb
   gi_wp2
   have hb:=hi.1.2.2.2.2.2.2
   refine hK _ _ ((KeepsOthers.alloc _ _).from _) (qR.of_below ((kB _ W2).alloc (vL _) _)) ?_ ⟨W2.heap.size,_,_,_,_,_,_,_,_,_,_,_,_,_,_,_,_,_,_,_,_,_,_,_,_,_,_,_,_,_,_,_,_,_,_,_,_,_,_,_,_,_,_,_,_,_,_,_,_,_,_,_,_,_,_,_,_,_,_,hb,qd.new W2 _ _,rfl⟩
   exact⟨(qar w ls Ds ts (k+1) 0 We.heap.size hBe.size).alloc _ hi.1,hi.2⟩
  case body=>
   rintro l pre x a' W2 hl ⟨r,hr⟩ ⟨⟨⟨vB,hv2,hrow2,hvo2⟩,hB2,hls2,⟨k2,s2,a2,l2,c2,h82⟩,h92,hDs2,hz2⟩,hpre⟩ ⟨Bt,v0,v1,v2,v3,v4,v5,v6,v10,v11,v14,v15,v16,v17,v18,v19,v20,v21,v22,v23,v24,v25,v26,v27,v28,v29,v30,v31,v32,v33,v34,v35,v36,v37,v38,v39,v40,v41,v42,v43,v44,v45,v46,v47,v48,v49,v50,v51,v52,v53,v54,v55,v56,v57,v58,v59,v60,v61,v62,hBt,bT,rfl⟩ hlen
   have c0:=bT.cell (j:=0) rfl
   have c1:=bT.cell (j:=1) rfl
   have c2':=bT.cell (j:=2) rfl
   have c3:=bT.cell (j:=3) rfl
   have c4:=bT.cell (j:=4) rfl
   have cv:=hv2.cell
   have hlt8:=h82.lt
   have hlt9:=h92.lt
   have hltv:=qD (show W2.heap[w.heap.size+1]?=_ from hv2)
   have hltl:=hls2.lt
   by_cases hx0:x.1.err=0
   ·obtain⟨i0,hi0,hz0',hz1,hz2'⟩:=info_parts qab
    rw[hx0]
    gi_wp2_with (gi_at_builtin;refine wpListIn_append_own_at _ rfl _ _ 248 rfl w.heap.size 252 i0 _ 5 48 underlying248 hi0 hz0' hz1 hz2' rfl (by decide) _ _ _ rfl (hrow2.alloc _) ⟨W2.heap.size,0,none⟩ 1 1 [.int .i64 x.1.kind,.string x.1.text,.int .i64 x.1.num,.int .i64 (k+1),.int .i64 x.1.col] rfl rfl (zo _ _ _ _ rfl) (by simp[Value.oneCell']) (by unfold maxLen;omega) (by omega) (by rw[vZ];omega) ?_;go_loud (intro v' w1 hown' hgrow _ hblk;obtain⟨g',cap',rfl⟩:=ownsRow_succ hown';have hap:=hv2.appended (by decide) hrow2 (by omega) (by omega) hown' hgrow;have hc1:=hap.1.cell;have hf1:=hap.1.frozen))
    refine⟨hap.2.2.2.1.from _,ZV (show qd W2 _ _ #[vB] from hv2) rfl (by decide) hrow2 hown' hgrow hblk,⟨⟨_,hap.2.1,?_,?_⟩,hB2.trans hap.2.2.2.2,?_,⟨k2,s2,a2,l2,c2,?_⟩,?_,fun D hD=>⟨(hDs2 D hD).1,(hDs2 D hD).2.1,hap.2.2.2.1.same D _ (hDs2 D hD).2.2 rfl⟩,vR hz2 hap.2.2.2.1.size⟩,fun t ht=>?_⟩
    ·have:=hap.2.2.1
     simpa[JK,Nat.add_assoc] using this
    ·intro g hg
     rcases hblk with h|h
     ·exact hvo2 g (h ▸ hg)
     ·rw[h] at hg
      have:W2.heap.size+1=g:=by simpa using hg
      omega
    ·exact((hls2.alloc _).kept hgrow (hls2.not_row (by decide) hrow2)).other (by omega) _
    ·exact((h82.alloc _).kept hgrow (fun e=>by have:=hvo2 _ e.symm;omega)).other (by omega) _
    ·exact((h92.alloc _).kept hgrow (h92.not_row (by decide) hrow2)).other (by omega) _
    ·rcases vC.1 ht with ht|ht
     ·exact hpre t ht
     ·obtain rfl:t=x:=by simpa using ht
      exact hx0
   ·have hne0:(x.1.err != 0)=true:=by simpa using hx0
    have f8:=h82.frozen
    have f9:=h92.frozen 0
    have q0:=h82.cell (j:=0) rfl
    have q1:=h82.cell (j:=1) rfl
    have q2:=h82.cell (j:=2) rfl
    have q3:=h82.cell (j:=3) rfl
    have q4:=h82.cell (j:=4) rfl
    have q9:=h92.cell (j:=0) rfl
    gi_wp2_with fail
    have hvc:qd W2 (w.heap.size+1) 248 #[vB]:=hv2
    have g1:=(((((h82.set (j:=0) (.int .i64 x.1.kind)).set (j:=1) (.string x.1.text)).set (j:=2) (.int .i64 x.1.num)).set (j:=3) (.int .i64 (k+1))).set (j:=4) (.int .i64 x.1.col))
    have gl:=(((((hls2.other (T:=w.heap.size+1+1) (j:=0) (by omega) (.int .i64 x.1.kind)).other (T:=w.heap.size+1+1) (j:=1) (by omega) (.string x.1.text)).other (T:=w.heap.size+1+1) (j:=2) (by omega) (.int .i64 x.1.num)).other (T:=w.heap.size+1+1) (j:=3) (by omega) (.int .i64 (k+1))).other (T:=w.heap.size+1+1) (j:=4) (by omega) (.int .i64 x.1.col))
    have gv:=(((((hvc.other (T:=w.heap.size+1+1) (j:=0) (by omega) (.int .i64 x.1.kind)).other (T:=w.heap.size+1+1) (j:=1) (by omega) (.string x.1.text)).other (T:=w.heap.size+1+1) (j:=2) (by omega) (.int .i64 x.1.num)).other (T:=w.heap.size+1+1) (j:=3) (by omega) (.int .i64 (k+1))).other (T:=w.heap.size+1+1) (j:=4) (by omega) (.int .i64 x.1.col))
    have ge:=(((((h92.other (T:=w.heap.size+1+1) (j:=0) (by omega) (.int .i64 x.1.kind)).other (T:=w.heap.size+1+1) (j:=1) (by omega) (.string x.1.text)).other (T:=w.heap.size+1+1) (j:=2) (by omega) (.int .i64 x.1.num)).other (T:=w.heap.size+1+1) (j:=3) (by omega) (.int .i64 (k+1))).other (T:=w.heap.size+1+1) (j:=4) (by omega) (.int .i64 x.1.col))
    have hsz2:∀ (p:Addr) (v:Value) (W:World),(W.setCell p v).heap.size=W.heap.size:=fun p v W=>by simp
    have hk8:∀ (W:World) (b j:Nat) (u:Value),b<w.heap.size+4->W.ownsRow w.heap.size 252 5 vB (ts.length+pre.length) ((ts++pre.map fun t=>(t,(k+1:Int))).flatMap JK)->(W.setCell ⟨b,j,none⟩ u).ownsRow w.heap.size 252 5 vB (ts.length+pre.length) ((ts++pre.map fun t=>(t,(k+1:Int))).flatMap JK):=fun W b j u hb h=>
     h.kept (qZ W b j u) (.inr fun e1=>by have:=hvo2 b e1;omega)
    have gr:=hk8 _ _ 0 (.int .i64 x.1.err) (by omega:w.heap.size+1+1+1<w.heap.size+4) (hk8 _ _ 4 (.int .i64 x.1.col) (by omega:w.heap.size+1+1<w.heap.size+4) (hk8 _ _ 3 (.int .i64 (k+1)) (by omega:w.heap.size+1+1<w.heap.size+4) (hk8 _ _ 2 (.int .i64 x.1.num) (by omega:w.heap.size+1+1<w.heap.size+4) (hk8 _ _ 1 (.string x.1.text) (by omega:w.heap.size+1+1<w.heap.size+4) (hk8 W2 _ 0 (.int .i64 x.1.kind) (by omega:w.heap.size+1+1<w.heap.size+4) hrow2)))))
    have hKO:=(((((KeepsOthers.setCell W2 ⟨w.heap.size+1+1,0,none⟩ (.int .i64 x.1.kind)).trans (KeepsOthers.setCell _ ⟨w.heap.size+1+1,1,none⟩ (.string x.1.text))).trans (KeepsOthers.setCell _ ⟨w.heap.size+1+1,2,none⟩ (.int .i64 x.1.num))).trans (KeepsOthers.setCell _ ⟨w.heap.size+1+1,3,none⟩ (.int .i64 (k+1)))).trans (KeepsOthers.setCell _ ⟨w.heap.size+1+1,4,none⟩ (.int .i64 x.1.col))).trans (KeepsOthers.setCell _ ⟨w.heap.size+1+1+1,0,none⟩ (.int .i64 x.1.err))
    have hBs:=(((((hB2.setCell (p:=⟨w.heap.size+1+1,0,none⟩) (by simp;omega) (.int .i64 x.1.kind)).setCell (p:=⟨w.heap.size+1+1,1,none⟩) (by simp;omega) (.string x.1.text)).setCell (p:=⟨w.heap.size+1+1,2,none⟩) (by simp;omega) (.int .i64 x.1.num)).setCell (p:=⟨w.heap.size+1+1,3,none⟩) (by simp;omega) (.int .i64 (k+1))).setCell (p:=⟨w.heap.size+1+1,4,none⟩) (by simp;omega) (.int .i64 x.1.col)).setCell (p:=⟨w.heap.size+1+1+1,0,none⟩) (by simp;omega) (.int .i64 x.1.err)
    exact⟨hKO.from _,rfl,pre,x.1.err,hx0,⟨vB,gv.other (by omega) _,gr,hvo2⟩,hBs,gl.other (by omega) _,⟨_,_,_,_,_,g1.other (by omega) _⟩,ge.set (j:=0) (.int .i64 x.1.err),fun D hD=>⟨(hDs2 D hD).1,(hDs2 D hD).2.1,hKO.same D _ (hDs2 D hD).2.2 rfl⟩,vR hz2 hKO.size⟩
  case done=>
   rintro D ys W2 hD _ ⟨⟨⟨v2,hv2,hrow2,hvo2⟩,hB2,hls2,h82,h92,hDs2,hz2⟩,hys⟩ hK
   gi_wp2_with fail
   refine⟨⟨k+1,ts++ys.map fun t=>(t,(k+1:Int)),D::Ds,_,_,_,_,_,_,_,_,_,_,_,_,_,_,_,_,⟨by omega,?_,?_,?_,?_⟩,rfl⟩,?_⟩
   ·exact List.nodup_cons.2 ⟨fun hm=>by have:=(hDs2 D hm).2.1;omega,hnd⟩
   ·intro t ht
    rcases vC.1 ht with ht|ht
    ·exact hok t ht
    ·obtain⟨t',ht',rfl⟩:=List.mem_map.1 ht
     exact hys t' ht'
   ·simp only[kA,vP];omega
   ·exact⟨⟨v2,hv2,by simpa using hrow2,hvo2⟩,hB2,hls2,h82,h92,fun D' hD'=>by
     rcases List.mem_cons.1 hD' with rfl|hD'
     ·exact⟨vR hBe.size hD,qD hK,hK⟩
     ·exact⟨(hDs2 D' hD').1,vW (hDs2 D' hD').2.1 hz2,(hDs2 D' hD').2.2⟩,vL _⟩
   ·simp[intOf];omega
  case stop=>
   rintro D c pre W2 hD _ ⟨rfl,pre2,y,hy0,⟨v2,hv2,hrow2,_⟩,hB2,hls2,⟨k2,s2,a2,l2,c2,h82⟩,h92,hDs2,hz2⟩ hK
   have hy1:(y != 0)=true:=by simpa using hy0
   have q9:=h92.cell (j:=0) rfl
   have q3:=h82.cell (j:=3) rfl
   have q4:=h82.cell (j:=4) rfl
   gi_wp2_with fail
   refine wpIn_wide.2 ?_
   go_quiet (fail)
   gi_wp2_with fail
   rw[Exit.noGoto_ret]
   refine Zz w.heap.size (D::Ds) (W2.drewN nq) (List.nodup_cons.2 ⟨fun hm=>by have:=(hDs2 D hm).2.1;omega,hnd⟩) (fun D' hD'=>?_) (fun W' h1 h2=>?_)
   ·rcases List.mem_cons.1 hD' with rfl|hD'
    ·exact⟨vR hBe.size hD,hK⟩
    ·exact⟨(hDs2 D' hD').1,(hDs2 D' hD').2.2⟩
   ·exact⟨.tuple #[.slice none 0 0,.int .i64 l2,.int .i64 c2,.int .i64 y],by simp[results,f199,go_sem],(below_drewN hB2 nq).trans h2,.inl ⟨l2,c2,y,hy0,rfl⟩⟩
 ·obtain rfl:k=N:=by omega
  obtain⟨xl,hxl,hxl20⟩:=hline (k-1) (by omega)
  have hrow1:W.ownsRow w.heap.size 252 5 v ts.length (ts.flatMap JK):=by simpa using hrow
  obtain⟨va,vc,rfl⟩:=qx hrow1
  obtain⟨M,hM⟩:∃M,ts.length=M:=⟨_,rfl⟩
  rw[hM] at hrow1 hv hfew
  have hrowM:W.ownsRow w.heap.size 252 5 (.slice va M vc) M (ts.flatMap JK):=hrow1
  have cl:=hls.cell hxl
  have c9:=h9.cell (j:=0) rfl
  have cv:=hv.cell
  have hwr:IntKind.i64.wrap ((xl.size:Int)+1)=xl.size+1:=vI _ (by omega)
  have hwk:IntKind.i64.wrap ((k:Int)-1)=((k-1:Nat):Int):=by rw[vI _ (by omega)];omega
  have hk1:((k-1:Nat):Int)<k:=by omega
  have hk0:(0:Int)<=((k-1:Nat):Int):=by omega
  have hlt:w.heap.size<W.heap.size:=hls.lt
  have hlt7:w.heap.size+1<W.heap.size:=qD hv
  have hn7:=hv.not_row (by decide) hrowM
  have hnl:=hls.not_row (by decide) hrowM
  obtain⟨i0,hi0,hz0',hz1,hz2'⟩:=info_parts qab
  gi_wp2_with fail
  refine wpIn_wide.2 ?_
  clear hrow hrow1 hv h8 h9
  go_region_held3 (fun w'=>w'.cell? ⟨w.heap.size+1,0,none⟩=some (.slice va M vc)/\w'.cell? ⟨w.heap.size,k-1,none⟩=some (.string xl))
   (first
     | go_keep
     |(go_split_ands
       refine⟨?_,?_⟩
       ·(rw[hgrow.cell_far _ (by simp;omega) hn7];assumption)
       ·(rw[hgrow.cell_far _ (by simp;omega) hnl];assumption)))
   ((refine step_append_lies _ (by rfl) _ _ _ (by rfl) w.heap.size 252 i0 _ 5 48 underlying248 hi0 hz0' hz1 hz2' rfl (by omega) (.slice va M vc) M (ts.flatMap JK) (by rfl) ((hrowM.alloc _).drew)
      ⟨W.heap.size,0,none⟩ 1 1 [.int .i64 4,.string ⟨#[]⟩,.int .i64 0,.int .i64 k,.int .i64 (xl.size+1)] (by rfl) (by rfl) (World.news_of_block (cs:=#[.int .i64 4,.string ⟨#[]⟩,.int .i64 0,.int .i64 k,.int .i64 (xl.size+1)]) (t:=252) (fr:=(0,0)) (heap_alloc_new W _)) (by simp[Value.oneCell'])
      (by omega) (by unfold maxLen;omega) (by omega) (by simp;omega) (W.heap.size+1) (by simp) ?_;intro gg cap1 w1 hown1 hgrow hat hlt2))
  clear hwr hwk
  gi_wp2_with fail
  rw[Exit.noGoto_ret]
  have hge:∀g,(Value.slice va M vc).ownBlock=some g->w.heap.size<=g/\∃cur,qd W g 252 cur:=fun g hg=>qf hrowM hg
  have hB1:BX w w1:=((hB.alloc hB.size _).drew).grown hgrow (by simp;omega) (fun g e=>(hge g e).1)
  refine Zz w.heap.size Ds w1 hnd (fun D hD=>⟨(hDs D hD).1,?_⟩) (fun W' h1 h2=>?_)
  ·obtain⟨_,_,hK⟩:=hDs D hD
   exact(hgrow.block D (by simp;have:=qD hK;omega) (fun e=>by
    obtain⟨_,cur,hc⟩:=hge D e.symm
    have:=(show W.heap[D]?=_ from hc).symm.trans hK
    cases this)).trans ((Below.heap_alloc _ _ D (qD hK)).trans hK)
  ·obtain⟨kk,tt,rr,hft,hname⟩:=qit ts k (xl.size+1) hok
   have g0:=qu hown1 (j:=0) (v:=.int .i64 kk) (by rw[hft];rfl)
   have g1:=qu hown1 (j:=1) (v:=.string tt) (by rw[hft];rfl)
   exact⟨.tuple #[.slice (some ⟨gg,0,none⟩) (M+1) cap1,.int .i64 0,.int .i64 0,.int .i64 0],by simp[results,f199,go_sem],hB1.trans h2,.inr ⟨gg,M,cap1,kk,tt,rfl,h1.cell g0,h1.cell g1,hname⟩⟩
end
end Go.Proofs.YtomlgdnafeeeiaaGreatDoor
